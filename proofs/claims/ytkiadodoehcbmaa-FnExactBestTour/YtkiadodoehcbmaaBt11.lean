/-
  The best round, plain: all orders that begin so, and the first best of them.
-/
import Derived.Test.YtkiadodoehcbmaaRg11
namespace Go.Proofs.Ytkiadodoehcbmaa.Rt

def costN (L : List (Int × Int)) (b : List Nat) : Int := tour L (b.map fun x : Nat => (x : Int))
/-- As the model seeks: the first best of the bests. -/
def bo (L : List (Int × Int)) (n : Nat) : Nat → List Nat → List Nat
  | 0, b => b
  | f + 1, b => (fb (costN L) none ((outs b n).map fun k => bo L n f (b ++ [k]))).getD []
def boTo (L : List (Int × Int)) (n f : Nat) (b : List Nat) (k : Nat) : Option (List Nat) := fb (costN L) none ((outs b k).map fun x => bo L n f (b ++ [x]))
theorem boTo_succ (L : List (Int × Int)) (n f : Nat) (b : List Nat) (k : Nat) : boTo L n f b (k + 1) = if b.contains k then boTo L n f b k else comb (costN L) (boTo L n f b k) (some (bo L n f (b ++ [k]))) := by
  unfold boTo
  rw [outs_succ]
  split
  · rfl
  · rw [List.map_append, fb_append]; rfl
/-- As the program yields: all orders that begin so. -/
def ords (n : Nat) : Nat → List Nat → List (List Nat)
  | 0, b => [b]
  | f + 1, b => (outs b n).flatMap fun k => ords n f (b ++ [k])
/-- The orders of the first k that may come next. -/
def ordsTo (n f : Nat) (b : List Nat) (k : Nat) : List (List Nat) := (outs b k).flatMap fun x => ords n f (b ++ [x])
theorem ordsTo_succ (n f : Nat) (b : List Nat) (k : Nat) : ordsTo n f b (k + 1) = if b.contains k then ordsTo n f b k else ordsTo n f b k ++ ords n f (b ++ [k]) := by
  unfold ordsTo
  rw [outs_succ]
  split
  · rfl
  · rw [List.flatMap_append]; simp
/-- A beginning: no two alike, f are to come. -/
structure Bg (n f : Nat) (b : List Nat) : Prop where
  nd : b.Nodup
  lt : ∀ x ∈ b, x < n
  len : b.length + f = n
theorem Bg.add {n f : Nat} {b : List Nat} (h : Bg n (f + 1) b) {k : Nat} (hk : k < n) (hm : ¬ k ∈ b) : Bg n f (b ++ [k]) :=
  ⟨by rw [List.nodup_append]; exact ⟨h.nd, by simp, fun x hx y hy e => by simp at hy; subst hy; subst e; exact hm hx⟩, fun x hx => by
    rcases List.mem_append.1 hx with hx | hx
    · exact h.lt x hx
    · simp at hx; omega, by have := h.len; simp; omega⟩
theorem mem_outs {b : List Nat} {k x : Nat} (h : x ∈ outs b k) : x < k ∧ ¬ x ∈ b := by
  have := List.mem_filter.1 h
  exact ⟨List.mem_range.1 this.1, by simpa using this.2⟩
theorem outs_ne {n f : Nat} {b : List Nat} (h : Bg n (f + 1) b) : outs b n ≠ [] := by
  have : ∃ k, k < n ∧ ¬ k ∈ b := Classical.byContradiction fun hno => by
    have := (List.nodup_range (n := n)).length_le_of_subset (l₂ := b) (fun x hx => Classical.byContradiction fun hm => hno ⟨x, List.mem_range.1 hx, hm⟩)
    rw [List.length_range] at this; have := h.len; omega
  obtain ⟨k, hk, hm⟩ := this
  have h0 : k ∈ outs b n := List.mem_filter.2 ⟨List.mem_range.2 hk, by simpa using hm⟩
  intro e; rw [e] at h0; cases h0
/-- The first best of many is the first best of the bests of each. -/
theorem fb_flat {α β : Type} (f : β → Int) (g : α → List β) (h : α → β) : ∀ (l : List α), (∀ x ∈ l, fb f none (g x) = some (h x)) → fb f none (l.flatMap g) = fb f none (l.map h)
  | [], _ => rfl
  | x :: l, hx => by
    rw [List.flatMap_cons, List.map_cons, fb_append, hx x (by simp), fb_comb f (l.flatMap g), fb_flat f g h l (fun y hy => hx y (by simp [hy]))]
    exact (fb_comb f (l.map h) (some (h x))).symm
theorem bo_all (L : List (Int × Int)) (n : Nat) : ∀ (f : Nat) {b : List Nat}, Bg n f b → fb (costN L) none (ords n f b) = some (bo L n f b) ∧ Bg n 0 (bo L n f b)
  | 0, b, h => ⟨rfl, h⟩
  | f + 1, b, h => by
    have e := fb_flat (costN L) (fun k => ords n f (b ++ [k])) (fun k => bo L n f (b ++ [k])) (outs b n) fun x hx => (bo_all L n f (h.add (mem_outs hx).1 (mem_outs hx).2)).1
    obtain ⟨y, hy, hm⟩ := fb_some (costN L) ((outs b n).map fun k => bo L n f (b ++ [k])) none (Or.inr (by simp [outs_ne h]))
    have ey : bo L n (f + 1) b = y := by
      show (fb (costN L) none ((outs b n).map fun k => bo L n f (b ++ [k]))).getD [] = y
      rw [hy]; rfl
    refine ⟨?_, ?_⟩
    · show fb (costN L) none ((outs b n).flatMap fun k => ords n f (b ++ [k])) = _
      rw [e, hy, ey]
    · rw [ey]
      rcases hm with hm | hm
      · cases hm
      · obtain ⟨k, hk, rfl⟩ := List.mem_map.1 hm
        exact (bo_all L n f (h.add (mem_outs hk).1 (mem_outs hk).2)).2
/-- Each of all orders is one. -/
theorem ords_bg (n : Nat) : ∀ (f : Nat) {b : List Nat}, Bg n f b → ∀ x ∈ ords n f b, Bg n 0 x
  | 0, b, h, x, hx => by simp [ords] at hx; subst hx; exact h
  | f + 1, b, h, x, hx => by
    obtain ⟨k, hk, hx⟩ := List.mem_flatMap.1 hx
    exact ords_bg n f (h.add (mem_outs hk).1 (mem_outs hk).2) x hx
/-- What is best so far is none, or an order. -/
theorem boTo_some {L : List (Int × Int)} {n f k : Nat} {b : List Nat} (h : Bg n (f + 1) b) (hk : k ≤ n) {x : List Nat} (hx : boTo L n f b k = some x) : Bg n 0 x := by
  by_cases h0 : (outs b k) = []
  · unfold boTo at hx; rw [h0] at hx; cases hx
  · obtain ⟨y, hy, hm⟩ := fb_some (costN L) ((outs b k).map fun k => bo L n f (b ++ [k])) none (Or.inr (by simp [h0]))
    have e : y = x := by unfold boTo at hx; rw [hx] at hy; cases hy; rfl
    subst e
    rcases hm with hm | hm
    · cases hm
    · obtain ⟨j, hj, rfl⟩ := List.mem_map.1 hm
      exact (bo_all L n f (h.add (by have := (mem_outs hj).1; omega) (mem_outs hj).2)).2
theorem boTo_end {L : List (Int × Int)} {n f : Nat} {b : List Nat} : bo L n (f + 1) b = (boTo L n f b n).getD [] := rfl
theorem boTo_full (L : List (Int × Int)) {n f : Nat} {b : List Nat} (h : Bg n (f + 1) b) : boTo L n f b n = some (bo L n (f + 1) b) := by
  obtain ⟨y, hy, _⟩ := fb_some (costN L) ((outs b n).map fun k => bo L n f (b ++ [k])) none (Or.inr (by simp [outs_ne h]))
  have e : boTo L n f b n = some y := hy
  rw [boTo_end, e]; rfl
theorem bg_zero {n : Nat} (h : 1 ≤ n) : Bg n (n - 1) [0] := ⟨by simp, fun x hx => by simp at hx; omega, by simp; omega⟩
theorem bg_in {L : List (Int × Int)} {n f : Nat} {b : List Nat} (hn : L.length = n) (h : Bg n f b) : InB L (b.map fun x : Nat => (x : Int)) := fun i hi => by
  have hi' : i < b.length := by simpa using hi
  refine ⟨b.getD i 0, by simp [List.getD_eq_getElem?_getD, List.getElem?_eq_getElem hi'], ?_⟩
  rw [hn]
  refine h.lt _ ?_
  rw [List.getD_eq_getElem?_getD, List.getElem?_eq_getElem hi']
  exact List.getElem_mem hi'
/-- What BestTour answers. -/
def btN (L : List (Int × Int)) : List Nat := bo L L.length (L.length - 1) [0]
def btL (L : List (Int × Int)) : List Int := if stopsB L then (btN L).map fun x : Nat => (x : Int) else []
def btI (L : List (Int × Int)) : Int := if stopsB L then tour L (btL L) else 0
end Go.Proofs.Ytkiadodoehcbmaa.Rt
