/-
  In one: Jb, Aa14, Jc0, Pm, Pn, Jm10, Ab14, Ac14, Dr14, Mm14, Ad14, Ae14, Ha, Hb, Hc, Fr13, Rf14.
-/
import Derived.Test.YtebohpgdhbammaaZ1
import Derived.Deep.RegionHeld3
import Derived.Deep.DeepCutAuto
import Derived.Deep.RegionLaw
import Derived.Deep.AppendLies
import Derived.Laws.EntriesVeiled
import Derived.Shelf.Abstract
import Derived.BigQuiet
namespace Go.Proofs.Ytebohpgdhbammaa.Ma

/-- All lists of n yes or no. -/
def alls : Nat → List (List Bool)
  | 0 => [[]]
  | n + 1 => (alls n).flatMap fun l => [false :: l, true :: l]
theorem mem_alls : ∀ (l : List Bool), l ∈ alls l.length
  | [] => by simp [alls]
  | x :: l => by
    simp only [List.length_cons, alls, List.mem_flatMap]
    exact ⟨l, mem_alls l, by cases x <;> simp⟩
theorem alls_len : ∀ {n : Nat} {l : List Bool}, l ∈ alls n → l.length = n
  | 0, l, h => by simp [alls] at h; subst h; rfl
  | n + 1, l, h => by
    simp only [alls, List.mem_flatMap] at h
    obtain ⟨l', h1, h2⟩ := h
    have := alls_len h1
    simp at h2
    rcases h2 with rfl | rfl <;> simp [this]
/-- Loads and bins that hold all that is come to from loads without a bin. -/
def Shut (F : List (List Bool)) (m : List Int) (A B : List Bool) : Prop :=
  ∀ l, l < F.length → (m.getD l (-1) = -1 → A.getD l false = true) ∧ ∀ b, b < bins F → (A.getD l false = true → fit F l b = true → B.getD b false = true) ∧ (B.getD b false = true → m.getD l (-1) = (b : Int) → A.getD l false = true)
def shutB (F : List (List Bool)) (m : List Int) (A B : List Bool) : Bool :=
  (List.range F.length).all fun l => (!(m.getD l (-1) == -1) || A.getD l false) && (List.range (bins F)).all fun b => (!(A.getD l false && fit F l b) || B.getD b false) && (!(B.getD b false && (m.getD l (-1) == (b : Int))) || A.getD l false)
theorem shutB_iff {F : List (List Bool)} {m : List Int} {A B : List Bool} : shutB F m A B = true ↔ Shut F m A B := by
  simp only [shutB, Shut, List.all_eq_true, List.mem_range, Bool.and_eq_true, Bool.or_eq_true, Bool.not_eq_true', beq_eq_false_iff_ne, Bool.and_eq_false_imp]
  constructor
  · intro h l hl
    refine ⟨fun e => (h l hl).1.resolve_left fun c => c e, fun b hb => ⟨fun h1 h2 => ?_, fun h1 h2 => ?_⟩⟩
    · rcases ((h l hl).2 b hb).1 with c | c
      · have := c h1; simp [h2] at this
      · exact c
    · rcases ((h l hl).2 b hb).2 with c | c
      · exact absurd h2 (c h1)
      · exact c
  · intro h l hl
    refine ⟨?_, fun b hb => ⟨?_, ?_⟩⟩
    · by_cases e : m.getD l (-1) = -1
      · exact Or.inr ((h l hl).1 e)
      · exact Or.inl e
    · cases e : B.getD b false
      · refine Or.inl fun h1 => ?_
        cases e2 : fit F l b
        · rfl
        · have := ((h l hl).2 b hb).1 h1 e2; rw [e] at this; cases this
      · exact Or.inr rfl
    · cases e : A.getD l false
      · refine Or.inl fun h1 h2 => ?_
        have := ((h l hl).2 b hb).2 h1 h2; rw [e] at this; cases this
      · exact Or.inr rfl
/-- The loads and the bins come to. -/
def rL (F : List (List Bool)) (m : List Int) : List Bool := (List.range F.length).map fun l => (alls F.length).all fun A => (alls (bins F)).all fun B => !shutB F m A B || A.getD l false
def rB (F : List (List Bool)) (m : List Int) : List Bool := (List.range (bins F)).map fun b => (alls F.length).all fun A => (alls (bins F)).all fun B => !shutB F m A B || B.getD b false
theorem rL_len (F : List (List Bool)) (m : List Int) : (rL F m).length = F.length := by simp [rL]
theorem rB_len (F : List (List Bool)) (m : List Int) : (rB F m).length = bins F := by simp [rB]
theorem rL_iff {F : List (List Bool)} {m : List Int} {l : Nat} (hl : l < F.length) : (rL F m).getD l false = true ↔ ∀ A B : List Bool, A.length = F.length → B.length = bins F → Shut F m A B → A.getD l false = true := by
  have e : (rL F m).getD l false = (alls F.length).all fun A => (alls (bins F)).all fun B => !shutB F m A B || A.getD l false := by simp [rL, hl]
  rw [e]
  simp only [List.all_eq_true, Bool.or_eq_true, Bool.not_eq_true']
  constructor
  · intro h A B hA hB hS
    rcases h A (hA ▸ mem_alls A) B (hB ▸ mem_alls B) with c | c
    · rw [shutB_iff.2 hS] at c; cases c
    · exact c
  · intro h A hA B hB
    cases c : shutB F m A B
    · exact Or.inl rfl
    · exact Or.inr (h A B (alls_len hA) (alls_len hB) (shutB_iff.1 c))
theorem rB_iff {F : List (List Bool)} {m : List Int} {b : Nat} (hb : b < bins F) : (rB F m).getD b false = true ↔ ∀ A B : List Bool, A.length = F.length → B.length = bins F → Shut F m A B → B.getD b false = true := by
  have e : (rB F m).getD b false = (alls F.length).all fun A => (alls (bins F)).all fun B => !shutB F m A B || B.getD b false := by simp [rB, hb]
  rw [e]
  simp only [List.all_eq_true, Bool.or_eq_true, Bool.not_eq_true']
  constructor
  · intro h A B hA hB hS
    rcases h A (hA ▸ mem_alls A) B (hB ▸ mem_alls B) with c | c
    · rw [shutB_iff.2 hS] at c; cases c
    · exact c
  · intro h A hA B hB
    cases c : shutB F m A B
    · exact Or.inl rfl
    · exact Or.inr (h A B (alls_len hA) (alls_len hB) (shutB_iff.1 c))
theorem shut_r (F : List (List Bool)) (m : List Int) : Shut F m (rL F m) (rB F m) := by
  intro l hl
  refine ⟨fun e => (rL_iff hl).2 fun A B _ _ hS => (hS l hl).1 e, fun b hb => ⟨fun h1 h2 => (rB_iff hb).2 fun A B hA hB hS => ((hS l hl).2 b hb).1 ((rL_iff hl).1 h1 A B hA hB hS) h2, fun h1 h2 => (rL_iff hl).2 fun A B hA hB hS => ((hS l hl).2 b hb).2 ((rB_iff hb).1 h1 A B hA hB hS) h2⟩⟩
/-- What is come to at most. -/
def Come (F : List (List Bool)) (m : List Int) (A B : List Bool) : Prop := A.length = F.length ∧ B.length = bins F ∧ (∀ l, l < F.length → A.getD l false = true → (rL F m).getD l false = true) ∧ ∀ b, b < bins F → B.getD b false = true → (rB F m).getD b false = true
theorem bext {a b : List Bool} (hl : a.length = b.length) (h : ∀ i, i < a.length → (a.getD i false = true ↔ b.getD i false = true)) : a = b := by
  apply List.ext_getElem hl
  intro i h1 h2
  have := h i h1
  simp [h1, h2] at this
  exact this
theorem come_eq {F : List (List Bool)} {m : List Int} {A B : List Bool} (h : Come F m A B) (hS : Shut F m A B) : A = rL F m ∧ B = rB F m := by
  obtain ⟨h1, h2, h3, h4⟩ := h
  refine ⟨bext (by rw [h1, rL_len]) fun i hi => ⟨h3 i (by omega), fun e => (rL_iff (by omega)).1 e A B h1 h2 hS⟩, bext (by rw [h2, rB_len]) fun i hi => ⟨h4 i (by omega), fun e => (rB_iff (by omega)).1 e A B h1 h2 hS⟩⟩
/-- A bin come to has a load. -/
theorem Inv.owned {F : List (List Bool)} {m own : List Int} (h : Inv F F.length m own) {b : Nat} (hb : b < bins F) (hr : (rB F m).getD b false = true) : ∃ l : Nat, l < F.length ∧ own.getD b (-1) = (l : Int) ∧ m.getD l (-1) = (b : Int) := by
  obtain ⟨R, hR, hU⟩ := h.clo
  have key : 0 ≤ own.getD b (-1) := by
    apply Classical.byContradiction
    intro hn
    -- the bins of R, and the loads that fit nothing outside
    have dec : ∀ (P : Nat → Prop) (n : Nat), ∃ L : List Bool, L.length = n ∧ ∀ i, i < n → (L.getD i false = true ↔ P i) := by
      intro P n
      induction n with
      | zero => exact ⟨[], rfl, fun i hi => by omega⟩
      | succ n ih =>
        obtain ⟨L, hL, hP⟩ := ih
        rcases Classical.em (P n) with hp | hp
        · refine ⟨L ++ [true], by simp [hL], fun i hi => ?_⟩
          by_cases e : i = n
          · subst e; simp [← hL]; simpa [hL] using hp
          · have := hP i (by omega)
            have hi' : i < L.length := by omega
            simpa [List.getElem?_append, hi'] using this
        · refine ⟨L ++ [false], by simp [hL], fun i hi => ?_⟩
          by_cases e : i = n
          · subst e; simp [← hL]; simpa [hL] using hp
          · have := hP i (by omega)
            have hi' : i < L.length := by omega
            simpa [List.getElem?_append, hi'] using this
    obtain ⟨B, hB, hBP⟩ := dec R (bins F)
    obtain ⟨A, hA, hAP⟩ := dec (fun l => ∀ b', b' < bins F → fit F l b' = true → R b') F.length
    have hS : Shut F m A B := by
      intro l hl
      refine ⟨fun e => (hAP l hl).2 (hU l hl hl e), fun c hc => ⟨fun h1 h2 => (hBP c hc).2 ((hAP l hl).1 h1 c hc h2), fun h1 h2 => (hAP l hl).2 ?_⟩⟩
      have ho := h.mo.mo l c hl hc h2
      have := (hR c hc ((hBP c hc).1 h1)).2
      rw [ho] at this
      exact this
    have := (hBP b hb).1 ((rB_iff hb).1 hr A B hA hB hS)
    exact hn (hR b hb this).1
  rcases h.mo.om b hb with e | ⟨l, h1, h2, h3, _⟩
  · omega
  · exact ⟨l, h1, h2, h3⟩
/-- The numbers of those that are so. -/
def those (l : List Bool) (so : Bool) : List Int := ((List.range l.length).filter fun i => l.getD i false == so).map fun (i : Nat) => (i : Int)
def thoseTo (l : List Bool) (so : Bool) (k : Nat) : List Int := ((List.range k).filter fun i => l.getD i false == so).map fun (i : Nat) => (i : Int)
theorem thoseTo_step (l : List Bool) (so : Bool) (k : Nat) : thoseTo l so (k + 1) = if l.getD k false == so then thoseTo l so k ++ [(k : Int)] else thoseTo l so k := by
  unfold thoseTo
  rw [List.range_succ, List.filter_append, List.map_append]
  split <;> rename_i h
  · simp only [List.filter_cons, h, if_true, List.filter_nil]; rfl
  · simp only [List.filter_cons, h]; simp
theorem mem_those {l : List Bool} {so : Bool} {x : Int} : x ∈ those l so ↔ ∃ i : Nat, i < l.length ∧ l.getD i false = so ∧ x = (i : Int) := by
  simp only [those, List.mem_map, List.mem_filter, List.mem_range, beq_iff_eq]
  constructor
  · rintro ⟨i, ⟨h1, h2⟩, rfl⟩; exact ⟨i, h1, h2, rfl⟩
  · rintro ⟨i, h1, h2, rfl⟩; exact ⟨i, ⟨h1, h2⟩, rfl⟩
theorem those_has {l : List Bool} {so : Bool} {i : Nat} (hi : i < l.length) : (those l so).contains (i : Int) = (l.getD i false == so) := by
  rw [List.contains_eq_mem]
  rw [Bool.eq_iff_iff, decide_eq_true_iff, beq_iff_eq, mem_those]
  constructor
  · rintro ⟨j, _, h, e⟩; have : i = j := by omega
    subst this; exact h
  · exact fun h => ⟨i, hi, h, rfl⟩
theorem those_rise (l : List Bool) (so : Bool) : (those l so).Pairwise (· < ·) := by
  unfold those
  rw [List.pairwise_map]
  have : ((List.range l.length).filter fun i => l.getD i false == so).Pairwise (· < ·) := List.Pairwise.filter _ List.pairwise_lt_range
  exact this.imp fun h => by omega
theorem those_nodup (l : List Bool) (so : Bool) : (those l so).Nodup := (those_rise l so).imp fun h => by omega
/-- A rising list is told by what is in it. -/
theorem rise_ext : ∀ {a b : List Int}, a.Pairwise (· < ·) → b.Pairwise (· < ·) → (∀ x, x ∈ a ↔ x ∈ b) → a = b := fun {a b} ha hb h => by
  have p : a.Perm b := (List.perm_ext_iff_of_nodup (ha.imp fun h => by omega) (hb.imp fun h => by omega)).2 h
  exact p.eq_of_pairwise (fun x y _ _ h1 h2 => by omega) ha hb
theorem all_yes {n : Nat} {p : Nat → Bool} (h : (List.range n).all p = true) {i : Nat} (hi : i < n) : p i = true := by
  simp only [List.all_eq_true, List.mem_range] at h; exact h i hi
theorem all_of {n : Nat} {p : Nat → Bool} (h : ∀ i, i < n → p i = true) : (List.range n).all p = true := by
  simp only [List.all_eq_true, List.mem_range]; exact h
theorem all_not {n : Nat} {p : Nat → Bool} {i : Nat} (hi : i < n) (h : p i = false) : (List.range n).all p = false := by
  cases e : (List.range n).all p
  · rfl
  · rw [all_yes e hi] at h; cases h
/-- The first place of x, or -1. -/
def idx (xs : List Int) (x : Int) : Int := if xs.contains x then (xs.idxOf x : Int) else -1
theorem idx_none {xs : List Int} {x : Int} (h : ∀ j, j < xs.length → (xs.getD j 0 == x) = false) : idx xs x = -1 := by
  have : xs.contains x = false := by
    rw [List.contains_eq_mem, decide_eq_false_iff_not]
    intro hm
    obtain ⟨i, hi, rfl⟩ := List.getElem_of_mem hm
    have := h i hi
    simp [hi] at this
  unfold idx; rw [if_neg (by rw [this]; simp)]
theorem idx_at : ∀ {xs : List Int} {x : Int} {k : Nat}, k < xs.length → (xs.getD k 0 == x) = true → (∀ j, j < k → (xs.getD j 0 == x) = false) → idx xs x = (k : Int)
  | xs, x, k, hk, h, hn => by
    have hx : xs[k] = x := by simpa [hk] using h
    have hm : xs.contains x = true := by rw [List.contains_eq_mem, decide_eq_true_iff, ← hx]; exact List.getElem_mem hk
    unfold idx
    rw [if_pos hm]
    have hl : xs.idxOf x < xs.length := List.idxOf_lt_length_iff.2 (by simpa using hm)
    have e : xs[xs.idxOf x] = x := List.getElem_idxOf hl
    have h1 : ¬ xs.idxOf x < k := fun c => by have := hn _ c; simp [hl] at this
    have h2 : ¬ k < xs.idxOf x := fun c => by
      have := List.not_of_lt_findIdx c
      simp [hx] at this
    omega
theorem idx_has (xs : List Int) (x : Int) : decide (0 ≤ idx xs x) = xs.contains x := by
  unfold idx
  cases h : xs.contains x
  · rfl
  · rw [if_pos rfl]; simp
theorem MO.idx_eq {F : List (List Bool)} {m own : List Int} (h : MO F m own) {b : Nat} (hb : b < bins F) : idx m (b : Int) = own.getD b (-1) := by
  have g : ∀ j, j < m.length → m.getD j 0 = m.getD j (-1) := fun j hj => by simp [hj]
  rcases h.first hb with ⟨e, hn⟩ | ⟨l, hl, e, hm, hu⟩
  · rw [e]; exact idx_none fun j hj => by rw [g j hj]; simpa using hn j hj
  · rw [e]; refine idx_at hl (by rw [g l hl, hm]; simp) fun j hj => ?_
    rw [g j (by omega), beq_eq_false_iff_ne]
    intro c
    have := hu j (by omega) c
    omega
/-- How many are not -1. -/
def cnt (m : List Int) : Nat := (m.filter fun x => x != -1).length
def cntTo (m : List Int) (k : Nat) : Nat := cnt (m.take k)
theorem cntTo_step {m : List Int} {k : Nat} (hk : k < m.length) : cntTo m (k + 1) = cntTo m k + (if m.getD k 0 == -1 then 0 else 1) := by
  unfold cntTo cnt
  rw [List.take_add_one, List.getElem?_eq_getElem hk, Option.toList_some, List.filter_append, List.length_append, Pf.getD_lt m 0 hk]
  by_cases e : m[k] = -1 <;> simp [e]
theorem cntTo_le (m : List Int) (k : Nat) : cntTo m k ≤ m.length := by
  unfold cntTo cnt
  exact Nat.le_trans (List.length_filter_le _ _) (by simp; omega)
theorem cntTo_all (m : List Int) : cntTo m m.length = cnt m := by simp [cntTo]
def cntB (m : List Int) : Bool := decide (m.length ≤ 8) && Pf.allB m (-1) 7
def cntI (m : List Int) : Int := if cntB m then (cnt m : Int) else 0
/-- Rising numbers below many. -/
def least (l : List Int) (i : Nat) : Int := if i = 0 then 0 else l.getD (i - 1) 0 + 1
def riseAt (l : List Int) (many i : Nat) : Bool := Pf.inB (l.getD i 0) (least l i) ((many : Int) - 1)
def riseB (l : List Int) (many : Nat) : Bool := (List.range l.length).all (riseAt l many)
theorem least_nn {l : List Int} {many k : Nat} (h : ∀ i, i < k → riseAt l many i = true) : 0 ≤ least l k := by
  induction k with
  | zero => simp [least]
  | succ k ih =>
    have h1 := ih fun i hi => h i (by omega)
    have h2 := Pf.inB_yes (h k (by omega))
    simp [least]
    simp at h2
    omega
/-- Whether load i's bin is none, or fits it and is no earlier one's. -/
def matAt (F : List (List Bool)) (m : List Int) (i : Nat) : Bool := m.getD i 0 == -1 || (Pf.inB (m.getD i 0) 0 ((bins F : Int) - 1) && (fit F i (m.getD i 0).toNat && !(m.take i).contains (m.getD i 0)))
def matB (F : List (List Bool)) (m : List Int) : Bool := decide (m.length = F.length) && (List.range F.length).all (matAt F m)
theorem matB_ne {F : List (List Bool)} {m : List Int} (h : m.length ≠ F.length) : matB F m = false := by simp [matB, h]
theorem matB_len {F : List (List Bool)} {m : List Int} (h : m.length = F.length) : matB F m = (List.range F.length).all (matAt F m) := by simp [matB, h]
def imB (F : List (List Bool)) (m : List Int) : Bool := if goodB F then matB F m else false
/-- Whether load l that fits bin b is among loads, or b among bins. -/
def covAt (F : List (List Bool)) (ls bs : List Int) (l b : Nat) : Bool := !fit F l b || (ls.contains (l : Int) || bs.contains (b : Int))
def covB (F : List (List Bool)) (ls bs : List Int) : Bool := (List.range F.length).all fun l => (List.range (bins F)).all (covAt F ls bs l)
def icB (F : List (List Bool)) (ls bs : List Int) : Bool := goodB F && (riseB ls F.length && riseB bs (bins F))
def icI (F : List (List Bool)) (ls bs : List Int) : Bool := if icB F ls bs then covB F ls bs else false
/-- Rising numbers below many are at most so many. -/
theorem rise_least {l : List Int} {many : Nat} : ∀ {k : Nat}, (∀ i, i < k → riseAt l many i = true) → (k : Int) ≤ least l k
  | 0, _ => by simp [least]
  | k + 1, h => by
    have ih := rise_least (l := l) (many := many) (k := k) fun i hi => h i (by omega)
    have h2 := Pf.inB_yes (h k (by omega))
    simp only [least, Nat.add_sub_cancel, Nat.add_eq_zero_iff, Nat.one_ne_zero, and_false, if_false]
    omega
theorem riseB_len {l : List Int} {many : Nat} (h : riseB l many = true) : l.length ≤ many := by
  cases e : l.length with
  | zero => omega
  | succ k =>
    have h1 := fun i (hi : i < k + 1) => all_yes h (i := i) (by omega)
    have h2 := rise_least (k := k) fun i hi => h1 i (by omega)
    have h3 := Pf.inB_yes (h1 k (by omega))
    omega
theorem icB_len {F : List (List Bool)} {ls bs : List Int} (h : icB F ls bs = true) : ls.length ≤ 8 ∧ bs.length ≤ 8 := by
  simp only [icB, Bool.and_eq_true] at h
  obtain ⟨h1, h2, h3⟩ := h
  have := goodB_len h1; have := goodB_bins h1; have := riseB_len h2; have := riseB_len h3
  omega
end Go.Proofs.Ytebohpgdhbammaa.Ma
namespace Go.Proofs.Ytebohpgdhbammaa.Lo
open Bx (sumTo lev sum_eq sum_const sum_le sum_pos sum_only lev_sum)
open Lt

abbrev fn (l : List Int) : Nat → Int := fun i => l.getD i 0
def goodB (nd : List Int) (S K : Int) : Bool := Pf.inB nd.length 1 10 && (Pf.allB nd 0 20 && (Pf.inB S 0 100 && Pf.inB K 0 10))
structure Good (nd : List Int) (S K : Int) : Prop where
  n1 : 1 ≤ nd.length
  n10 : nd.length ≤ 10
  all : Pf.allB nd 0 20 = true
  s0 : 0 ≤ S
  s1 : S ≤ 100
  k0 : 0 ≤ K
  k1 : K ≤ 10
theorem good_of {nd : List Int} {S K : Int} (h : goodB nd S K = true) : Good nd S K := by
  simp only [goodB, Bool.and_eq_true] at h
  have h1 := Pf.inB_yes h.1
  have h2 := Pf.inB_yes h.2.2.1
  have h3 := Pf.inB_yes h.2.2.2
  exact ⟨by omega, by omega, h.2.1, h2.1, h2.2, h3.1, h3.2⟩
theorem Good.bd {nd : List Int} {S K : Int} (h : Good nd S K) (i : Nat) : 0 ≤ fn nd i ∧ fn nd i ≤ 20 := by
  by_cases hi : i < nd.length
  · exact Pf.inB_yes (Pf.allB_get h.all hi)
  · simp [fn, show nd.length ≤ i by omega]
theorem sum_bd {f : Nat → Int} {lo hi : Int} : ∀ n, (∀ i, i < n → lo ≤ f i ∧ f i ≤ hi) → lo * (n : Int) ≤ sumTo f n ∧ sumTo f n ≤ hi * (n : Int)
  | 0, _ => by simp [sumTo]
  | n + 1, h => by
    have h1 := sum_bd n fun i hi => h i (by omega)
    have h2 := h n (by omega)
    simp only [sumTo]
    rw [Int.natCast_succ, Int.mul_add, Int.mul_add]
    omega
/-- What is left is never below nothing. -/
def enB (nd lots : List Int) : Bool := (List.range lots.length).all fun i => decide (0 ≤ left (fn nd) (fn lots) (i + 1))
def lotsB (nd : List Int) (S K : Int) (lots : List Int) : Bool := goodB nd S K && (decide (lots.length = nd.length) && Pf.allB lots 0 200)
def okB (nd : List Int) (S K : Int) (lots : List Int) : Bool := lotsB nd S K lots && enB nd lots
def lcI (nd : List Int) (S K : Int) (lots : List Int) : Int := if okB nd S K lots then cst S K (fn nd) (fn lots) nd.length else 0
def lean (nd lots : List Int) : Bool := (List.range lots.length).all fun i => !(decide (0 < fn lots i) && decide (0 < left (fn nd) (fn lots) i))
def ilB (nd : List Int) (S K : Int) (lots : List Int) : Bool := okB nd S K lots && lean nd lots
theorem en_at {nd lots : List Int} (h : enB nd lots = true) {i : Nat} (hi : i < lots.length) : 0 ≤ left (fn nd) (fn lots) (i + 1) := by
  simpa using List.all_eq_true.1 h i (by simpa using hi)
theorem en_of {nd lots : List Int} (h : ∀ i, i < lots.length → 0 ≤ left (fn nd) (fn lots) (i + 1)) : enB nd lots = true := List.all_eq_true.2 fun i hi => by
  simpa using h i (by simpa using hi)
theorem en_not {nd lots : List Int} {i : Nat} (hi : i < lots.length) (h : left (fn nd) (fn lots) (i + 1) < 0) : enB nd lots = false := by
  cases e : enB nd lots
  · rfl
  · have := en_at e hi; omega
theorem lean_of {nd lots : List Int} (h : ∀ i, i < lots.length → ¬ (0 < fn lots i ∧ 0 < left (fn nd) (fn lots) i)) : lean nd lots = true := List.all_eq_true.2 fun i hi => by
  have := h i (by simpa using hi)
  cases e1 : decide (0 < fn lots i) <;> cases e2 : decide (0 < left (fn nd) (fn lots) i) <;> simp only [Bool.and_self, Bool.and_false, Bool.and_true, Bool.not_false, Bool.not_true] <;> first | rfl | skip
  exact absurd ⟨of_decide_eq_true e1, of_decide_eq_true e2⟩ this
theorem lean_not {nd lots : List Int} {i : Nat} (hi : i < lots.length) (h1 : 0 < fn lots i) (h2 : 0 < left (fn nd) (fn lots) i) : lean nd lots = false := by
  cases e : lean nd lots
  · rfl
  · have := List.all_eq_true.1 e i (by simpa using hi)
    simp only [h1, h2, decide_true, Bool.and_self, Bool.not_true, Bool.false_eq_true] at this
theorem left_zero (nd lots : Nat → Int) : left nd lots 0 = 0 := rfl
theorem left_succ (nd lots : Nat → Int) (j : Nat) : left nd lots (j + 1) = left nd lots j + (lots j - nd j) := by
  simp only [left, sumTo]; omega
theorem cst_succ (S K : Int) (nd lots : Nat → Int) (t : Nat) : cst S K nd lots (t + 1) = cst S K nd lots t + ((if 0 < lots t then S else 0) + K * left nd lots (t + 1)) := rfl
/-- How much lies there and costs, at most. -/
theorem left_bd {nd lots : Nat → Int} (n : Nat) (h1 : ∀ i, i < n → 0 ≤ nd i ∧ nd i ≤ 20) (h2 : ∀ i, i < n → 0 ≤ lots i ∧ lots i ≤ 200) : -20 * (n : Int) ≤ left nd lots n ∧ left nd lots n ≤ 200 * (n : Int) := by
  have a := sum_bd n h1
  have b := sum_bd n h2
  unfold left
  omega
theorem cst_bd {S K : Int} {nd lots : Nat → Int} (n : Nat) (s0 : 0 ≤ S) (s1 : S ≤ 100) (k0 : 0 ≤ K) (k1 : K ≤ 10) (h : ∀ j, j ≤ n → 0 ≤ left nd lots j ∧ left nd lots j ≤ 2000) : 0 ≤ cst S K nd lots n ∧ cst S K nd lots n ≤ 20100 * (n : Int) := by
  have := sum_bd (f := fun i => (if 0 < lots i then S else 0) + K * left nd lots (i + 1)) (lo := 0) (hi := 20100) n fun i hi => by
    have h1 := h (i + 1) (by omega)
    have h2 : 0 ≤ K * left nd lots (i + 1) := Int.mul_nonneg k0 h1.1
    have h3 : K * left nd lots (i + 1) ≤ 10 * 2000 := Int.mul_le_mul k1 h1.2 h1.1 (by omega)
    show 0 ≤ (if 0 < lots i then S else 0) + K * left nd lots (i + 1) ∧ (if 0 < lots i then S else 0) + K * left nd lots (i + 1) ≤ 20100
    split <;> omega
  rw [Int.zero_mul] at this
  exact this
/-- The latest of some days, up to a day. -/
def lat (days : List Int) : Nat → Nat
  | 0 => 0
  | k + 1 => if days.contains ((k + 1 : Nat) : Int) then k + 1 else lat days k
theorem lat_le (days : List Int) : ∀ k, lat days k ≤ k
  | 0 => Nat.le_refl _
  | k + 1 => by
    rw [lat]; split
    · exact Nat.le_refl _
    · have := lat_le days k; omega
theorem lat_in (days : List Int) (h0 : days.contains (0 : Int) = true) : ∀ k, days.contains ((lat days k : Nat) : Int) = true
  | 0 => h0
  | k + 1 => by
    rw [lat]; split
    · assumption
    · exact lat_in days h0 k
theorem le_lat {days : List Int} {x : Nat} (hx : days.contains (x : Int) = true) : ∀ k, x ≤ k → x ≤ lat days k
  | 0, h => by omega
  | k + 1, h => by
    rw [lat]; split
    · exact h
    · rename_i hc
      by_cases e : x = k + 1
      · subst e; exact absurd hx hc
      · exact le_lat hx k (by omega)
theorem lat_self {days : List Int} {x : Nat} (hx : days.contains (x : Int) = true) : lat days x = x := Nat.le_antisymm (lat_le _ _) (le_lat hx x (Nat.le_refl _))
/-- From one day up to the next of them. -/
theorem lat_seg {days : List Int} {d t k : Nat} (hd : days.contains (d : Int) = true) (hn : ∀ x : Nat, days.contains (x : Int) = true → x < t → x ≤ d) (h0 : days.contains (0 : Int) = true) (h1 : d ≤ k) (h2 : k < t) : lat days k = d := by
  have a := le_lat hd k h1
  have b := hn _ (lat_in days h0 k) (by have := lat_le days k; omega)
  omega
def tbl (n : Nat) (f : Nat → Int) : List Int := (List.range n).map f
theorem tbl_len (n : Nat) (f : Nat → Int) : (tbl n f).length = n := by simp [tbl]
theorem tbl_get {n : Nat} (f : Nat → Int) {i : Nat} (h : i < n) : (tbl n f).getD i 0 = f i := by simp [tbl, h]
theorem tbl_set {n : Nat} {f g : Nat → Int} {i : Nat} {x : Int} (h1 : g i = x) (h2 : ∀ j, j < n → j ≠ i → g j = f j) : (tbl n f).set i x = tbl n g := by
  refine List.ext_getElem (by simp [tbl]) fun j hj1 hj2 => ?_
  have hj : j < n := by simpa [tbl] using hj2
  by_cases e : i = j
  · subst e; simp [tbl, h1]
  · simp [tbl, e, h2 j hj (fun e' => e e'.symm)]
theorem tbl_eq {n : Nat} {f g : Nat → Int} (h : ∀ i, i < n → f i = g i) : tbl n f = tbl n g := List.map_congr_left fun i hi => h i (by simpa using hi)
theorem tbl_self (l : List Int) : tbl l.length (fn l) = l := by
  refine List.ext_getElem (by simp [tbl]) fun j hj1 hj2 => ?_
  simp [tbl, fn, hj2]
theorem tbl_zero (n : Nat) : tbl n (fun _ => 0) = List.replicate n 0 := by
  refine List.ext_getElem (by simp [tbl]) fun j hj1 hj2 => ?_
  simp [tbl]
/-- Lots on these days alone. -/
def lotsL (nd days : List Int) : List Int := tbl nd.length fun d => lev (lat days) (fn nd) nd.length d
def dayB (days : List Int) (n : Nat) : Bool := decide (0 < days.length) && (days.getD 0 0 == 0) && Ma.riseB days n
def lfB (nd : List Int) (S K : Int) (days : List Int) : Bool := goodB nd S K && dayB days nd.length
def lfL (nd : List Int) (S K : Int) (days : List Int) : List Int := if lfB nd S K days then lotsL nd days else []
def edL (nd : List Int) (S K : Int) : List Int := if goodB nd S K then nd else []
def ctL (nd : List Int) (S K : Int) : List Int := if goodB nd S K then tab S K (fn nd) nd.length else []
theorem lots_len (nd days : List Int) : (lotsL nd days).length = nd.length := tbl_len _ _
theorem lots_at {nd days : List Int} {d : Nat} (h : d < nd.length) : fn (lotsL nd days) d = lev (lat days) (fn nd) nd.length d := tbl_get _ h
/-- What has come on some days' lots by a day. -/
theorem lots_sum {nd days : List Int} {t : Nat} (ht : t ≤ nd.length) : sumTo (fn (lotsL nd days)) t = sumTo (fun i => if lat days i < t then fn nd i else 0) nd.length := by
  rw [← lev_sum]
  exact sum_eq t fun i hi => lots_at (by omega)
theorem sum_cut {f : Nat → Int} {t : Nat} : ∀ n, t ≤ n → sumTo (fun i => if i < t then f i else 0) n = sumTo f t
  | 0, h => by
    have : t = 0 := by omega
    subst this; rfl
  | n + 1, h => by
    by_cases e : t = n + 1
    · subst e; exact sum_eq _ fun i hi => by rw [if_pos hi]
    · simp only [sumTo]
      rw [sum_cut n (by omega), if_neg (by omega)]; omega
theorem left_nn {nd days : List Int} (h : ∀ i, 0 ≤ fn nd i) {t : Nat} (ht : t ≤ nd.length) : 0 ≤ left (fn nd) (fn (lotsL nd days)) t := by
  unfold left
  rw [lots_sum ht, ← sum_cut (f := fn nd) nd.length ht]
  have := sum_le (f := fun i => if i < t then fn nd i else 0) (g := fun i => if lat days i < t then fn nd i else 0) nd.length fun i hi => by
    have h1 := lat_le days i
    have h2 := h i
    show (if i < t then fn nd i else 0) ≤ (if lat days i < t then fn nd i else 0)
    split <;> split <;> omega
  omega
/-- Nothing is left where a day of these begins, or all days end. -/
theorem left_day {nd days : List Int} {t : Nat} (ht : t ≤ nd.length) (hb : t = nd.length ∨ days.contains (t : Int) = true) : left (fn nd) (fn (lotsL nd days)) t = 0 := by
  unfold left
  rw [lots_sum ht, ← sum_cut (f := fn nd) nd.length ht]
  have : sumTo (fun i => if lat days i < t then fn nd i else 0) nd.length = sumTo (fun i => if i < t then fn nd i else 0) nd.length := sum_eq _ fun i hi => by
    have h1 := lat_le days i
    by_cases e : i < t
    · rw [if_pos e, if_pos (by omega)]
    · rw [if_neg e, if_neg]
      rcases hb with hb | hb
      · omega
      · have := le_lat hb i (by omega); omega
  omega
theorem lots_day {nd days : List Int} {i : Nat} (hi : i < nd.length) (h0 : days.contains (0 : Int) = true) (hl : 0 < fn (lotsL nd days) i) : days.contains (i : Int) = true := by
  rw [lots_at hi] at hl
  obtain ⟨j, hj, e⟩ := Bx.lev_some (q := lat days) (x := fn nd) (k := nd.length) (b := i) (by omega)
  rw [← e]
  exact lat_in days h0 j
theorem lots_bd {nd days : List Int} {S K : Int} (hg : Good nd S K) {i : Nat} (hi : i < nd.length) : 0 ≤ fn (lotsL nd days) i ∧ fn (lotsL nd days) i ≤ 200 := by
  rw [lots_at hi]
  refine ⟨Bx.lev_nonneg (fun j _ => (hg.bd j).1) i, ?_⟩
  have := sum_bd (f := fun j => if lat days j = i then fn nd j else 0) (lo := 0) (hi := 20) nd.length fun j hj => by
    have := hg.bd j
    show 0 ≤ (if lat days j = i then fn nd j else 0) ∧ (if lat days j = i then fn nd j else 0) ≤ 20
    split <;> omega
  have h10 := hg.n10
  have : lev (lat days) (fn nd) nd.length i ≤ 20 * (nd.length : Int) := this.2
  omega
/-- Lots on days are enough and lean, and as much as is needed. -/
theorem lots_ok {nd days : List Int} {S K : Int} (hg : goodB nd S K = true) : okB nd S K (lotsL nd days) = true := by
  have g := good_of hg
  simp only [okB, lotsB, hg, lots_len, decide_true, Bool.true_and, Bool.and_eq_true]
  refine ⟨Pf.allB_of fun i hi => ?_, en_of fun i hi => left_nn (fun j => (g.bd j).1) (by rw [lots_len] at hi; omega)⟩
  rw [lots_len] at hi
  have := lots_bd (days := days) g hi
  exact Pf.inB_of this.1 this.2
theorem lots_lean {nd days : List Int} (h0 : days.contains (0 : Int) = true) : lean nd (lotsL nd days) = true := lean_of fun i hi => by
  rw [lots_len] at hi
  rintro ⟨h1, h2⟩
  have := left_day (nd := nd) (t := i) (by omega) (Or.inr (lots_day hi h0 h1))
  omega
theorem sumTo_sum (l : List Int) : ∀ k, k ≤ l.length → sumTo (fn l) k = (l.take k).sum
  | 0, _ => by simp [sumTo]
  | k + 1, h => by
    rw [Pf.take_sum_succ l k (by omega), ← sumTo_sum l k (by omega)]; rfl
theorem sum_all (l : List Int) : sumTo (fn l) l.length = l.sum := by rw [sumTo_sum l _ (Nat.le_refl _), List.take_length]
theorem lots_all (nd days : List Int) : (lotsL nd days).sum = nd.sum := by
  have := left_day (nd := nd) (days := days) (t := nd.length) (Nat.le_refl _) (Or.inl rfl)
  unfold left at this
  rw [← sum_all, ← sum_all, lots_len]
  omega
/-- One lot for the days up to the next one. -/
theorem seg_cost {S K : Int} {nd f : Nat → Int} {d t : Nat} (h : d < t) (hl : left nd f d = 0) (hd : f d = seg nd d t) (hz : ∀ j, d < j → j < t → f j = 0) : cst S K nd f t = cst S K nd f d + one S K nd d t := by
  have hs : ∀ m, d < m → m ≤ t → sumTo f m = sumTo f d + seg nd d t := by
    intro m
    induction m with
    | zero => intro h1; omega
    | succ m ih =>
      intro h1 h2
      simp only [sumTo]
      by_cases e : m = d
      · subst e; rw [hd]
      · rw [ih (by omega) (by omega), hz m (by omega) (by omega)]; omega
  have hlm : ∀ m, d < m → m ≤ t → left nd f m = seg nd m t := by
    intro m h1 h2
    have := hs m h1 h2
    unfold left seg at *
    omega
  have hc : ∀ m, d < m → m ≤ t → cst S K nd f m = cst S K nd f d + (if 0 < seg nd d t then S else 0) + K * sumTo (fun i => if d ≤ i then seg nd (i + 1) t else 0) m := by
    intro m
    induction m with
    | zero => intro h1; omega
    | succ m ih =>
      intro h1 h2
      rw [cst_succ, hlm (m + 1) h1 h2]
      have e2 : sumTo (fun i => if d ≤ i then seg nd (i + 1) t else 0) (m + 1) = sumTo (fun i => if d ≤ i then seg nd (i + 1) t else 0) m + seg nd (m + 1) t := by
        simp only [sumTo]; rw [if_pos (show d ≤ m by omega)]
      rw [e2, Int.mul_add]
      by_cases e : m = d
      · subst e
        have e3 : sumTo (fun i => if m ≤ i then seg nd (i + 1) t else 0) m = 0 := by
          have : sumTo (fun i => if m ≤ i then seg nd (i + 1) t else 0) m = sumTo (fun _ => 0) m := sum_eq m fun i hi => by rw [if_neg (by omega)]
          rw [this, sum_const]; omega
        rw [e3, hd]; omega
      · rw [ih (by omega) (by omega), hz m (by omega) (by omega)]
        simp only [Int.lt_irrefl, if_false]
        omega
  rw [hc t h (Nat.le_refl _), kp_left]
  unfold one
  omega
/-- What the least costs come from, from the latest day back. -/
def at_ (S K : Int) (nd : Nat → Int) (t d : Nat) : Int := T S K nd d + one S K nd d t
def dn (S K : Int) (nd : Nat → Int) (t : Nat) : Nat → Nat
  | 0 => 0
  | d + 1 => if at_ S K nd t (d + 1) = T S K nd t then d + 1 else dn S K nd t d
theorem dn_le (S K : Int) (nd : Nat → Int) (t : Nat) : ∀ d, dn S K nd t d ≤ d
  | 0 => Nat.le_refl _
  | d + 1 => by
    rw [dn]; split
    · exact Nat.le_refl _
    · have := dn_le S K nd t d; omega
theorem dn_is {S K : Int} {nd : Nat → Int} {t : Nat} : ∀ d, (∃ x, x ≤ d ∧ at_ S K nd t x = T S K nd t) → at_ S K nd t (dn S K nd t d) = T S K nd t
  | 0, ⟨x, hx, h⟩ => by
    have : x = 0 := by omega
    subst this; exact h
  | d + 1, ⟨x, hx, h⟩ => by
    rw [dn]; split
    · assumption
    · rename_i hn
      refine dn_is d ⟨x, ?_, h⟩
      by_cases e : x = d + 1
      · subst e; exact absurd h hn
      · omega
def last (S K : Int) (nd : Nat → Int) (t : Nat) : Nat := dn S K nd t (t - 1)
theorem last_lt {S K : Int} {nd : Nat → Int} {t : Nat} (h : 0 < t) : last S K nd t < t := by
  have := dn_le S K nd t (t - 1)
  unfold last; omega
theorem last_is {S K : Int} {nd : Nat → Int} {t : Nat} (h : 0 < t) : at_ S K nd t (last S K nd t) = T S K nd t := by
  obtain ⟨d, h1, h2⟩ := T_is S K nd h
  exact dn_is _ ⟨d, by omega, h2.symm⟩
/-- A day that is still to be looked at: found, or there is one ahead of it. -/
theorem dn_stop {S K : Int} {nd : Nat → Int} {t d : Nat} (h : at_ S K nd t d = T S K nd t) : dn S K nd t d = d := by
  cases d with
  | zero => rfl
  | succ d => rw [dn, if_pos h]
theorem dn_go {S K : Int} {nd : Nat → Int} {t d : Nat} (h0 : 0 < t) (hl : dn S K nd t d = last S K nd t) (h : at_ S K nd t d ≠ T S K nd t) : 1 ≤ d ∧ dn S K nd t (d - 1) = last S K nd t := by
  cases d with
  | zero =>
    have := last_is (S := S) (K := K) (nd := nd) h0
    rw [← hl] at this
    exact absurd this h
  | succ d => rw [dn, if_neg h] at hl; exact ⟨by omega, hl⟩
def bd (S K : Int) (nd : Nat → Int) (t : Nat) (acc : List Int) : List Int :=
  if _h : 0 < t then bd S K nd (last S K nd t) (((last S K nd t : Nat) : Int) :: acc) else acc
termination_by t
decreasing_by exact last_lt (by assumption)
theorem bd_zero (S K : Int) (nd : Nat → Int) (acc : List Int) : bd S K nd 0 acc = acc := by rw [bd]; simp
theorem bd_pos {S K : Int} {nd : Nat → Int} {t : Nat} (h : 0 < t) (acc : List Int) : bd S K nd t acc = bd S K nd (last S K nd t) (((last S K nd t : Nat) : Int) :: acc) := by rw [bd, dif_pos h]
def bdL (nd : List Int) (S K : Int) : List Int := bd S K (fn nd) nd.length []
/-- What holds of the days that were found. -/
structure Ch (S K : Int) (nd : Nat → Int) (n t : Nat) (acc : List Int) : Prop where
  tn : t ≤ n
  head : t = n ∨ acc.getD 0 0 = (t : Int) ∧ 0 < acc.length
  all : ∀ i, i < acc.length → ∃ x : Nat, acc.getD i 0 = (x : Int) ∧ t ≤ x ∧ x < n
  rise : ∀ i, i + 1 < acc.length → acc.getD i 0 < acc.getD (i + 1) 0
  link : ∀ s : Nat, (s = n ∨ acc.contains (s : Int) = true) → t < s → acc.contains ((last S K nd s : Nat) : Int) = true ∧ ∀ x : Nat, acc.contains (x : Int) = true → x < s → x ≤ last S K nd s
theorem mem_at {l : List Int} {x : Int} (h : l.contains x = true) : ∃ i, i < l.length ∧ l.getD i 0 = x := by
  simp only [List.contains_eq_mem, decide_eq_true_eq] at h
  obtain ⟨i, hi, e⟩ := List.mem_iff_getElem.1 h
  exact ⟨i, hi, by simp [hi, e]⟩
theorem Ch.low {S K : Int} {nd : Nat → Int} {n t : Nat} {acc : List Int} (h : Ch S K nd n t acc) {x : Nat} (hx : acc.contains (x : Int) = true) : t ≤ x ∧ x < n := by
  obtain ⟨i, hi, e⟩ := mem_at hx
  obtain ⟨y, e2, h1, h2⟩ := h.all i hi
  omega
theorem Ch.start (S K : Int) (nd : Nat → Int) (n : Nat) : Ch S K nd n n [] := ⟨Nat.le_refl _, Or.inl rfl, fun i hi => absurd hi (by simp), fun i hi => absurd hi (by simp), fun s hs h => by
  rcases hs with rfl | hs
  · omega
  · simp at hs⟩
theorem Ch.step {S K : Int} {nd : Nat → Int} {n t : Nat} {acc : List Int} (h : Ch S K nd n t acc) (h0 : 0 < t) : Ch S K nd n (last S K nd t) (((last S K nd t : Nat) : Int) :: acc) := by
  have hl := last_lt (S := S) (K := K) (nd := nd) h0
  have htn := h.tn
  refine ⟨by omega, Or.inr ⟨rfl, by simp⟩, ?_, ?_, ?_⟩
  · intro i hi
    cases i with
    | zero => exact ⟨_, rfl, Nat.le_refl _, by omega⟩
    | succ i =>
      obtain ⟨x, e, h1, h2⟩ := h.all i (by simpa using hi)
      exact ⟨x, e, by omega, h2⟩
  · intro i hi
    cases i with
    | zero =>
      obtain ⟨x, e, h1, h2⟩ := h.all 0 (by simpa using hi)
      show ((last S K nd t : Nat) : Int) < acc.getD 0 0
      omega
    | succ i => exact h.rise i (by simpa using hi)
  · intro s hs hlt
    have memc : ∀ y : Int, ((((last S K nd t : Nat) : Int) :: acc).contains y = true) ↔ (y = ((last S K nd t : Nat) : Int) ∨ acc.contains y = true) := fun y => by
      simp [List.contains_eq_mem]
    rcases Nat.lt_trichotomy s t with hst | hst | hst
    · rcases hs with hs | hs
      · omega
      · rcases (memc _).1 hs with hs | hs
        · omega
        · have := (h.low hs).1; omega
    · subst hst
      refine ⟨(memc _).2 (Or.inl rfl), fun x hx hxs => ?_⟩
      rcases (memc _).1 hx with hx | hx
      · omega
      · have := (h.low hx).1; omega
    · have hs' : s = n ∨ acc.contains (s : Int) = true := by
        rcases hs with hs | hs
        · exact Or.inl hs
        · rcases (memc _).1 hs with hs | hs
          · omega
          · exact Or.inr hs
      obtain ⟨k1, k2⟩ := h.link s hs' hst
      refine ⟨(memc _).2 (Or.inr k1), fun x hx hxs => ?_⟩
      rcases (memc _).1 hx with hx | hx
      · have := (h.low k1).1; omega
      · exact k2 x hx hxs
theorem bd_ch {S K : Int} {nd : Nat → Int} {n : Nat} : ∀ t acc, Ch S K nd n t acc → Ch S K nd n 0 (bd S K nd t acc) := by
  intro t
  induction t using Nat.strongRecOn with
  | _ t ih =>
    intro acc h
    by_cases h0 : 0 < t
    · rw [bd_pos h0]
      exact ih _ (last_lt h0) _ (h.step h0)
    · have : t = 0 := by omega
      subst this
      rw [bd_zero]; exact h
/-- The days are rising, the first one 0. -/
theorem Ch.days {S K : Int} {nd : Nat → Int} {n : Nat} {D : List Int} (h : Ch S K nd n 0 D) (hn : 0 < n) : dayB D n = true := by
  have hh : D.getD 0 0 = 0 ∧ 0 < D.length := by
    rcases h.head with e | e
    · omega
    · exact e
  simp only [dayB, hh.1, hh.2, decide_true, Bool.true_and, beq_self_eq_true]
  refine List.all_eq_true.2 fun i hi => ?_
  have hi' : i < D.length := by simpa using hi
  obtain ⟨x, e, _, h2⟩ := h.all i hi'
  unfold Ma.riseAt Ma.least
  refine Pf.inB_of ?_ (by omega)
  split
  · omega
  · have := h.rise (i - 1) (by omega)
    rw [show i - 1 + 1 = i by omega] at this
    omega
theorem bdL_days {nd : List Int} {S K : Int} (h : 0 < nd.length) : dayB (bdL nd S K) nd.length = true := (bd_ch _ _ (Ch.start S K (fn nd) nd.length)).days h
theorem day_zero {D : List Int} {n : Nat} (h : dayB D n = true) : D.contains (0 : Int) = true := by
  simp only [dayB, Bool.and_eq_true, decide_eq_true_eq, beq_iff_eq] at h
  have : D[0]'h.1.1 = 0 := by have := h.1.2; rwa [Pf.getD_lt D 0 h.1.1] at this
  rw [List.contains_eq_mem, decide_eq_true_eq, ← this]
  exact List.getElem_mem _
/-- The lots of the best days cost what the table tells. -/
theorem best_cost {nd : List Int} {S K : Int} (hg : Good nd S K) : cst S K (fn nd) (fn (lotsL nd (bdL nd S K))) nd.length = T S K (fn nd) nd.length := by
  have hc := bd_ch _ _ (Ch.start S K (fn nd) nd.length)
  have h0 := day_zero (bdL_days (S := S) (K := K) (nd := nd) hg.n1)
  show cst S K (fn nd) (fn (lotsL nd (bd S K (fn nd) nd.length []))) nd.length = _
  change (bd S K (fn nd) nd.length []).contains (0 : Int) = true at h0
  generalize bd S K (fn nd) nd.length [] = D at *
  have key : ∀ t, t ≤ nd.length → (t = nd.length ∨ D.contains (t : Int) = true) → cst S K (fn nd) (fn (lotsL nd D)) t = T S K (fn nd) t := by
    intro t
    induction t using Nat.strongRecOn with
    | _ t ih =>
      intro htn ht
      by_cases e : t = 0
      · subst e; rfl
      obtain ⟨k1, k2⟩ := hc.link t ht (by omega)
      have hlt := last_lt (S := S) (K := K) (nd := fn nd) (t := t) (by omega)
      have hls := last_is (S := S) (K := K) (nd := fn nd) (t := t) (by omega)
      generalize last S K (fn nd) t = d at *
      have hq : ∀ j, d ≤ j → j < t → lat D j = d := fun j h1 h2 => lat_seg k1 k2 h0 h1 h2
      have hq2 : ∀ j, t ≤ j → j < nd.length → t ≤ lat D j := fun j h1 h2 => by
        rcases ht with ht | ht
        · omega
        · exact le_lat ht j h1
      have hq3 : ∀ j, j < d → lat D j < d := fun j h1 => by have := lat_le D j; omega
      have hz : ∀ j, d < j → j < t → fn (lotsL nd D) j = 0 := fun j h1 h2 => by
        rw [lots_at (by omega)]
        refine Bx.lev_none fun i hi => ?_
        by_cases a : i < d
        · have := hq3 i a; omega
        · by_cases b : i < t
          · have := hq i (by omega) b; omega
          · have := hq2 i (by omega) hi; omega
      have hld := left_day (nd := nd) (days := D) (t := d) (by omega) (Or.inr k1)
      have hlt' := left_day (nd := nd) (days := D) (t := t) htn ht
      have hd : fn (lotsL nd D) d = seg (fn nd) d t := by
        have a : sumTo (fn (lotsL nd D)) t = sumTo (fn (lotsL nd D)) (d + 1) := sum_stay t (by omega) fun j h1 h2 => hz j (by omega) h2
        have b : sumTo (fn (lotsL nd D)) (d + 1) = sumTo (fn (lotsL nd D)) d + fn (lotsL nd D) d := rfl
        unfold left at hld hlt'
        unfold seg
        omega
      rw [seg_cost hlt hld hd hz, ih d hlt (by omega) (Or.inr k1), ← hls]
      rfl
  exact key _ (Nat.le_refl _) (Or.inl rfl)
end Go.Proofs.Ytebohpgdhbammaa.Lo
namespace Go.Proofs.Ytebohpgdhbammaa
open Go.RowKit

theorem g_own {w w' : World} {base e s n : Nat} {v : Value} {xs : List Value} (h : w.ownsRow base e s v n xs) (hb : Below w.heap.size w w') : w'.ownsRow base e s v n xs := by
  refine ⟨h.1, ?_⟩
  rcases h.2 with h0 | ⟨g, cap, cur, hv, hbg, hg, r⟩
  · exact Or.inl h0
  · exact Or.inr ⟨g, cap, cur, hv, hbg, (hb.block g (Array.getElem?_eq_some_iff.1 hg).1).trans hg, r⟩
/-- Nothing is turned but blocks from lo on and below hi. -/
def Rng (lo hi : Nat) (w w' : World) : Prop := w'.os = w.os ∧ w'.tape = w.tape ∧ w'.output = w.output ∧ w.heap.size ≤ w'.heap.size ∧ ∀ b, b < w.heap.size → (b < lo ∨ hi ≤ b) → w'.heap[b]? = w.heap[b]?
theorem Rng.refl (lo hi : Nat) (w : World) : Rng lo hi w w := ⟨rfl, rfl, rfl, Nat.le_refl _, fun _ _ _ => rfl⟩
theorem Rng.below {lo hi k : Nat} {w w' : World} (h : Rng lo hi w w') (hk : k ≤ lo) (hs : k ≤ w.heap.size) : Below k w w' := ⟨h.1, h.2.1, h.2.2.1, h.2.2.2.1, fun b hb => h.2.2.2.2 b (by omega) (Or.inl (by omega))⟩
theorem Rng.grown {lo hi g : Nat} {w w1 w2 : World} (h : Rng lo hi w w1) (hg : w1.grownBy w2 (some g)) (h1 : lo ≤ g) (h2 : g < hi) : Rng lo hi w w2 :=
  ⟨hg.os.trans h.1, hg.tape.trans h.2.1, hg.output.trans h.2.2.1, Nat.le_trans h.2.2.2.1 hg.size, fun b hb hh => (hg.block b (Nat.lt_of_lt_of_le hb h.2.2.2.1) (by simp; omega)).trans (h.2.2.2.2 b hb hh)⟩
theorem two_call8 {w w1 w2 : World} {b c o p : Nat} {v0 v1 : Value} (hb : b < w.heap.size) (hc : c < w.heap.size)
    (s : w1.cell? ⟨b, o, none⟩ = some v0 ∧ w1.cell? ⟨c, p, none⟩ = some v1 ∧ Below w.heap.size w w1 ∧ w.heap.size ≤ w1.heap.size) (hb2 : Below w1.heap.size w1 w2) :
    w2.cell? ⟨b, o, none⟩ = some v0 ∧ w2.cell? ⟨c, p, none⟩ = some v1 ∧ Below w.heap.size w w2 ∧ w.heap.size ≤ w2.heap.size := by
  obtain ⟨s0, s1, s4, s5⟩ := s
  exact ⟨(hb2.cell (p := ⟨b, o, none⟩) (Nat.lt_of_lt_of_le hb s5)).trans s0, (hb2.cell (p := ⟨c, p, none⟩) (Nat.lt_of_lt_of_le hc s5)).trans s1, s4.trans (hb2.mono s5), Nat.le_trans s5 hb2.size⟩
theorem lt_of_pw8 {gs : List Nat} (h : gs.Pairwise (· < ·)) {i t : Nat} (hi : i < t) (ht : t < gs.length) : gs.getD i 0 < gs.getD t 0 := by
  rw [Pf.getD_lt _ _ (show i < gs.length by omega), Pf.getD_lt _ _ ht]
  exact List.pairwise_iff_getElem.1 h i t (by omega) ht hi
end Go.Proofs.Ytebohpgdhbammaa
namespace Go.Proofs.Ytebohpgdhbammaa
open Go.RowKit

/-- Nothing has turned but the blocks x and y; new blocks may be there. -/
structure Off2 (w w' : World) (x y : Nat) : Prop where
  os : w'.os = w.os
  tape : w'.tape = w.tape
  output : w'.output = w.output
  size : w.heap.size ≤ w'.heap.size
  block : ∀ b, b < w.heap.size → b ≠ x → b ≠ y → w'.heap[b]? = w.heap[b]?
theorem Off2.below {w w' : World} {x y k : Nat} (h : Off2 w w' x y) (hx : k ≤ x) (hy : k ≤ y) (hk : k ≤ w.heap.size) : Below k w w' :=
  ⟨h.os, h.tape, h.output, h.size, fun b hb => h.block b (by omega) (by omega) (by omega)⟩
theorem own_near {w : World} {base n g cap : Nat} {xs : List Value} (h : w.ownsRow base 3 1 (.slice (some ⟨g, 0, none⟩) n cap) n xs) : g < w.heap.size := by
  rcases h.2 with ⟨h0, _⟩ | ⟨g', cap', cur, hv, h2, h3, _⟩
  · cases h0
  · cases hv; exact (Array.getElem?_eq_some_iff.1 h3).1

end Go.Proofs.Ytebohpgdhbammaa
namespace Go.Proofs.Ytebohpgdhbammaa
open Go.RowKit

/-- The list that a value owns holds k, k + 1, .. -/
def HeldV (w : World) (v : Value) (n : Nat) (k : Int) : Prop :=
  (v = .slice none 0 0 ∧ n = 0) ∨ ∃ g cap, v = .slice (some ⟨g, 0, none⟩) n cap ∧ g < w.heap.size ∧ ∀ j : Nat, j < n → w.cell? ⟨g, j, none⟩ = some (.int .i64 (k + j))
theorem HeldV.keep {w w' : World} {v : Value} {n : Nat} {k : Int} (h : HeldV w v n k) (hs : w.heap.size ≤ w'.heap.size) (hb : ∀ g, v.ownBlock = some g → w'.heap[g]? = w.heap[g]?) : HeldV w' v n k := by
  rcases h with h | ⟨g, cap, rfl, hl, hc⟩
  · exact Or.inl h
  · exact Or.inr ⟨g, cap, rfl, Nat.lt_of_lt_of_le hl hs, fun j hj => (World.cell?_of_block (w := w) (a := ⟨g, j, none⟩) (hb g rfl)).trans (hc j hj)⟩
theorem HeldV.below {w w' : World} {v : Value} {n : Nat} {k : Int} (h : HeldV w v n k) (hb : Below w.heap.size w w') : HeldV w' v n k := by
  rcases h with h | ⟨g, cap, rfl, hl, hc⟩
  · exact Or.inl h
  · exact Or.inr ⟨g, cap, rfl, Nat.lt_of_lt_of_le hl hb.size, fun j hj => (hb.cell (p := ⟨g, j, none⟩) hl).trans (hc j hj)⟩
theorem own_keep {w w' : World} {base n : Nat} {v : Value} {xs : List Value} (h : w.ownsRow base 3 1 v n xs) (hb : ∀ g, v.ownBlock = some g → g < w.heap.size → w'.heap[g]? = w.heap[g]?) : w'.ownsRow base 3 1 v n xs := by
  rcases h with ⟨h0, h | ⟨g', cap, cur, rfl, h2, h3, h4⟩⟩
  · exact ⟨h0, Or.inl h⟩
  · exact ⟨h0, Or.inr ⟨g', cap, cur, rfl, h2, (hb g' rfl (Array.getElem?_eq_some_iff.1 h3).1).trans h3, h4⟩⟩
theorem own_below {w w' : World} {base n : Nat} {v : Value} {xs : List Value} (h : w.ownsRow base 3 1 v n xs) (hb : Below w.heap.size w w') : w'.ownsRow base 3 1 v n xs := own_keep h fun _ _ hl => hb.block _ hl
theorem own_row {w : World} {base n : Nat} {v : Value} {xs : List Int} (hx : xs.length = n) (h : w.ownsRow base 3 1 v n (ints xs)) : ∃ a cap, v = .slice a n cap ∧ ARow w a xs := by
  rcases h.2 with ⟨rfl, hn⟩ | ⟨g, cap, cur, rfl, _⟩
  · subst hn; exact ⟨none, 0, rfl, Or.inl (List.length_eq_zero_iff.1 hx)⟩
  · exact ⟨_, _, rfl, arow_owns hx.symm h⟩
theorem grown_under {w w' : World} {base n k : Nat} {v : Value} {xs : List Value} (hg : w.grownBy w' v.ownBlock) (h : w.ownsRow base 3 1 v n xs) (hk : k ≤ base) (hs : k ≤ w.heap.size) : Below k w w' :=
  ⟨hg.os, hg.tape, hg.output, hg.size, fun b hb => hg.block b (by omega) (fun he => by have := h.lt b he.symm; omega)⟩

end Go.Proofs.Ytebohpgdhbammaa
namespace Go.Proofs.Ytebohpgdhbammaa
open Go.RowKit

/-- A list that a call made, from lo on and below hi. -/
def AV (w : World) (lo hi : Nat) (v : Value) (n : Nat) (xs : List Int) : Prop := w.ownsRow lo 3 1 v n (ints xs) ∧ (∀ g, v.ownBlock = some g → g < hi) ∧ hi ≤ w.heap.size
theorem AV.new {w : World} {lo n : Nat} {v : Value} {xs : List Int} (h : w.ownsRow lo 3 1 v n (ints xs)) : AV w lo w.heap.size v n xs := ⟨h, fun g hg => (h.lt g hg).2, Nat.le_refl _⟩
theorem AV.below {w w' : World} {lo hi n : Nat} {v : Value} {xs : List Int} (h : AV w lo hi v n xs) (hb : Below w.heap.size w w') : AV w' lo hi v n xs := ⟨own_below h.1 hb, h.2.1, Nat.le_trans h.2.2 hb.size⟩
theorem AV.rng {w w' : World} {lo hi n a b : Nat} {v : Value} {xs : List Int} (h : AV w lo hi v n xs) (hr : Rng a b w w') (hd : hi ≤ a ∨ b ≤ lo) : AV w' lo hi v n xs :=
  ⟨own_keep h.1 fun g hg hl => hr.2.2.2.2 g hl (by have := h.1.lt g hg; have := h.2.1 g hg; omega), h.2.1, Nat.le_trans h.2.2 hr.2.2.2.1⟩
theorem AV.grown {w w' : World} {lo hi n lo' hi' n' : Nat} {v v' : Value} {xs ys : List Int} (h : AV w lo hi v n xs) (h' : AV w lo' hi' v' n' ys) (hg : w.grownBy w' v'.ownBlock) (hd : hi ≤ lo' ∨ v.ownBlock = none ∨ v.ownBlock ≠ v'.ownBlock) : AV w' lo hi v n xs := by
  refine ⟨own_keep h.1 fun g hv hl => hg.block g hl fun e => ?_, h.2.1, Nat.le_trans h.2.2 hg.size⟩
  have h1 := h'.1.lt g e.symm
  have h2 := h.2.1 g hv
  rcases hd with hd | hd | hd
  · omega
  · rw [hd] at hv; cases hv
  · exact hd (hv.trans e)
theorem AV.under {w w' : World} {lo hi n k : Nat} {v : Value} {xs : List Int} (h : AV w lo hi v n xs) (hg : w.grownBy w' v.ownBlock) (hk : k ≤ lo) (hs : k ≤ w.heap.size) : Below k w w' := grown_under hg h.1 hk hs
/-- What is held from k on, in a list that lies from lo on and below hi. -/
def HV (w : World) (v : Value) (n : Nat) (k : Int) : Prop := HeldV w v n k
theorem HV.below {w w' : World} {v : Value} {n : Nat} {k : Int} (h : HV w v n k) (hb : Below w.heap.size w w') : HV w' v n k := HeldV.below h hb
theorem HV.grown {w w' : World} {v v' : Value} {n : Nat} {k : Int} (h : HV w v n k) (hg : w.grownBy w' v'.ownBlock) (hd : v.ownBlock = none ∨ v.ownBlock ≠ v'.ownBlock) : HV w' v n k := by
  rcases h with h | ⟨g, cap, rfl, hl, hc⟩
  · exact Or.inl h
  · refine Or.inr ⟨g, cap, rfl, Nat.lt_of_lt_of_le hl hg.size, fun j hj => (World.cell?_of_block (w := w) (a := ⟨g, j, none⟩) (hg.block g hl fun e => ?_)).trans (hc j hj)⟩
    rcases hd with hd | hd
    · cases hd
    · exact hd e
end Go.Proofs.Ytebohpgdhbammaa
namespace Go.Proofs.Ytebohpgdhbammaa
open Go.RowKit

theorem below_box (w : World) (o : Obj) : Below w.heap.size w (w.alloc o) := below_new w o
set_option maxRecDepth 100000 in
set_option maxHeartbeats 2000000 in
theorem gt_any {a : Option Addr} {n c : Nat} {xs : List Int} {S K : Int} {w : World} (hx : Hid (xs.length = n)) (HA : Hid (ARow w a xs)) :
    Calls Try.prog 8 #[.agg #[.slice a n c, .int .i64 S, .int .i64 K]] w fun e w' => e = .returned (.bool (Lo.goodB xs S K)) ∧ Below w.heap.size w w' := by
  have HG : Hid (Lo.goodB xs S K = (Pf.inB (n : Int) 1 10 && (Pf.allB xs 0 20 && (Pf.inB S 0 100 && Pf.inB K 0 10)))) := hide (by rw [Lo.goodB, hx.out])
  have HR := hide (HA.out.alloc (.cells #[.slice a n c, .int .i64 S, .int .i64 K] 25))
  have HB := hide (below_box w (.cells #[.slice a n c, .int .i64 S, .int .i64 K] 25))
  generalize Lo.goodB xs S K = G at *
  clear HA
  cases h1 : Pf.inB (n : Int) 1 10
  · have HN : Hid (G = false) := hide (by rw [HG.out, h1]; rfl)
    go_enter Try.func8, Try.ntmps8
    go_wp2_with fail
    refine (between_eq h1).mono ?_
    rintro e w1 ⟨rfl, hw1⟩
    obtain rfl := hw1.symm
    go_wp2_with fail
    go_ret
    exact ⟨ret_bool HN.out.symm, HB.out⟩
  · have hn : n ≤ 1000 := by have := Pf.inB_yes h1; omega
    cases h2 : Pf.allB xs 0 20
    · have HN : Hid (G = false) := hide (by rw [HG.out, h1, h2]; rfl)
      have H2 := hide h2
      clear h2
      go_enter Try.func8, Try.ntmps8
      go_wp2_with fail
      refine (between_eq h1).mono ?_
      rintro e w1 ⟨rfl, hw1⟩
      obtain rfl := hw1.symm
      go_wp2_with fail
      refine (areb_eqn HR hx hn H2).mono ?_
      rintro e w1 ⟨rfl, hw1⟩
      obtain rfl := hw1.symm
      go_wp2_with fail
      go_ret
      exact ⟨ret_bool HN.out.symm, HB.out⟩
    · have H2 := hide h2
      cases h3 : Pf.inB S 0 100
      · have HN : Hid (G = false) := hide (by rw [HG.out, h1, h2, h3]; rfl)
        clear h2
        go_enter Try.func8, Try.ntmps8
        go_wp2_with fail
        refine (between_eq h1).mono ?_
        rintro e w1 ⟨rfl, hw1⟩
        obtain rfl := hw1.symm
        go_wp2_with fail
        refine (areb_eqn HR hx hn H2).mono ?_
        rintro e w1 ⟨rfl, hw1⟩
        obtain rfl := hw1.symm
        go_wp2_with fail
        refine (between_eq h3).mono ?_
        rintro e w1 ⟨rfl, hw1⟩
        obtain rfl := hw1.symm
        go_wp2_with fail
        go_ret
        exact ⟨ret_bool HN.out.symm, HB.out⟩
      · obtain ⟨b, hb⟩ : ∃ b, Pf.inB K 0 10 = b := ⟨_, rfl⟩
        have HN : Hid (G = b) := hide (by rw [HG.out, h1, h2, h3, hb]; rfl)
        clear h2
        go_enter Try.func8, Try.ntmps8
        go_wp2_with fail
        refine (between_eq h1).mono ?_
        rintro e w1 ⟨rfl, hw1⟩
        obtain rfl := hw1.symm
        go_wp2_with fail
        refine (areb_eqn HR hx hn H2).mono ?_
        rintro e w1 ⟨rfl, hw1⟩
        obtain rfl := hw1.symm
        go_wp2_with fail
        refine (between_eq h3).mono ?_
        rintro e w1 ⟨rfl, hw1⟩
        obtain rfl := hw1.symm
        go_wp2_with fail
        refine (between_eq hb).mono ?_
        rintro e w1 ⟨rfl, hw1⟩
        obtain rfl := hw1.symm
        go_wp2_with fail
        go_ret
        exact ⟨ret_bool HN.out.symm, HB.out⟩
theorem gt_eq {a : Option Addr} {n c : Nat} {xs : List Int} {S K : Int} {w : World} {r : Bool} (hx : Hid (xs.length = n)) (HA : Hid (ARow w a xs)) (hr : Hid (Lo.goodB xs S K = r)) :
    Calls Try.prog 8 #[.agg #[.slice a n c, .int .i64 S, .int .i64 K]] w fun e w' => e = .returned (.bool r) ∧ Below w.heap.size w w' := hr.out ▸ gt_any hx HA
theorem all_hid {a : Option Addr} {n c : Nat} {xs : List Int} {lo hi : Int} {w : World} {r : Bool} (h : Hid (ARow w a xs)) (hn : Hid (xs.length = n)) (hl : n ≤ 1048576) (hr : Hid (Pf.allB xs lo hi = r)) :
    Calls Try.prog 37 #[.slice a n c, .int .i64 lo, .int .i64 hi] w fun e w' => e = .returned (.bool r) ∧ w' = w := by
  have := hn.out
  subst this
  exact all_eq h.out (by omega) hr.out
set_option maxRecDepth 100000 in
set_option maxHeartbeats 2000000 in
theorem sgt_any {a : Option Addr} {n c : Nat} {xs : List Int} {S K : Int} {w : World} (hx : Hid (xs.length = n)) (HA : Hid (ARow w a xs)) :
    Calls Try.prog 9 #[.agg #[.slice a n c, .int .i64 S, .int .i64 K]] w fun e w' => e = .returned (.bool (Lo.goodB xs S K)) ∧ Below w.heap.size w w' := by
  have HG : Hid (Lo.goodB xs S K = (Pf.inB (n : Int) 1 10 && (Pf.allB xs 0 20 && (Pf.inB S 0 100 && Pf.inB K 0 10)))) := hide (by rw [Lo.goodB, hx.out])
  have HR := hide (HA.out.alloc (.cells #[.slice a n c, .int .i64 S, .int .i64 K] 25))
  have HB := hide (below_box w (.cells #[.slice a n c, .int .i64 S, .int .i64 K] 25))
  generalize Lo.goodB xs S K = G at *
  clear HA
  cases h1 : Pf.inB (n : Int) 1 10
  · have HN : Hid (G = false) := hide (by rw [HG.out, h1]; rfl)
    go_enter Try.func9, Try.ntmps9
    go_wp2_with fail
    refine (in_eq h1).mono ?_
    rintro e w1 ⟨rfl, hw1⟩
    obtain rfl := hw1.symm
    go_wp2_with fail
    go_ret
    exact ⟨ret_bool HN.out.symm, HB.out⟩
  · have hn : n ≤ 1048576 := by have := Pf.inB_yes h1; omega
    cases h2 : Pf.allB xs 0 20
    · have HN : Hid (G = false) := hide (by rw [HG.out, h1, h2]; rfl)
      have H2 := hide h2
      clear h2
      go_enter Try.func9, Try.ntmps9
      go_wp2_with fail
      refine (in_eq h1).mono ?_
      rintro e w1 ⟨rfl, hw1⟩
      obtain rfl := hw1.symm
      go_wp2_with fail
      refine (all_hid HR hx hn H2).mono ?_
      rintro e w1 ⟨rfl, hw1⟩
      obtain rfl := hw1.symm
      go_wp2_with fail
      go_ret
      exact ⟨ret_bool HN.out.symm, HB.out⟩
    · have H2 := hide h2
      cases h3 : Pf.inB S 0 100
      · have HN : Hid (G = false) := hide (by rw [HG.out, h1, h2, h3]; rfl)
        clear h2
        go_enter Try.func9, Try.ntmps9
        go_wp2_with fail
        refine (in_eq h1).mono ?_
        rintro e w1 ⟨rfl, hw1⟩
        obtain rfl := hw1.symm
        go_wp2_with fail
        refine (all_hid HR hx hn H2).mono ?_
        rintro e w1 ⟨rfl, hw1⟩
        obtain rfl := hw1.symm
        go_wp2_with fail
        refine (in_eq h3).mono ?_
        rintro e w1 ⟨rfl, hw1⟩
        obtain rfl := hw1.symm
        go_wp2_with fail
        go_ret
        exact ⟨ret_bool HN.out.symm, HB.out⟩
      · obtain ⟨b, hb⟩ : ∃ b, Pf.inB K 0 10 = b := ⟨_, rfl⟩
        have HN : Hid (G = b) := hide (by rw [HG.out, h1, h2, h3, hb]; rfl)
        clear h2
        go_enter Try.func9, Try.ntmps9
        go_wp2_with fail
        refine (in_eq h1).mono ?_
        rintro e w1 ⟨rfl, hw1⟩
        obtain rfl := hw1.symm
        go_wp2_with fail
        refine (all_hid HR hx hn H2).mono ?_
        rintro e w1 ⟨rfl, hw1⟩
        obtain rfl := hw1.symm
        go_wp2_with fail
        refine (in_eq h3).mono ?_
        rintro e w1 ⟨rfl, hw1⟩
        obtain rfl := hw1.symm
        go_wp2_with fail
        refine (in_eq hb).mono ?_
        rintro e w1 ⟨rfl, hw1⟩
        obtain rfl := hw1.symm
        go_wp2_with fail
        go_ret
        exact ⟨ret_bool HN.out.symm, HB.out⟩
theorem sgt_eq {a : Option Addr} {n c : Nat} {xs : List Int} {S K : Int} {w : World} {r : Bool} (hx : Hid (xs.length = n)) (HA : Hid (ARow w a xs)) (hr : Hid (Lo.goodB xs S K = r)) :
    Calls Try.prog 9 #[.agg #[.slice a n c, .int .i64 S, .int .i64 K]] w fun e w' => e = .returned (.bool r) ∧ Below w.heap.size w w' := hr.out ▸ sgt_any hx HA
end Go.Proofs.Ytebohpgdhbammaa
namespace Go.Proofs.Ytebohpgdhbammaa
open Go.RowKit

def TBox (w : World) (B : Nat) (v0 v1 v2 : Value) : Prop := w.cell? ⟨B, 0, none⟩ = some v0 ∧ w.cell? ⟨B, 1, none⟩ = some v1 ∧ w.cell? ⟨B, 2, none⟩ = some v2 ∧ B < w.heap.size
theorem TBox.below {w w' : World} {B : Nat} {v0 v1 v2 : Value} (h : TBox w B v0 v1 v2) (hb : Below w.heap.size w w') : TBox w' B v0 v1 v2 :=
  ⟨(hb.cell (p := ⟨B, 0, none⟩) h.2.2.2).trans h.1, (hb.cell (p := ⟨B, 1, none⟩) h.2.2.2).trans h.2.1, (hb.cell (p := ⟨B, 2, none⟩) h.2.2.2).trans h.2.2.1, Nat.lt_of_lt_of_le h.2.2.2 hb.size⟩
theorem TBox.new (w : World) (v0 v1 v2 : Value) (t : TypeId) : TBox (w.alloc (.cells #[v0, v1, v2] t)) w.heap.size v0 v1 v2 := ⟨by simp [go_sem], by simp [go_sem], by simp [go_sem], by simp⟩
theorem TBox.grown {w w' : World} {B : Nat} {v0 v1 v2 : Value} {q : Option Nat} (h : TBox w B v0 v1 v2) (hg : w.grownBy w' q) (hq : q ≠ some B) : TBox w' B v0 v1 v2 := by
  have hk := hg.block B h.2.2.2 fun e => hq e.symm
  exact ⟨(World.cell?_of_block (a := ⟨B, 0, none⟩) hk).trans h.1, (World.cell?_of_block (a := ⟨B, 1, none⟩) hk).trans h.2.1, (World.cell?_of_block (a := ⟨B, 2, none⟩) hk).trans h.2.2.1, Nat.lt_of_lt_of_le h.2.2.2 hg.size⟩
theorem TBox.setCell {w : World} {B : Nat} {v0 v1 v2 u : Value} {p : Addr} (h : TBox w B v0 v1 v2) (hp : p.block ≠ B) : TBox (w.setCell p u) B v0 v1 v2 :=
  ⟨(World.cell?_setCell_other _ _ _ _ (by intro e; exact hp (by rw [e]))).trans h.1, (World.cell?_setCell_other _ _ _ _ (by intro e; exact hp (by rw [e]))).trans h.2.1, (World.cell?_setCell_other _ _ _ _ (by intro e; exact hp (by rw [e]))).trans h.2.2.1, by simpa using h.2.2.2⟩
theorem AV.blk {w : World} {lo hi n x : Nat} {xs : List Int} (h : AV w lo hi (.slice (some ⟨x, 0, none⟩) n n) n xs) : lo ≤ x ∧ x < hi := ⟨(h.1.lt x rfl).1, h.2.1 x rfl⟩
end Go.Proofs.Ytebohpgdhbammaa
namespace Go.Proofs.Ytebohpgdhbammaa
open Go.RowKit

theorem Cur.low14 {w w' : World} {c len cap N B : Nat} {a : Option Addr} (h : Cur w c a len cap N) (hb : Below B w w') (hc : c < B) (ho : ∀ b off, a = some ⟨b, off, none⟩ → 0 < len → b < B) : Cur w' c a len cap N :=
  h.blocks hb.size (hb.block c hc) fun b off e hl => hb.block b (ho b off e hl)
theorem kp_below14 {c B : Nat} {w0 w w' : World} (h : Kp c w0 w) (hb : Below B w w') (hB : w0.heap.size ≤ B) : Kp c w0 w' :=
  ⟨hb.os.trans h.os, hb.tape.trans h.tape, hb.output.trans h.output, Nat.le_trans h.size hb.size, fun k hk hne => (hb.block k (by omega)).trans (h.block k hk hne)⟩
/-- The trade that is being drawn, in a variable; the answer's variable; the cursor. -/
structure TI (w wr : World) (c len cap N V : Nat) (a : Option Addr) (v : Value) (xs : List Int) (S K : Int) : Prop where
  c1 : wr.cell? ⟨V, 0, none⟩ = some v
  c2 : wr.cell? ⟨V, 1, none⟩ = some (.int .i64 S)
  c3 : wr.cell? ⟨V, 2, none⟩ = some (.int .i64 K)
  f1 : ∀ i, wr.frozen? ⟨V, i, none⟩ = false
  own : wr.ownsRow (V + 1) 3 1 v xs.length (ints xs)
  size : V + 1 ≤ wr.heap.size
  r0 : wr.cell? ⟨w.heap.size, 0, none⟩ = some (.slice none 0 0)
  r1 : wr.cell? ⟨w.heap.size, 1, none⟩ = some (.int .i64 0)
  r2 : wr.cell? ⟨w.heap.size, 2, none⟩ = some (.int .i64 0)
  rf : ∀ i, wr.frozen? ⟨w.heap.size, i, none⟩ = false
  hV : w.heap.size < V
  cur : Cur wr c a len cap N
  kp : Kp c w wr
theorem TI.of {w wr w2 : World} {c len cap N M V : Nat} {a : Option Addr} {v : Value} {xs : List Int} {S K : Int} (h : TI w wr c len cap N V a v xs S K) (hV : w2.heap[V]? = wr.heap[V]?) (hR : w2.heap[w.heap.size]? = wr.heap[w.heap.size]?) (own : w2.ownsRow (V + 1) 3 1 v xs.length (ints xs)) (hs : wr.heap.size ≤ w2.heap.size) (cur : Cur w2 c a len cap M) (kp : Kp c w w2) : TI w w2 c len cap M V a v xs S K :=
  ⟨(World.cell?_of_block (a := ⟨V, 0, none⟩) hV).trans h.c1, (World.cell?_of_block (a := ⟨V, 1, none⟩) hV).trans h.c2, (World.cell?_of_block (a := ⟨V, 2, none⟩) hV).trans h.c3, fun i => (World.frozen?_of_block (a := ⟨V, i, none⟩) hV).trans (h.f1 i), own, Nat.le_trans h.size hs,
    (World.cell?_of_block (a := ⟨w.heap.size, 0, none⟩) hR).trans h.r0, (World.cell?_of_block (a := ⟨w.heap.size, 1, none⟩) hR).trans h.r1, (World.cell?_of_block (a := ⟨w.heap.size, 2, none⟩) hR).trans h.r2, fun i => (World.frozen?_of_block (a := ⟨w.heap.size, i, none⟩) hR).trans (h.rf i), h.hV, cur, kp⟩
theorem TI.step {w wr w2 : World} {c len cap N M V : Nat} {a : Option Addr} {v : Value} {xs : List Int} {S K : Int} (h : TI w wr c len cap N V a v xs S K) (hc : c < w.heap.size) (hk : Kp c wr w2) (hcur : Cur w2 c a len cap M) : TI w w2 c len cap M V a v xs S K :=
  h.of (hk.block V (by have := h.size; omega) (by have := h.hV; omega)) (hk.block _ (by have := h.size; have := h.hV; omega) (by omega)) (own_kp h.own hk (by have := h.hV; omega)) hk.size hcur (h.kp.trans hk)
theorem TI.below {w wr w2 : World} {c len cap N V : Nat} {a : Option Addr} {v : Value} {xs : List Int} {S K : Int} (h : TI w wr c len cap N V a v xs S K) (hb : Below wr.heap.size wr w2) : TI w w2 c len cap N V a v xs S K :=
  h.of (hb.block V (by have := h.size; omega)) (hb.block _ (by have := h.size; have := h.hV; omega)) (own_below h.own hb) hb.size (h.cur.below hb) (h.kp.trans (Kp.of_below hb))
theorem TI.le {w wr : World} {c len cap N M V : Nat} {a : Option Addr} {v : Value} {xs : List Int} {S K : Int} (h : TI w wr c len cap N V a v xs S K) (hNM : N ≤ M) : TI w wr c len cap M V a v xs S K := ⟨h.c1, h.c2, h.c3, h.f1, h.own, h.size, h.r0, h.r1, h.r2, h.rf, h.hV, h.cur.le hNM, h.kp⟩
theorem TI.blk {w wr w1 : World} {o : Obj} {c len cap N V : Nat} {a : Option Addr} {v : Value} {xs : List Int} {S K : Int} (h : TI w wr c len cap N V a v xs S K) (hg : (wr.alloc o).grownBy w1 v.ownBlock) {b : Nat} (hb : b < V + 1) : w1.heap[b]? = wr.heap[b]? := by
  have hz := h.size
  rw [hg.block b (by simp; omega) (fun e => by have := (h.own.lt b e.symm).1; omega)]
  exact (below_new wr o).block b (by omega)
theorem TI.fce {w wr w1 : World} {o : Obj} {c len cap N V : Nat} {a : Option Addr} {v : Value} {xs : List Int} {S K : Int} (h : TI w wr c len cap N V a v xs S K) (hg : (wr.alloc o).grownBy w1 v.ownBlock) : w1.cell? ⟨V, 0, none⟩ = some v := (World.cell?_of_block (a := ⟨V, 0, none⟩) (h.blk hg (b := V) (Nat.lt_succ_self V))).trans h.c1
theorem TI.ffr {w wr w1 : World} {o : Obj} {c len cap N V : Nat} {a : Option Addr} {v : Value} {xs : List Int} {S K : Int} (h : TI w wr c len cap N V a v xs S K) (hg : (wr.alloc o).grownBy w1 v.ownBlock) : w1.frozen? ⟨V, 0, none⟩ = false := (World.frozen?_of_block (a := ⟨V, 0, none⟩) (h.blk hg (b := V) (Nat.lt_succ_self V))).trans (h.f1 0)
theorem TI.add {w wr w1 : World} {c len cap N V gg cp : Nat} {a : Option Addr} {v : Value} {xs : List Int} {S K x : Int} {o : Obj} (h : TI w wr c len cap N V a v xs S K) (hc : c < w.heap.size) (ho : ∀ b off, a = some ⟨b, off, none⟩ → 0 < len → b < w.heap.size) (hg : (wr.alloc o).grownBy w1 v.ownBlock)
    (hown : w1.ownsRow (V + 1) 3 1 (.slice (some ⟨gg, 0, none⟩) (xs.length + 1) cp) (xs.length + 1) (ints xs ++ ints [x])) : TI w (w1.setCell ⟨V, 0, none⟩ (.slice (some ⟨gg, 0, none⟩) (xs.length + 1) cp)) c len cap N V a (.slice (some ⟨gg, 0, none⟩) (xs.length + 1) cp) (xs ++ [x]) S K := by
  have hz := h.size
  have hV := h.hV
  have hs := hg.size
  have hs' : (wr.alloc o).heap.size = wr.heap.size + 1 := by simp
  have hB : Below w.heap.size wr (w1.setCell ⟨V, 0, none⟩ (.slice (some ⟨gg, 0, none⟩) (xs.length + 1) cp)) := by
    refine ((((Below.refl w.heap.size wr).alloc (by omega) o)).trans ⟨hg.os, hg.tape, hg.output, hg.size, fun b hb => hg.block b (by omega) fun e => ?_⟩).setCell (by show w.heap.size ≤ V; omega) _
    have := (h.own.lt b e.symm).1
    omega
  have hbV := h.blk hg (b := V) (by omega)
  have hbR := h.blk hg (b := w.heap.size) (by omega)
  refine ⟨World.cell?_setCell_same _ _ _ (h.fce hg), (World.cell?_setCell_other _ _ _ _ (by simp)).trans ((World.cell?_of_block (a := ⟨V, 1, none⟩) hbV).trans h.c2), (World.cell?_setCell_other _ _ _ _ (by simp)).trans ((World.cell?_of_block (a := ⟨V, 2, none⟩) hbV).trans h.c3), fun i => (World.frozen?_setCell ..).trans ((World.frozen?_of_block (a := ⟨V, i, none⟩) hbV).trans (h.f1 i)), ?_, by simp; omega, (World.cell?_setCell_other _ _ _ _ (by intro e; have : V = w.heap.size := congrArg Addr.block e; omega)).trans ((World.cell?_of_block (a := ⟨w.heap.size, 0, none⟩) hbR).trans h.r0), (World.cell?_setCell_other _ _ _ _ (by simp)).trans ((World.cell?_of_block (a := ⟨w.heap.size, 1, none⟩) hbR).trans h.r1), (World.cell?_setCell_other _ _ _ _ (by simp)).trans ((World.cell?_of_block (a := ⟨w.heap.size, 2, none⟩) hbR).trans h.r2), fun i => (World.frozen?_setCell ..).trans ((World.frozen?_of_block (a := ⟨w.heap.size, i, none⟩) hbR).trans (h.rf i)), hV, h.cur.low14 hB hc ho, kp_below14 h.kp hB (Nat.le_refl _)⟩
  rw [show (xs ++ [x]).length = xs.length + 1 by simp, show ints (xs ++ [x]) = ints xs ++ ints [x] by simp [ints]]
  exact ownsRow_setCell_below hown (by show V < V + 1; omega) _
theorem TI.setK {w wr : World} {c len cap N V : Nat} {a : Option Addr} {v : Value} {xs : List Int} {S K x : Int} (h : TI w wr c len cap N V a v xs S K) (hc : c < w.heap.size) (ho : ∀ b off, a = some ⟨b, off, none⟩ → 0 < len → b < w.heap.size) : TI w (wr.setCell ⟨V, 2, none⟩ (.int .i64 x)) c len cap N V a v xs S x := by
  have hV := h.hV
  have hB : Below w.heap.size wr (wr.setCell ⟨V, 2, none⟩ (.int .i64 x)) := (Below.refl _ _).setCell (by show w.heap.size ≤ V; omega) _
  exact ⟨(World.cell?_setCell_other _ _ _ _ (by simp)).trans h.c1, (World.cell?_setCell_other _ _ _ _ (by simp)).trans h.c2, World.cell?_setCell_same _ _ _ h.c3, fun i => (World.frozen?_setCell ..).trans (h.f1 i), ownsRow_setCell_below h.own (by show V < V + 1; omega) _, by simpa using h.size, (World.cell?_setCell_other _ _ _ _ (by simp)).trans h.r0, (World.cell?_setCell_other _ _ _ _ (by simp)).trans h.r1, (World.cell?_setCell_other _ _ _ _ (by intro e; have : V = w.heap.size := congrArg Addr.block e; omega)).trans h.r2, fun i => (World.frozen?_setCell ..).trans (h.rf i), hV, h.cur.low14 hB hc ho, kp_below14 h.kp hB (Nat.le_refl _)⟩
theorem ti_end {w wr : World} {c len cap N V : Nat} {a : Option Addr} {v : Value} {xs : List Int} {S K : Int} (h : TI w wr c len cap N V a v xs S K) (hc : c < w.heap.size) (ho : ∀ b off, a = some ⟨b, off, none⟩ → 0 < len → b < w.heap.size) :
    (((wr.setCell ⟨w.heap.size, 0, none⟩ v).setCell ⟨w.heap.size, 1, none⟩ (.int .i64 S)).setCell ⟨w.heap.size, 2, none⟩ (.int .i64 K)).ownsRow w.heap.size 3 1 v xs.length (ints xs) ∧ Cur (((wr.setCell ⟨w.heap.size, 0, none⟩ v).setCell ⟨w.heap.size, 1, none⟩ (.int .i64 S)).setCell ⟨w.heap.size, 2, none⟩ (.int .i64 K)) c a len cap N ∧ Kp c w (((wr.setCell ⟨w.heap.size, 0, none⟩ v).setCell ⟨w.heap.size, 1, none⟩ (.int .i64 S)).setCell ⟨w.heap.size, 2, none⟩ (.int .i64 K)) := by
  have hB : Below w.heap.size wr (((wr.setCell ⟨w.heap.size, 0, none⟩ v).setCell ⟨w.heap.size, 1, none⟩ (.int .i64 S)).setCell ⟨w.heap.size, 2, none⟩ (.int .i64 K)) := (((Below.refl _ _).setCell (by show w.heap.size ≤ w.heap.size; omega) _).setCell (by show w.heap.size ≤ w.heap.size; omega) _).setCell (by show w.heap.size ≤ w.heap.size; omega) _
  have hV := h.hV
  exact ⟨owns_low (ownsRow_setCell_below (ownsRow_setCell_below (ownsRow_setCell_below h.own (by show w.heap.size < V + 1; omega) _) (by show w.heap.size < V + 1; omega) _) (by show w.heap.size < V + 1; omega) _) (by omega), h.cur.low14 hB hc ho, kp_below14 h.kp hB (Nat.le_refl _)⟩
/-- What is handed out: some trade. -/
def TPost (w : World) (c len cap N : Nat) (a : Option Addr) (e : Ending) (w' : World) : Prop :=
  ∃ (v : Value) (xs : List Int) (S K : Int), e = .returned (.agg #[v, .int .i64 S, .int .i64 K]) ∧ xs.length ≤ 12 ∧ w'.ownsRow w.heap.size 3 1 v xs.length (ints xs) ∧ Cur w' c a len cap (N + 50) ∧ Kp c w w'
theorem seven14 (w : World) : ∀ i, i < 7 → ∃ z : Int, (w.alloc (.cells #[.int .i64 0, .int .i64 0, .int .i64 1, .int .i64 3, .int .i64 5, .int .i64 9, .int .i64 20] 3)).cell? ⟨w.heap.size, i, none⟩ = some (.int .i64 z) := by
  intro i hi
  have : i = 0 ∨ i = 1 ∨ i = 2 ∨ i = 3 ∨ i = 4 ∨ i = 5 ∨ i = 6 := by omega
  rcases this with rfl | rfl | rfl | rfl | rfl | rfl | rfl
  · exact ⟨0, by simp⟩
  · exact ⟨0, by simp⟩
  · exact ⟨1, by simp⟩
  · exact ⟨3, by simp⟩
  · exact ⟨5, by simp⟩
  · exact ⟨9, by simp⟩
  · exact ⟨20, by simp⟩
theorem five14 (w : World) (z0 z1 z2 z3 z4 : Int) : ∀ i, i < 5 → ∃ z : Int, (w.alloc (.cells #[.int .i64 z0, .int .i64 z1, .int .i64 z2, .int .i64 z3, .int .i64 z4] 3)).cell? ⟨w.heap.size, i, none⟩ = some (.int .i64 z) := by
  intro i hi
  have : i = 0 ∨ i = 1 ∨ i = 2 ∨ i = 3 ∨ i = 4 := by omega
  rcases this with rfl | rfl | rfl | rfl | rfl
  · exact ⟨z0, by simp⟩
  · exact ⟨z1, by simp⟩
  · exact ⟨z2, by simp⟩
  · exact ⟨z3, by simp⟩
  · exact ⟨z4, by simp⟩
theorem three14 (w : World) (z0 z1 z2 : Int) : ∀ i, i < 3 → ∃ z : Int, (w.alloc (.cells #[.int .i64 z0, .int .i64 z1, .int .i64 z2] 3)).cell? ⟨w.heap.size, i, none⟩ = some (.int .i64 z) := by
  intro i hi
  have : i = 0 ∨ i = 1 ∨ i = 2 := by omega
  rcases this with rfl | rfl | rfl
  · exact ⟨z0, by simp⟩
  · exact ⟨z1, by simp⟩
  · exact ⟨z2, by simp⟩
set_option maxRecDepth 20000 in
set_option maxHeartbeats 4000000 in
theorem drawT_any {c len cap N : Nat} {a : Option Addr} {w : World} (hc : Cur w c a len cap N) (hN : N ≤ 700000000) :
    Calls Try.prog 25 #[.pointer (some ⟨c, 0, none⟩)] w fun e w' => TPost w c len cap N a e w' := by
  obtain ⟨i0, hi, hz0, hz1, hz2⟩ := infoI
  have hcw := hc.1
  have HOLD := hide hc.old
  have HC := hide (hc.below (below_new w (.cells #[.slice none 0 0, .int .i64 0, .int .i64 0] 25)))
  have HK := hide (Kp.of_below (c := c) (below_new w (.cells #[.slice none 0 0, .int .i64 0, .int .i64 0] 25)))
  have q0 : (w.alloc (.cells #[.slice none 0 0, .int .i64 0, .int .i64 0] 25)).cell? ⟨w.heap.size, 0, none⟩ = some (.slice none 0 0) := by simp
  have q1 : (w.alloc (.cells #[.slice none 0 0, .int .i64 0, .int .i64 0] 25)).cell? ⟨w.heap.size, 1, none⟩ = some (.int .i64 0) := by simp
  have q2 : (w.alloc (.cells #[.slice none 0 0, .int .i64 0, .int .i64 0] 25)).cell? ⟨w.heap.size, 2, none⟩ = some (.int .i64 0) := by simp
  have qf : ∀ i, (w.alloc (.cells #[.slice none 0 0, .int .i64 0, .int .i64 0] 25)).frozen? ⟨w.heap.size, i, none⟩ = false := fun i => by simp [go_sem]
  have qz : w.heap.size < (w.alloc (.cells #[.slice none 0 0, .int .i64 0, .int .i64 0] 25)).heap.size := by simp
  obtain ⟨w0, hw0⟩ : ∃ W, W = w.alloc (.cells #[.slice none 0 0, .int .i64 0, .int .i64 0] 25) := ⟨_, rfl⟩
  rw [← hw0] at HC HK q0 q1 q2 qf qz
  have HW0 := hide hw0.symm
  have HQ := hide (show (∀ W, Kp c w0 W → ∀ V, W.heap.size = V → Cur W c a len cap (N + 8) → ∀ S K : Int, TI w (W.alloc (.cells #[.slice none 0 0, .int .i64 S, .int .i64 K] 25)) c len cap (N + 8) V a (.slice none 0 0) [] S K) from fun W hk V hV hcur S K => by
    subst hV
    have hsz := hk.size
    have hb := below_new W (.cells #[.slice none 0 0, .int .i64 S, .int .i64 K] 25)
    refine ⟨by simp, by simp, by simp, fun i => by simp [go_sem], World.ownsRow_nil _ _ _ _, by simp, (hb.cell (p := ⟨w.heap.size, 0, none⟩) (show w.heap.size < _ by omega)).trans ((hk.cell (b := w.heap.size) (o := 0) qz (by omega)).trans q0), (hb.cell (p := ⟨w.heap.size, 1, none⟩) (show w.heap.size < _ by omega)).trans ((hk.cell (b := w.heap.size) (o := 1) qz (by omega)).trans q1), (hb.cell (p := ⟨w.heap.size, 2, none⟩) (show w.heap.size < _ by omega)).trans ((hk.cell (b := w.heap.size) (o := 2) qz (by omega)).trans q2), fun i => (hb.frozen (p := ⟨w.heap.size, i, none⟩) (show w.heap.size < _ by omega)).trans ((hk.frozen (b := w.heap.size) (o := i) qz (by omega)).trans (qf i)), by omega, hcur.below hb, (HK.out.trans hk).trans (Kp.of_below hb)⟩)
  clear hc hw0 q0 q1 q2 qf
  go_enter Try.func25, Try.ntmps25
  go_upto_region 1 with fail
  rw [HW0.out]
  clear HW0
  go_wp2_with fail
  refine (among_any (HC.out.below (below_alloc w0 _)) (by omega) (by omega) (by omega) (by simp) (by omega) (five14 w0 0 5 10 30 100)).mono ?_
  rintro e w1 ⟨S, rfl, hc1, hk1⟩
  have HC1 := hide hc1
  have HK1 : Hid (Kp c w0 w1) := hide (((Kp.refl c w0).alloc _).trans hk1)
  clear hc1 hk1
  go_wp2_with fail
  refine (pick_any 4 (by omega) HC1.out (by omega)).mono ?_
  rintro e w2 ⟨K, rfl, _, _, hc2, hk2⟩
  have HK2 := hide (HK1.out.trans hk2)
  obtain ⟨V, hV⟩ : ∃ V, V = w2.heap.size := ⟨_, rfl⟩
  have HT2 := hide (HQ.out w2 HK2.out V hV.symm (hc2.le (by omega)) S K)
  have HVe := hide hV.symm
  obtain ⟨w3, hw3⟩ : ∃ W, W = w2.alloc (.cells #[.slice none 0 0, .int .i64 S, .int .i64 K] 25) := ⟨_, rfl⟩
  rw [← hw3] at HT2
  have HW3 := hide hw3.symm
  clear hc2 hk2 hw3 hV HQ HC HC1 HK1 HK2
  go_upto_region 2 with fail
  rw [HW3.out, HVe.out]
  clear HW3 HVe
  go_wp2_with fail
  refine (pick_any 5 (by omega) HT2.out.cur (by omega)).mono ?_
  rintro e w4 ⟨r4, rfl, p0, p1, hc4, hk4⟩
  have HT4 := hide (HT2.out.step hcw hk4 hc4)
  clear hc4 hk4 HT2
  go_upto_if 15 with (go_at_call 26; refine (one_any 20 (by omega) HT4.out.cur (by omega)).mono ?_; rintro e w5 ⟨r5, rfl, hc5, hk5⟩; have HT5 := hide (HT4.out.step hcw hk5 hc5); clear hc5 hk5)
  go_cut [4] (fun s4 wc => ∃ m : Nat, s4 = .int .i64 m ∧ m ≤ 11 ∧ Hid (TI w wc c len cap (N + 16) V a (.slice none 0 0) [] S K))
  case first =>
    cases r5
    · go_wp2_with fail
      go_meet
      case rel => exact ⟨(1 + r4).toNat, by congr 1; omega, by omega, hide (HT5.out.le (by omega))⟩
    · go_wp2_with fail
      refine (amongB_any (lo := 0) (hi := 11) (HT5.out.cur.below (below_alloc w5 _)) (by omega) (by omega) (by omega) (by simp) (by have := HT5.out.cur.1; omega) (three_cells w5 3 (by omega) (by omega) (by omega))).mono ?_
      rintro e w6 ⟨r6, rfl, q0, q1, hc6, hk6⟩
      have HT6 := hide ((HT5.out.below (below_alloc w5 _)).step hcw hk6 hc6)
      clear hc6 hk6
      go_wp2_with fail
      go_meet
      case rel => exact ⟨r6.toNat, by congr 1; omega, by omega, hide (HT6.out.le (by omega))⟩
  case rest =>
    obtain ⟨m, rfl, hm, HT0⟩ := hcut
    clear HT4 HT5
    go_wp2_with fail
    go_loopw [4] (fun s wr => ∃ (k : Nat) (v : Value) (xs : List Int), s = .int .i64 k ∧ k + xs.length = m ∧ Hid (TI w wr c len cap (N + 16 + 2 * xs.length) V a v xs S K)) (fun s _ => (intOf s).toNat)
    case atStart => exact ⟨m, _, [], rfl, by simp, HT0⟩
    case round =>
      obtain ⟨k, v, xs, rfl, hkm, HT⟩ := hrel
      clear HT0
      cases k with
      | succ k =>
        have i1 : (0 : Int) < ((k + 1 : Nat) : Int) := by omega
        have hxl : xs.length ≤ 11 := by omega
        have HTd := hide (HT.out.below (w2 := wr.drew) (Below.refl _ _).drew)
        have c1 := HT.out.c1
        have hzr := HT.out.size
        have HT3 : Hid (TI w (wr.alloc (.cells #[.int .i64 0, .int .i64 0, .int .i64 1, .int .i64 3, .int .i64 5, .int .i64 9, .int .i64 20] 3)).drew c len cap (N + 16 + 2 * xs.length) V a v xs S K) := hide (HT.out.below (below_alloc wr _).drew)
        have ca1 : ∀ o : Obj, (wr.alloc o).cell? ⟨V, 0, none⟩ = some v := fun o => ((below_new wr o).cell (p := ⟨V, 0, none⟩) (show V < wr.heap.size by omega)).trans c1
        have hbl : wr.heap.size < (wr.alloc (.cells #[.int .i64 0, .int .i64 0, .int .i64 1, .int .i64 3, .int .i64 5, .int .i64 9, .int .i64 20] 3)).drew.heap.size := by show wr.heap.size < (wr.alloc (.cells #[.int .i64 0, .int .i64 0, .int .i64 1, .int .i64 3, .int .i64 5, .int .i64 9, .int .i64 20] 3)).heap.size; simp
        have hbc : wr.heap.size ≠ c := by have := HT.out.kp.size; omega
        go_wp2_with fail
        refine wp_region_noPanic ?_
        refine wp_region_held_drew (S := fun _ => True) (by kernel_rfl) trivial (fun hHeld => ?_)
        refine wpAnyH_take (i := 0) (oi := ⟨some 23, _, _, _, _, none⟩) (v := .pointer (some ⟨V, 0, none⟩)) rfl (by kernel_rfl) (by kernel_rfl) (by kernel_rfl) (fun _ _ _ h => h) (Or.inl ⟨by rfl, fun w' hSw => by clear hSw; go_simp⟩) hHeld ?_
        simp only [Act.put, List.setIfInBounds_toArray, List.set_cons_zero, List.set_cons_succ]
        refine wpAnyH_take (i := 2) (oi := ⟨some 25, _, _, _, _, none⟩) (v := .pointer (some ⟨c, 0, none⟩)) rfl (by kernel_rfl) (by kernel_rfl) (by kernel_rfl) (fun _ _ _ h => h) (Or.inl ⟨by rfl, fun w' hSw => by clear hSw; go_simp⟩) hHeld ?_
        simp only [Act.put, List.setIfInBounds_toArray, List.set_cons_zero, List.set_cons_succ]
        refine wpAnyH_ready (rs := [1, 3]) (by kernel_rfl) (by simp) ?_
        refine AllReadyH.cons (o := ⟨some 24, _, _, _, _, none⟩) rfl (fun K hK => ?_) (AllReadyH.cons (o := ⟨some 26, _, _, _, _, none⟩) rfl (fun K hK => ?_) AllReadyH.nil)
        · go_simp
          refine hK.out _ _ trivial (fun hHeld => ?_)
          clear hK K
          refine wpAnyH_ready (rs := [3]) (by kernel_rfl) (by simp) ?_
          refine AllReadyH.cons (o := ⟨some 26, _, _, _, _, none⟩) rfl (fun K hK => ?_) AllReadyH.nil
          go_simp
          refine hK.out _ _ trivial (fun hHeld => ?_)
          clear hK K
          refine wpAnyH_ready (rs := [4]) (by kernel_rfl) (by simp) ?_
          refine AllReadyH.cons (o := ⟨some 27, _, _, _, _, none⟩) rfl (fun K hK => ?_) AllReadyH.nil
          go_simp
          refine (among_any (HT3.out.cur) (by omega) (by omega) (by omega) hbl hbc (seven14 wr)).mono ?_
          rintro e w4 ⟨r4, rfl, hc4, hk4⟩
          have HT4 := hide (HT3.out.step hcw hk4 hc4)
          have c4 := HT4.out.c1
          have hz4 := HT4.out.size
          have ca4 : ∀ o : Obj, (w4.alloc o).cell? ⟨V, 0, none⟩ = some v := fun o => ((below_new w4 o).cell (p := ⟨V, 0, none⟩) (show V < w4.heap.size by omega)).trans c4
          clear hc4 hk4
          refine hK.out _ _ trivial (fun hHeld => ?_)
          clear hK K
          refine wpAnyH_ready (rs := [5]) (by kernel_rfl) (by simp) ?_
          refine AllReadyH.cons (o := ⟨some 28, _, _, _, _, none⟩) rfl (fun K hK => ?_) AllReadyH.nil
          go_simp
          refine hK.out _ _ trivial (fun hHeld => ?_)
          clear hK K
          refine wpAnyH_ready (rs := [6]) (by kernel_rfl) (by simp) ?_
          refine AllReadyH.cons (o := ⟨some 29, _, _, _, _, none⟩) rfl (fun K hK => ?_) AllReadyH.nil
          refine step_append_lies _ (by rfl) _ _ _ (by rfl) (V + 1) 3 i0 _ 1 8 Try.underlying23 hi hz0 hz1 hz2 rfl (by omega) v xs.length (ints xs) (by rfl) (HT4.out.own.alloc _) ⟨w4.heap.size, 0, none⟩ 1 1 (ints [r4]) (by rfl) (by rfl) (World.news_of_block (cs := #[.int .i64 r4]) (t := 3) (fr := (0, 0)) (heap_alloc_new w4 _)) (c_ints _) (by omega) (by unfold maxLen; omega) (by omega) (by simp; omega) (w4.heap.size + 1) (by simp) ?_
          intro gg cp w5 hown5 hgrow5 hat hlt'
          have F0' := HT4.out.ffr hgrow5
          have C0' := HT4.out.fce hgrow5
          refine hK.out _ _ trivial (fun hHeld => ?_)
          clear hK K
          refine wpAnyH_take (i := 7) (oi := ⟨some 30, _, _, _, _, none⟩) (v := .pointer (some ⟨V, 0, none⟩)) rfl (by kernel_rfl) (by kernel_rfl) (by kernel_rfl) (fun _ _ _ h => h) (Or.inl ⟨by rfl, fun w' hSw => by clear hSw; go_simp⟩) hHeld ?_
          simp only [Act.put, List.setIfInBounds_toArray, List.set_cons_zero, List.set_cons_succ]
          refine wpAnyH_ready (rs := [8]) (by kernel_rfl) (by simp) ?_
          refine AllReadyH.cons (o := ⟨none, _, _, _, _, none⟩) rfl (fun K hK => ?_) AllReadyH.nil
          go_simp
          refine hK.out _ _ trivial (fun hHeld => ?_)
          clear hK K
          refine wpAnyH_done (by kernel_rfl) ?_ _
          refine NoPanic.normal ?_
          clear hHeld
          go_wp2_with fail
          exact ⟨⟨k, _, xs ++ [r4], by go_num, by simp; omega, hide ((HT4.out.add hcw HOLD.out hgrow5 hown5).le (by simp; omega))⟩, by simp only [intOf]; omega⟩
        · go_simp
          refine hK.out _ _ trivial (fun hHeld => ?_)
          clear hK K
          refine wpAnyH_ready (rs := [1, 4]) (by kernel_rfl) (by simp) ?_
          refine AllReadyH.cons (o := ⟨some 24, _, _, _, _, none⟩) rfl (fun K hK => ?_) (AllReadyH.cons (o := ⟨some 27, _, _, _, _, none⟩) rfl (fun K hK => ?_) AllReadyH.nil)
          · go_simp
            refine hK.out _ _ trivial (fun hHeld => ?_)
            clear hK K
            refine wpAnyH_ready (rs := [4]) (by kernel_rfl) (by simp) ?_
            refine AllReadyH.cons (o := ⟨some 27, _, _, _, _, none⟩) rfl (fun K hK => ?_) AllReadyH.nil
            go_simp
            refine (among_any (HT3.out.cur) (by omega) (by omega) (by omega) hbl hbc (seven14 wr)).mono ?_
            rintro e w4 ⟨r4, rfl, hc4, hk4⟩
            have HT4 := hide (HT3.out.step hcw hk4 hc4)
            have c4 := HT4.out.c1
            have hz4 := HT4.out.size
            have ca4 : ∀ o : Obj, (w4.alloc o).cell? ⟨V, 0, none⟩ = some v := fun o => ((below_new w4 o).cell (p := ⟨V, 0, none⟩) (show V < w4.heap.size by omega)).trans c4
            clear hc4 hk4
            refine hK.out _ _ trivial (fun hHeld => ?_)
            clear hK K
            refine wpAnyH_ready (rs := [5]) (by kernel_rfl) (by simp) ?_
            refine AllReadyH.cons (o := ⟨some 28, _, _, _, _, none⟩) rfl (fun K hK => ?_) AllReadyH.nil
            go_simp
            refine hK.out _ _ trivial (fun hHeld => ?_)
            clear hK K
            refine wpAnyH_ready (rs := [6]) (by kernel_rfl) (by simp) ?_
            refine AllReadyH.cons (o := ⟨some 29, _, _, _, _, none⟩) rfl (fun K hK => ?_) AllReadyH.nil
            refine step_append_lies _ (by rfl) _ _ _ (by rfl) (V + 1) 3 i0 _ 1 8 Try.underlying23 hi hz0 hz1 hz2 rfl (by omega) v xs.length (ints xs) (by rfl) (HT4.out.own.alloc _) ⟨w4.heap.size, 0, none⟩ 1 1 (ints [r4]) (by rfl) (by rfl) (World.news_of_block (cs := #[.int .i64 r4]) (t := 3) (fr := (0, 0)) (heap_alloc_new w4 _)) (c_ints _) (by omega) (by unfold maxLen; omega) (by omega) (by simp; omega) (w4.heap.size + 1) (by simp) ?_
            intro gg cp w5 hown5 hgrow5 hat hlt'
            have F0' := HT4.out.ffr hgrow5
            have C0' := HT4.out.fce hgrow5
            refine hK.out _ _ trivial (fun hHeld => ?_)
            clear hK K
            refine wpAnyH_take (i := 7) (oi := ⟨some 30, _, _, _, _, none⟩) (v := .pointer (some ⟨V, 0, none⟩)) rfl (by kernel_rfl) (by kernel_rfl) (by kernel_rfl) (fun _ _ _ h => h) (Or.inl ⟨by rfl, fun w' hSw => by clear hSw; go_simp⟩) hHeld ?_
            simp only [Act.put, List.setIfInBounds_toArray, List.set_cons_zero, List.set_cons_succ]
            refine wpAnyH_ready (rs := [8]) (by kernel_rfl) (by simp) ?_
            refine AllReadyH.cons (o := ⟨none, _, _, _, _, none⟩) rfl (fun K hK => ?_) AllReadyH.nil
            go_simp
            refine hK.out _ _ trivial (fun hHeld => ?_)
            clear hK K
            refine wpAnyH_done (by kernel_rfl) ?_ _
            refine NoPanic.normal ?_
            clear hHeld
            go_wp2_with fail
            exact ⟨⟨k, _, xs ++ [r4], by go_num, by simp; omega, hide ((HT4.out.add hcw HOLD.out hgrow5 hown5).le (by simp; omega))⟩, by simp only [intOf]; omega⟩
          · go_simp
            refine (among_any (HT3.out.cur) (by omega) (by omega) (by omega) hbl hbc (seven14 wr)).mono ?_
            rintro e w4 ⟨r4, rfl, hc4, hk4⟩
            have HT4 := hide (HT3.out.step hcw hk4 hc4)
            have c4 := HT4.out.c1
            have hz4 := HT4.out.size
            have ca4 : ∀ o : Obj, (w4.alloc o).cell? ⟨V, 0, none⟩ = some v := fun o => ((below_new w4 o).cell (p := ⟨V, 0, none⟩) (show V < w4.heap.size by omega)).trans c4
            clear hc4 hk4
            refine hK.out _ _ trivial (fun hHeld => ?_)
            clear hK K
            refine wpAnyH_ready (rs := [1, 5]) (by kernel_rfl) (by simp) ?_
            refine AllReadyH.cons (o := ⟨some 24, _, _, _, _, none⟩) rfl (fun K hK => ?_) (AllReadyH.cons (o := ⟨some 28, _, _, _, _, none⟩) rfl (fun K hK => ?_) AllReadyH.nil)
            · go_simp
              refine hK.out _ _ trivial (fun hHeld => ?_)
              clear hK K
              refine wpAnyH_ready (rs := [5]) (by kernel_rfl) (by simp) ?_
              refine AllReadyH.cons (o := ⟨some 28, _, _, _, _, none⟩) rfl (fun K hK => ?_) AllReadyH.nil
              go_simp
              refine hK.out _ _ trivial (fun hHeld => ?_)
              clear hK K
              refine wpAnyH_ready (rs := [6]) (by kernel_rfl) (by simp) ?_
              refine AllReadyH.cons (o := ⟨some 29, _, _, _, _, none⟩) rfl (fun K hK => ?_) AllReadyH.nil
              refine step_append_lies _ (by rfl) _ _ _ (by rfl) (V + 1) 3 i0 _ 1 8 Try.underlying23 hi hz0 hz1 hz2 rfl (by omega) v xs.length (ints xs) (by rfl) (HT4.out.own.alloc _) ⟨w4.heap.size, 0, none⟩ 1 1 (ints [r4]) (by rfl) (by rfl) (World.news_of_block (cs := #[.int .i64 r4]) (t := 3) (fr := (0, 0)) (heap_alloc_new w4 _)) (c_ints _) (by omega) (by unfold maxLen; omega) (by omega) (by simp; omega) (w4.heap.size + 1) (by simp) ?_
              intro gg cp w5 hown5 hgrow5 hat hlt'
              have F0' := HT4.out.ffr hgrow5
              have C0' := HT4.out.fce hgrow5
              refine hK.out _ _ trivial (fun hHeld => ?_)
              clear hK K
              refine wpAnyH_take (i := 7) (oi := ⟨some 30, _, _, _, _, none⟩) (v := .pointer (some ⟨V, 0, none⟩)) rfl (by kernel_rfl) (by kernel_rfl) (by kernel_rfl) (fun _ _ _ h => h) (Or.inl ⟨by rfl, fun w' hSw => by clear hSw; go_simp⟩) hHeld ?_
              simp only [Act.put, List.setIfInBounds_toArray, List.set_cons_zero, List.set_cons_succ]
              refine wpAnyH_ready (rs := [8]) (by kernel_rfl) (by simp) ?_
              refine AllReadyH.cons (o := ⟨none, _, _, _, _, none⟩) rfl (fun K hK => ?_) AllReadyH.nil
              go_simp
              refine hK.out _ _ trivial (fun hHeld => ?_)
              clear hK K
              refine wpAnyH_done (by kernel_rfl) ?_ _
              refine NoPanic.normal ?_
              clear hHeld
              go_wp2_with fail
              exact ⟨⟨k, _, xs ++ [r4], by go_num, by simp; omega, hide ((HT4.out.add hcw HOLD.out hgrow5 hown5).le (by simp; omega))⟩, by simp only [intOf]; omega⟩
            · go_simp
              refine hK.out _ _ trivial (fun hHeld => ?_)
              clear hK K
              refine wpAnyH_ready (rs := [1]) (by kernel_rfl) (by simp) ?_
              refine AllReadyH.cons (o := ⟨some 24, _, _, _, _, none⟩) rfl (fun K hK => ?_) AllReadyH.nil
              go_simp
              refine hK.out _ _ trivial (fun hHeld => ?_)
              clear hK K
              refine wpAnyH_ready (rs := [6]) (by kernel_rfl) (by simp) ?_
              refine AllReadyH.cons (o := ⟨some 29, _, _, _, _, none⟩) rfl (fun K hK => ?_) AllReadyH.nil
              refine step_append_lies _ (by rfl) _ _ _ (by rfl) (V + 1) 3 i0 _ 1 8 Try.underlying23 hi hz0 hz1 hz2 rfl (by omega) v xs.length (ints xs) (by rfl) (HT4.out.own.alloc _) ⟨w4.heap.size, 0, none⟩ 1 1 (ints [r4]) (by rfl) (by rfl) (World.news_of_block (cs := #[.int .i64 r4]) (t := 3) (fr := (0, 0)) (heap_alloc_new w4 _)) (c_ints _) (by omega) (by unfold maxLen; omega) (by omega) (by simp; omega) (w4.heap.size + 1) (by simp) ?_
              intro gg cp w5 hown5 hgrow5 hat hlt'
              have F0' := HT4.out.ffr hgrow5
              have C0' := HT4.out.fce hgrow5
              refine hK.out _ _ trivial (fun hHeld => ?_)
              clear hK K
              refine wpAnyH_take (i := 7) (oi := ⟨some 30, _, _, _, _, none⟩) (v := .pointer (some ⟨V, 0, none⟩)) rfl (by kernel_rfl) (by kernel_rfl) (by kernel_rfl) (fun _ _ _ h => h) (Or.inl ⟨by rfl, fun w' hSw => by clear hSw; go_simp⟩) hHeld ?_
              simp only [Act.put, List.setIfInBounds_toArray, List.set_cons_zero, List.set_cons_succ]
              refine wpAnyH_ready (rs := [8]) (by kernel_rfl) (by simp) ?_
              refine AllReadyH.cons (o := ⟨none, _, _, _, _, none⟩) rfl (fun K hK => ?_) AllReadyH.nil
              go_simp
              refine hK.out _ _ trivial (fun hHeld => ?_)
              clear hK K
              refine wpAnyH_done (by kernel_rfl) ?_ _
              refine NoPanic.normal ?_
              clear hHeld
              go_wp2_with fail
              exact ⟨⟨k, _, xs ++ [r4], by go_num, by simp; omega, hide ((HT4.out.add hcw HOLD.out hgrow5 hown5).le (by simp; omega))⟩, by simp only [intOf]; omega⟩
      | zero =>
        obtain ⟨av, cv, ev⟩ := own_form HT.out.own
        subst ev
        go_wp2_with fail
        refine (one_any 30 (by omega) HT.out.cur (by omega)).mono ?_
        rintro e w6 ⟨r6, rfl, hc6, hk6⟩
        have HT6 := hide (HT.out.step hcw hk6 hc6)
        clear hc6 hk6
        have hxl : xs.length ≤ 11 := by omega
        cases r6
        · have x0 := HT6.out.c1
          have x1 := HT6.out.c2
          have x2 := HT6.out.c3
          have y0 := HT6.out.r0
          have y1 := HT6.out.r1
          have y2 := HT6.out.r2
          have yf0 := HT6.out.rf 0
          have yf1 := HT6.out.rf 1
          have yf2 := HT6.out.rf 2
          have HF := hide (ti_end HT6.out hcw HOLD.out)
          go_wp2_with fail
          refine bodyPost_ret (v := .agg #[.slice av xs.length cv, .int .i64 S, .int .i64 K]) ?_ ?_ ?_
          · simp [results, Try.results25, go_sem, *]
          · rfl
          · exact ⟨_, xs, S, K, rfl, by omega, HF.out.1, HF.out.2.1.le (by omega), HF.out.2.2⟩
        · go_wp2_with fail
          refine (among_any (HT6.out.cur.below (below_alloc w6 _)) (by omega) (by omega) (by omega) (by simp) (by have := HT6.out.cur.1; omega) (three14 w6 10 11 (-1))).mono ?_
          rintro e w7 ⟨r7, rfl, hc7, hk7⟩
          have HT7 := hide ((HT6.out.below (below_alloc w6 _)).step hcw hk7 hc7)
          have x2 := HT7.out.c3
          have xf := HT7.out.f1 2
          obtain ⟨w8, hw8⟩ : ∃ W, W = w7.setCell ⟨V, 2, none⟩ (.int .i64 r7) := ⟨_, rfl⟩
          have HT8 : Hid (TI w w8 c len cap (N + 16 + 2 * xs.length + 2 + 2) V a (.slice av xs.length cv) xs S r7) := hide (by rw [hw8]; exact HT7.out.setK hcw HOLD.out)
          have HW8 := hide hw8.symm
          clear hc7 hk7 hw8
          go_upto_region 10 with fail
          rw [HW8.out]
          clear HW8 x2 xf
          have x0 := HT8.out.c1
          have x1 := HT8.out.c2
          have x2 := HT8.out.c3
          have y0 := HT8.out.r0
          have y1 := HT8.out.r1
          have y2 := HT8.out.r2
          have yf0 := HT8.out.rf 0
          have yf1 := HT8.out.rf 1
          have yf2 := HT8.out.rf 2
          have HF := hide (ti_end HT8.out hcw HOLD.out)
          go_wp2_with fail
          refine bodyPost_ret (v := .agg #[.slice av xs.length cv, .int .i64 S, .int .i64 r7]) ?_ ?_ ?_
          · simp [results, Try.results25, go_sem, *]
          · rfl
          · exact ⟨_, xs, S, r7, rfl, by omega, HF.out.1, HF.out.2.1.le (by omega), HF.out.2.2⟩
end Go.Proofs.Ytebohpgdhbammaa
namespace Go.Proofs.Ytebohpgdhbammaa
open Go.RowKit

theorem AV.grownQ {w w' : World} {lo hi n : Nat} {v : Value} {xs : List Int} {q : Option Nat} (h : AV w lo hi v n xs) (hg : w.grownBy w' q) (hq : ∀ b, q = some b → hi ≤ b ∨ b < lo) : AV w' lo hi v n xs :=
  ⟨own_keep h.1 fun g hv hl => hg.block g hl fun e => by have h1 := h.1.lt g hv; have h2 := h.2.1 g hv; have := hq g e.symm; omega, h.2.1, Nat.le_trans h.2.2 hg.size⟩
theorem AV.at_ {w : World} {lo hi n : Nat} {v : Value} {xs : List Int} (h : AV w lo hi v n xs) : ∀ b, v.ownBlock = some b → lo ≤ b ∧ b < hi := fun b e => ⟨(h.1.lt b e).1, h.2.1 b e⟩
theorem AV.row {w : World} {lo hi n : Nat} {v : Value} {xs : List Int} (hx : xs.length = n) (h : AV w lo hi v n xs) : ∃ a c, v = .slice a n c ∧ ARow w a xs := own_row hx h.1
theorem grown_under10 {w w' : World} {q : Option Nat} {k : Nat} (hg : w.grownBy w' q) (hq : ∀ b, q = some b → k ≤ b) (hs : k ≤ w.heap.size) : Below k w w' :=
  ⟨hg.os, hg.tape, hg.output, hg.size, fun b hb => hg.block b (by omega) fun e => by have := hq b e.symm; omega⟩
theorem av_at {w : World} {lo hi n b c : Nat} {xs : List Int} (hx : xs.length = n) (h : AV w lo hi (.slice (some ⟨b, 0, none⟩) n c) n xs) : ARow w (some ⟨b, 0, none⟩) xs := arow_owns hx.symm h.1
end Go.Proofs.Ytebohpgdhbammaa
namespace Go.Proofs.Ytebohpgdhbammaa
namespace Lo
open Lt
def leftL (nd lots : List Int) : List Int := tbl lots.length fun i => left (fn nd) (fn lots) (i + 1)
theorem leftL_len (nd lots : List Int) : (leftL nd lots).length = lots.length := tbl_len _ _
theorem leftL_at {nd lots : List Int} {i : Nat} (h : i < lots.length) : (leftL nd lots).getD i 0 = left (fn nd) (fn lots) (i + 1) := tbl_get _ h
def leftT (nd lots : List Int) (k : Nat) : List Int := tbl lots.length fun i => if i < k then left (fn nd) (fn lots) (i + 1) else 0
theorem leftT_zero (nd lots : List Int) : leftT nd lots 0 = List.replicate lots.length 0 := by
  rw [← tbl_zero]; exact tbl_eq fun i _ => by simp
theorem leftT_all (nd lots : List Int) : leftT nd lots lots.length = leftL nd lots := tbl_eq fun i hi => by simp [hi]
theorem leftT_set {nd lots : List Int} {k : Nat} : (leftT nd lots k).set k (left (fn nd) (fn lots) (k + 1)) = leftT nd lots (k + 1) := tbl_set (by simp) fun j _ hj => by
  by_cases e : j < k
  · simp [e, show j < k + 1 by omega]
  · simp [e, show ¬ j < k + 1 by omega]
theorem leftT_at {nd lots : List Int} {k : Nat} (hk : k < lots.length) : (leftT nd lots k).getD k 0 = 0 := by rw [leftT, tbl_get _ hk]; simp
theorem left_bds {nd lots : List Int} {n : Nat} (h1 : Pf.allB nd 0 20 = true) (h2 : Pf.allB lots 0 200 = true) (e1 : nd.length = n) (e2 : lots.length = n) {j : Nat} (hj : j ≤ n) : -20 * (j : Int) ≤ left (fn nd) (fn lots) j ∧ left (fn nd) (fn lots) j ≤ 200 * (j : Int) :=
  left_bd j (fun i hi => Pf.inB_yes (Pf.allB_get h1 (by omega))) fun i hi => Pf.inB_yes (Pf.allB_get h2 (by omega))
/-- All of it is nothing or more just if the least is. -/
theorem min_en {nd lots : List Int} {n : Nat} (e2 : lots.length = n) (h1 : 1 ≤ n) : decide (0 ≤ minTo (fn (leftL nd lots)) (n - 1)) = enB nd lots := by
  cases e : enB nd lots
  · rw [decide_eq_false_iff_not]
    intro h
    have : enB nd lots = true := en_of fun i hi => by
      have := minTo_le (fn (leftL nd lots)) (n - 1) i (by omega)
      rw [show fn (leftL nd lots) i = _ from leftL_at hi] at this
      omega
    rw [e] at this; cases this
  · rw [decide_eq_true_iff]
    obtain ⟨d, hd, he⟩ := minTo_is (fn (leftL nd lots)) (n - 1)
    rw [he, show fn (leftL nd lots) d = _ from leftL_at (by omega)]
    exact en_at e (by omega)
end Lo
open Go.RowKit

theorem least14 (r : List Int) (k : Nat) (hk : 1 ≤ k) : min (Lt.minTo (Lo.fn r) (k - 1)) (r.getD k 0) = Lt.minTo (Lo.fn r) (k + 1 - 1) := by
  obtain ⟨m, rfl⟩ : ∃ m, k = m + 1 := ⟨k - 1, by omega⟩
  simp only [Nat.add_sub_cancel]
  rw [Lt.minTo]
  show min (Lt.minTo (Lo.fn r) m) (Lo.fn r (m + 1)) = _
  split <;> omega
set_option maxRecDepth 100000 in
set_option maxHeartbeats 1000000 in
theorem min14 {a : Option Addr} {n c : Nat} {r : List Int} {w : World} (HN : Hid (r.length = n)) (h1 : 1 ≤ n) (h10 : n ≤ 10) (HA : Hid (ARow w a r)) :
    Calls Try.prog 52 #[.slice a n c] w fun e w' => e = .returned (.int .i64 (Lt.minTo (Lo.fn r) (n - 1))) ∧ w' = w := by
  obtain ⟨b0, o0, rfl, r0⟩ := HA.out.at (i := 0) (by have := HN.out; omega)
  have HS := hide (least14 r)
  have i0 : ¬ (n : Int) < 1 := by omega
  have i1 : (0 : Int) < (n : Int) := by omega
  rw [Nat.add_zero] at r0
  have HE : Hid (Lt.minTo (Lo.fn r) (1 - 1) = r.getD 0 0) := hide rfl
  go_enter Try.func52, Try.ntmps52
  go_wp2_with fail
  go_loop [3, 4] (fun s3 s => ∃ (k : Nat) (x : Int), s = .int .i64 k ∧ s3 = .int .i64 x ∧ 1 ≤ k ∧ k ≤ n ∧ Hid (x = Lt.minTo (Lo.fn r) (k - 1))) (fun _ s => n - (intOf s).toNat)
  case atStart => exact ⟨1, _, rfl, rfl, Nat.le_refl _, h1, hide HE.out.symm⟩
  case round =>
    obtain ⟨k, x, rfl, rfl, k1, hk, HX⟩ := hrel
    by_cases hlt : k < n
    · obtain ⟨b, off, e0, r1⟩ := HA.out.at (i := k) (by rw [HN.out]; exact hlt)
      cases e0
      have j0 : (0 : Int) ≤ (k : Int) := by omega
      have j1 : (k : Int) < (n : Int) := by omega
      have HX1 : Hid (min x (r.getD k 0) = Lt.minTo (Lo.fn r) (k + 1 - 1)) := hide (by rw [HX.out]; exact HS.out k k1)
      generalize r.getD k 0 = y at *
      go_wp2_with fail
      go_round
      case rel => exact ⟨k + 1, min x y, by go_num, by go_num, by omega, by omega, HX1⟩
      case measure => simp only [intOf]; omega
    · have hke : k = n := by omega
      subst hke
      go_wp2_with fail
      go_ret
      exact ⟨ret_int HX.out, rfl⟩
set_option maxRecDepth 100000 in
set_option maxHeartbeats 2000000 in
theorem la_own {a a' : Option Addr} {n c c' : Nat} {nd ls : List Int} {w : World} (HN : Hid (nd.length = n)) (HL : Hid (ls.length = n)) (hn : n ≤ 10) (HA : Hid (ARow w a nd)) (HA' : Hid (ARow w a' ls)) (hb1 : Pf.allB nd 0 20 = true) (hb2 : Pf.allB ls 0 200 = true) :
    Calls Try.prog 45 #[.slice a n c, .slice a' n c'] w fun e w' => e = .returned (.slice (some ⟨w.heap.size, 0, none⟩) n n) ∧ Below w.heap.size w w' ∧ w.heap.size < w'.heap.size ∧ w'.ownsRow w.heap.size 3 1 (.slice (some ⟨w.heap.size, 0, none⟩) n n) n (ints (Lo.leftL nd ls)) := by
  have hmk := makeI_run n (by omega)
  have HD := hide fun (k : Nat) (hk : k ≤ n) => Lo.left_bds hb1 hb2 HN.out HL.out hk
  have HB1 := hide fun (k : Nat) (hk : k < n) => Pf.inB_yes (Pf.allB_get hb1 (show k < nd.length by rw [HN.out]; exact hk))
  have HB2 := hide fun (k : Nat) (hk : k < n) => Pf.inB_yes (Pf.allB_get hb2 (show k < ls.length by rw [HL.out]; exact hk))
  have HM := hide (made_own w n (by omega))
  clear hb1 hb2
  go_enter Try.func45, Try.ntmps45
  go_wp2_with fail
  go_loopw [6, 7, 8, 14] (fun s6 _ _ s wr => ∃ (k : Nat) (x : Int), s6 = .int .i64 x ∧ s = .int .i64 k ∧ k ≤ n ∧ Hid (x = Lt.left (Lo.fn nd) (Lo.fn ls) k) ∧ Hid (wr.ownsRow w.heap.size 3 1 (.slice (some ⟨w.heap.size, 0, none⟩) n n) n (ints (Lo.leftT nd ls k))) ∧ Hid (Below w.heap.size w wr) ∧ w.heap.size < wr.heap.size) (fun _ _ _ s _ => n - (intOf s).toNat)
  case atStart => exact ⟨0, 0, rfl, rfl, Nat.zero_le _, hide rfl, hide (by rw [Lo.leftT_zero, HL.out]; exact HM.out), hide (below_new _ _), by simp⟩
  case round =>
    clear HM
    obtain ⟨k, x, rfl, rfl, hk, HX, HO, HB, hz⟩ := hrel
    by_cases hlt : k < n
    · obtain ⟨b1, o1, rfl, r1⟩ := (HA.out.below HB.out).at (i := k) (by rw [HN.out]; exact hlt)
      obtain ⟨b2, o2, rfl, r2⟩ := (HA'.out.below HB.out).at (i := k) (by rw [HL.out]; exact hlt)
      have i0 : (0 : Int) ≤ (k : Int) := by omega
      have i1 : (k : Int) < (n : Int) := by omega
      obtain ⟨p0, p1⟩ := HB1.out k hlt
      obtain ⟨p2, p3⟩ := HB2.out k hlt
      obtain ⟨d0, d1⟩ := HD.out k hk
      have HE : Hid (x + (ls.getD k 0 - nd.getD k 0) = Lt.left (Lo.fn nd) (Lo.fn ls) (k + 1)) := hide (by rw [HX.out, Lo.left_succ])
      have HSET := hide (Lo.leftT_set (nd := nd) (lots := ls) (k := k))
      rw [← HE.out] at HSET
      rw [← HX.out] at d0 d1
      have x0 : -200 ≤ x := by omega
      have x1 : x ≤ 2000 := by omega
      generalize nd.getD k 0 = p at *
      generalize ls.getD k 0 = q at *
      have c0 : wr.cell? ⟨w.heap.size, k, none⟩ = some (.int .i64 0) := by rw [HO.out.cellAt k (by omega), ints_get _ k (by rw [Lo.leftT, Lo.tbl_len, HL.out]; exact hlt), Lo.leftT_at (by rw [HL.out]; exact hlt)]
      have f0 := HO.out.frozenAt k
      obtain ⟨st1, st2⟩ := HO.out.stored k (.int .i64 (x + (q - p)))
      rw [ints_set, HSET.out] at st1
      have HST := hide st1
      have HB3 := hide (HB.out.setCell (p := ⟨w.heap.size, k, none⟩) (Nat.le_refl _) (.int .i64 (x + (q - p))))
      clear hmk st1 st2 d0 d1 HO
      go_wp2_with fail
      exact ⟨⟨k + 1, x + (q - p), by go_num, by go_num, by omega, HE, HST, HB3, by simpa using hz⟩, by simp only [intOf]; omega⟩
    · have hke : k = n := by omega
      subst hke
      have HE := hide (show wr.ownsRow w.heap.size 3 1 (.slice (some ⟨w.heap.size, 0, none⟩) k k) k (ints (Lo.leftL nd ls)) by rw [← Lo.leftT_all, HL.out]; exact HO.out)
      clear hmk
      go_wp2_with fail
      go_ret
      exact ⟨rfl, HB.out, hz, HE.out⟩
theorem la_av {a a' : Option Addr} {n c c' : Nat} {nd ls : List Int} {w : World} (HN : Hid (nd.length = n)) (HL : Hid (ls.length = n)) (hn : n ≤ 10) (HA : Hid (ARow w a nd)) (HA' : Hid (ARow w a' ls)) (hb1 : Pf.allB nd 0 20 = true) (hb2 : Pf.allB ls 0 200 = true) :
    Calls Try.prog 45 #[.slice a n c, .slice a' n c'] w fun e w' => ∃ b, e = .returned (.slice (some ⟨b, 0, none⟩) n n) ∧ Below w.heap.size w w' ∧ AV w' w.heap.size w'.heap.size (.slice (some ⟨b, 0, none⟩) n n) n (Lo.leftL nd ls) :=
  (la_own HN HL hn HA HA' hb1 hb2).mono fun _ _ h => ⟨_, h.1, h.2.1, AV.new h.2.2.2⟩
set_option maxRecDepth 100000 in
set_option maxHeartbeats 4000000 in
theorem ae_any {a a' : Option Addr} {n c m c' : Nat} {xs ls : List Int} {S K : Int} {w : World} (HN : Hid (xs.length = n)) (HM : Hid (ls.length = m)) (HA : Hid (ARow w a xs)) (HA' : Hid (ARow w a' ls)) :
    Calls Try.prog 29 #[.agg #[.slice a n c, .int .i64 S, .int .i64 K], .slice a' m c'] w fun e w' => e = .returned (.bool (Lo.okB xs S K ls)) ∧ Below w.heap.size w w' := by
  have hB0 := below_new w (.cells #[.slice a n c, .int .i64 S, .int .i64 K] 25)
  have pb0 := TBox.new w (.slice a n c) (.int .i64 S) (.int .i64 K) 25
  obtain ⟨w0, hw0⟩ : ∃ W, W = w.alloc (.cells #[.slice a n c, .int .i64 S, .int .i64 K] 25) := ⟨_, rfl⟩
  rw [← hw0] at hB0 pb0
  have HW0 := hide hw0.symm
  obtain ⟨B, hB⟩ : ∃ b, b = w.heap.size := ⟨_, rfl⟩
  rw [← hB] at pb0
  have HBe := hide hB.symm
  have PB := hide pb0
  have R0 := hide (HA.out.below hB0)
  have R1 := hide (HA'.out.below hB0)
  have HB0 := hide hB0
  clear hw0 hB pb0 hB0 HA HA'
  cases hg : Lo.goodB xs S K
  · have HG := hide hg
    have HN0 : Hid (Lo.okB xs S K ls = false) := hide (by simp [Lo.okB, Lo.lotsB, hg])
    obtain ⟨p0, p1, p2, _⟩ := PB.out
    clear hg
    go_enter Try.func29, Try.ntmps29
    go_upto_region 1 with fail
    rw [HW0.out, HBe.out]
    clear HW0 HBe
    go_wp2_with fail
    refine (gt_eq HN R0 HG).mono ?_
    rintro e w1 ⟨rfl, hb1⟩
    have HB1 := hide (HB0.out.trans (hb1.mono HB0.out.size))
    clear hb1
    go_wp2_with fail
    go_ret
    exact ⟨ret_bool HN0.out.symm, HB1.out⟩
  · have HG := hide hg
    have g := Lo.good_of hg
    obtain ⟨n1, n10, hall, _⟩ := g
    rw [HN.out] at n1 n10
    by_cases hmn : m = n
    · subst hmn
      have e1 : ((m : Int) == (m : Int)) = true := by simp
      cases h2 : Pf.allB ls 0 200
      · have H2 := hide h2
        have HN0 : Hid (Lo.okB xs S K ls = false) := hide (by simp [Lo.okB, Lo.lotsB, h2])
        obtain ⟨p0, p1, p2, _⟩ := PB.out
        clear hg h2 hall
        go_enter Try.func29, Try.ntmps29
        go_upto_region 1 with fail
        rw [HW0.out, HBe.out]
        clear HW0 HBe
        go_wp2_with fail
        refine (gt_eq HN R0 HG).mono ?_
        rintro e w1 ⟨rfl, hb1⟩
        have HB1 := hide (HB0.out.trans (hb1.mono HB0.out.size))
        have R1x := hide (R1.out.below hb1)
        obtain ⟨p0, p1, p2, _⟩ := PB.out.below hb1
        clear hb1
        go_wp2_with fail
        refine (areb_eqn R1x HM (by omega) H2).mono ?_
        rintro e w2 ⟨rfl, hw2⟩
        obtain rfl := hw2.symm
        go_wp2_with fail
        go_ret
        exact ⟨ret_bool HN0.out.symm, HB1.out⟩
      · have H2 := hide h2
        have HMI := hide (Lo.min_en (nd := xs) (lots := ls) HM.out n1)
        have HN0 : Hid (Lo.okB xs S K ls = Lo.enB xs ls) := hide (by simp [Lo.okB, Lo.lotsB, h2, hg, HN.out, HM.out])
        have HLL : Hid ((Lo.leftL xs ls).length = m) := hide (by rw [Lo.leftL_len, HM.out])
        obtain ⟨p0, p1, p2, _⟩ := PB.out
        have HLA := hide fun (W : World) (r0 : Hid (ARow W a xs)) (r1 : Hid (ARow W a' ls)) => la_av (w := W) (c := c) (c' := c') HN HM n10 r0 r1 hall h2
        clear hg h2 hall
        go_enter Try.func29, Try.ntmps29
        go_upto_region 1 with fail
        rw [HW0.out, HBe.out]
        clear HW0 HBe
        go_wp2_with fail
        refine (gt_eq HN R0 HG).mono ?_
        rintro e w1 ⟨rfl, hb1⟩
        have HB1 := hide (HB0.out.trans (hb1.mono HB0.out.size))
        have R0x := hide (R0.out.below hb1)
        have R1x := hide (R1.out.below hb1)
        obtain ⟨p0, p1, p2, _⟩ := PB.out.below hb1
        clear hb1
        go_wp2_with fail
        refine (areb_eqn R1x HM (by omega) H2).mono ?_
        rintro e w2 ⟨rfl, hw2⟩
        obtain rfl := hw2.symm
        go_wp2_with fail
        refine (HLA.out _ R0x R1x).mono ?_
        rintro e w3 ⟨b3, rfl, hb3, o3⟩
        have HB3 := hide (HB1.out.trans (hb3.mono HB1.out.size))
        have R3 := hide (arow_owns HLL.out.symm o3.1)
        clear hb3 o3
        go_wp2_with fail
        refine (min14 HLL n1 n10 R3).mono ?_
        rintro e w4 ⟨rfl, hw4⟩
        obtain rfl := hw4.symm
        generalize Lt.minTo (Lo.fn (Lo.leftL xs ls)) (m - 1) = M at *
        have HT : Hid (Lo.okB xs S K ls = decide (0 ≤ M)) := hide (by rw [HN0.out, ← HMI.out])
        go_wp2_with fail
        go_ret
        exact ⟨ret_bool HT.out.symm, HB3.out⟩
    · have e1 : ((m : Int) == (n : Int)) = false := by simp; omega
      have HN0 : Hid (Lo.okB xs S K ls = false) := hide (by simp [Lo.okB, Lo.lotsB, HN.out, HM.out, hmn])
      obtain ⟨p0, p1, p2, _⟩ := PB.out
      clear hg hall
      go_enter Try.func29, Try.ntmps29
      go_upto_region 1 with fail
      rw [HW0.out, HBe.out]
      clear HW0 HBe
      go_wp2_with fail
      refine (gt_eq HN R0 HG).mono ?_
      rintro e w1 ⟨rfl, hb1⟩
      have HB1 := hide (HB0.out.trans (hb1.mono HB0.out.size))
      obtain ⟨p0, p1, p2, _⟩ := PB.out.below hb1
      clear hb1
      go_wp2_with fail
      go_ret
      exact ⟨ret_bool HN0.out.symm, HB1.out⟩
end Go.Proofs.Ytebohpgdhbammaa
namespace Go.Proofs.Ytebohpgdhbammaa
namespace Lo
open Lt
theorem mul_bd {K l : Int} (k0 : 0 ≤ K) (k1 : K ≤ 10) (l0 : -200 ≤ l) (l1 : l ≤ 2000) : -2000 ≤ K * l ∧ K * l ≤ 20000 := by
  have h1 := Int.mul_le_mul_of_nonneg_left l1 k0
  have h2 := Int.mul_le_mul_of_nonneg_left l0 k0
  omega
theorem cst_bds {S K : Int} {nd lots : List Int} {n : Nat} (s0 : 0 ≤ S) (s1 : S ≤ 100) (k0 : 0 ≤ K) (k1 : K ≤ 10) (hn : n ≤ 10) (h1 : Pf.allB nd 0 20 = true) (h2 : Pf.allB lots 0 200 = true) (e1 : nd.length = n) (e2 : lots.length = n) {j : Nat} (hj : j ≤ n) : -2000 * (j : Int) ≤ cst S K (fn nd) (fn lots) j ∧ cst S K (fn nd) (fn lots) j ≤ 20100 * (j : Int) :=
  sum_bd j fun i hi => by
    have h := left_bds h1 h2 e1 e2 (j := i + 1) (by omega)
    have hm := mul_bd k0 k1 (l := left (fn nd) (fn lots) (i + 1)) (by omega) (by omega)
    show -2000 ≤ (if 0 < fn lots i then S else 0) + K * left (fn nd) (fn lots) (i + 1) ∧ (if 0 < fn lots i then S else 0) + K * left (fn nd) (fn lots) (i + 1) ≤ 20100
    split <;> omega
end Lo
open Go.RowKit

set_option maxRecDepth 100000 in
set_option maxHeartbeats 1000000 in
theorem sf_any {a : Option Addr} {n c : Nat} {S K x : Int} {w : World} (hx : 0 ≤ x) :
    Calls Try.prog 53 #[.agg #[.slice a n c, .int .i64 S, .int .i64 K], .int .i64 x] w fun e w' => e = .returned (.int .i64 (if 0 < x then S else 0)) ∧ Below w.heap.size w w' := by
  have HB := hide (below_box w (.cells #[.slice a n c, .int .i64 S, .int .i64 K] 25))
  obtain ⟨Z, hZ⟩ : ∃ Z : Int, Z = if 0 < x then S else 0 := ⟨_, rfl⟩
  rw [← hZ]
  by_cases h : x = 0
  · subst h
    obtain rfl : Z = 0 := by rw [hZ]; rfl
    clear hZ
    go_enter Try.func53, Try.ntmps53
    go_wp2_with fail
    go_ret
    exact ⟨rfl, HB.out⟩
  · have h1 : (x == (0 : Int)) = false := by simpa using h
    have h2 : Hid (Z = S) := hide (by rw [hZ, if_pos (by omega)])
    clear hx hZ
    go_enter Try.func53, Try.ntmps53
    go_wp2_with fail
    go_ret
    exact ⟨ret_int h2.out.symm, HB.out⟩
set_option maxRecDepth 100000 in
set_option maxHeartbeats 1000000 in
theorem kf_any {a : Option Addr} {n c : Nat} {S K x : Int} {w : World} (h0 : -2000 ≤ K * x) (h1 : K * x ≤ 20000) :
    Calls Try.prog 54 #[.agg #[.slice a n c, .int .i64 S, .int .i64 K], .int .i64 x] w fun e w' => e = .returned (.int .i64 (K * x)) ∧ Below w.heap.size w w' := by
  have HB := hide (below_box w (.cells #[.slice a n c, .int .i64 S, .int .i64 K] 25))
  go_enter Try.func54, Try.ntmps54
  go_wp2_with fail
  go_ret
  exact ⟨rfl, HB.out⟩
set_option maxRecDepth 100000 in
set_option maxHeartbeats 1000000 in
theorem co14_any {a : Option Addr} {n c : Nat} {S K : Int} {w : World} :
    Calls Try.prog 30 #[.agg #[.slice a n c, .int .i64 S, .int .i64 K]] w fun e w' => e = .returned (.agg #[.func (.func 53) #[.agg #[.slice a n c, .int .i64 S, .int .i64 K]] #[], .func (.func 54) #[.agg #[.slice a n c, .int .i64 S, .int .i64 K]] #[]]) ∧ Below w.heap.size w w' := by
  have hmf : ∀ (fn : Fn) (first cap : Array Value) (w : World), (Instr.makeFunc fn first cap).run Try.prog w = .ok (.func fn first cap) w := fun _ _ _ _ => rfl
  go_enter Try.func30, Try.ntmps30
  go_wp2_with fail
  exact bodyPost_ret (v := .agg #[.func (.func 53) #[.agg #[.slice a n c, .int .i64 S, .int .i64 K]] #[], .func (.func 54) #[.agg #[.slice a n c, .int .i64 S, .int .i64 K]] #[]]) (by simp [results, Try.results30, go_sem]) rfl ⟨rfl, (below_box w _).alloc (by simp) _⟩
set_option maxRecDepth 100000 in
set_option maxHeartbeats 4000000 in
theorem ol_any {at_ a a' : Option Addr} {nt ct n c c' : Nat} {S K : Int} {nd ls : List Int} {w : World} (s0 : 0 ≤ S) (s1 : S ≤ 100) (k0 : 0 ≤ K) (k1 : K ≤ 10) (HN : Hid (nd.length = n)) (HL : Hid (ls.length = n)) (hn : n ≤ 10) (HA : Hid (ARow w a nd)) (HA' : Hid (ARow w a' ls)) (hb1 : Pf.allB nd 0 20 = true) (hb2 : Pf.allB ls 0 200 = true) :
    Calls Try.prog 31 #[.agg #[.func (.func 53) #[.agg #[.slice at_ nt ct, .int .i64 S, .int .i64 K]] #[], .func (.func 54) #[.agg #[.slice at_ nt ct, .int .i64 S, .int .i64 K]] #[]], .slice a n c, .slice a' n c'] w fun e w' => e = .returned (.int .i64 (Lt.cst S K (Lo.fn nd) (Lo.fn ls) n)) ∧ Below w.heap.size w w' := by
  obtain ⟨F1, hF1⟩ : ∃ v, v = Value.func (.func 53) #[.agg #[.slice at_ nt ct, .int .i64 S, .int .i64 K]] #[] := ⟨_, rfl⟩
  obtain ⟨F2, hF2⟩ : ∃ v, v = Value.func (.func 54) #[.agg #[.slice at_ nt ct, .int .i64 S, .int .i64 K]] #[] := ⟨_, rfl⟩
  have eg1 : ∀ args w, (callFunc 53 args).run Try.prog w = .ok (.enter 53 args) w := enters_of Try.func53 (by kernel_rfl) rfl
  have eg2 : ∀ args w, (callFunc 54 args).run Try.prog w = .ok (.enter 54 args) w := enters_of Try.func54 (by kernel_rfl) rfl
  have hB0 := below_new w (.cells #[Value.func (.func 53) #[.agg #[.slice at_ nt ct, .int .i64 S, .int .i64 K]] #[], Value.func (.func 54) #[.agg #[.slice at_ nt ct, .int .i64 S, .int .i64 K]] #[]] 51)
  have q0 : (w.alloc (.cells #[Value.func (.func 53) #[.agg #[.slice at_ nt ct, .int .i64 S, .int .i64 K]] #[], Value.func (.func 54) #[.agg #[.slice at_ nt ct, .int .i64 S, .int .i64 K]] #[]] 51)).cell? ⟨w.heap.size, 0, none⟩ = some (Value.func (.func 53) #[.agg #[.slice at_ nt ct, .int .i64 S, .int .i64 K]] #[]) := by simp
  have q1 : (w.alloc (.cells #[Value.func (.func 53) #[.agg #[.slice at_ nt ct, .int .i64 S, .int .i64 K]] #[], Value.func (.func 54) #[.agg #[.slice at_ nt ct, .int .i64 S, .int .i64 K]] #[]] 51)).cell? ⟨w.heap.size, 1, none⟩ = some (Value.func (.func 54) #[.agg #[.slice at_ nt ct, .int .i64 S, .int .i64 K]] #[]) := by simp
  have qz : w.heap.size < (w.alloc (.cells #[Value.func (.func 53) #[.agg #[.slice at_ nt ct, .int .i64 S, .int .i64 K]] #[], Value.func (.func 54) #[.agg #[.slice at_ nt ct, .int .i64 S, .int .i64 K]] #[]] 51)).heap.size := by simp
  obtain ⟨U, hU⟩ : ∃ U, U = w.alloc (.cells #[Value.func (.func 53) #[.agg #[.slice at_ nt ct, .int .i64 S, .int .i64 K]] #[], Value.func (.func 54) #[.agg #[.slice at_ nt ct, .int .i64 S, .int .i64 K]] #[]] 51) := ⟨_, rfl⟩
  rw [← hU] at hB0 q0 q1 qz
  obtain ⟨B, hB⟩ : ∃ b, b = w.heap.size := ⟨_, rfl⟩
  rw [← hB] at q0 q1 qz
  have HU := hide hU.symm
  have HBe := hide hB.symm
  have HB0 := hide hB0
  have R0 := hide (HA.out.below hB0)
  have R1 := hide (HA'.out.below hB0)
  have HC := hide fun (W : World) (h : Below U.heap.size U W) => show W.cell? ⟨B, 0, none⟩ = some (Value.func (.func 53) #[.agg #[.slice at_ nt ct, .int .i64 S, .int .i64 K]] #[]) ∧ W.cell? ⟨B, 1, none⟩ = some (Value.func (.func 54) #[.agg #[.slice at_ nt ct, .int .i64 S, .int .i64 K]] #[]) from
    ⟨(h.cell (p := ⟨B, 0, none⟩) qz).trans q0, (h.cell (p := ⟨B, 1, none⟩) qz).trans q1⟩
  have HLA := hide (la_av (w := U) (c := c) (c' := c') HN HL hn R0 R1 hb1 hb2)
  have HLL : Hid ((Lo.leftL nd ls).length = n) := hide (by rw [Lo.leftL_len, HL.out])
  have HD := hide fun (k : Nat) (hk : k ≤ n) => Lo.left_bds hb1 hb2 HN.out HL.out hk
  have HCB := hide fun (k : Nat) (hk : k ≤ n) => Lo.cst_bds s0 s1 k0 k1 hn hb1 hb2 HN.out HL.out hk
  have HP2 := hide fun (k : Nat) (hk : k < n) => Pf.inB_yes (Pf.allB_get hb2 (show k < ls.length by rw [HL.out]; exact hk))
  have HMB := hide fun (l : Int) (l0 : -200 ≤ l) (l1 : l ≤ 2000) => Lo.mul_bd k0 k1 l0 l1
  clear hb1 hb2 hB0 q0 q1 qz hB HA HA' k0 k1 hU hF1 hF2
  go_enter Try.func31, Try.ntmps31
  go_upto_region 1 with fail
  rw [HU.out, HBe.out]
  clear HU HBe
  go_wp2_with fail
  refine HLA.out.mono ?_
  rintro e w1 ⟨b1, rfl, hb1, o1⟩
  have HB1 := hide hb1
  have R2 := hide (arow_owns HLL.out.symm o1.1)
  have HS1 := hide (HB0.out.trans (hb1.mono HB0.out.size))
  clear hb1 o1 HLA
  go_wp2_with fail
  go_loopw [7, 8, 9, 14] (fun s7 _ _ s wr => ∃ (k : Nat) (x : Int), s7 = .int .i64 x ∧ s = .int .i64 k ∧ k ≤ n ∧ Hid (x = Lt.cst S K (Lo.fn nd) (Lo.fn ls) k) ∧ Hid (Below w1.heap.size w1 wr)) (fun _ _ _ s _ => n - (intOf s).toNat)
  case atStart => exact ⟨0, 0, rfl, rfl, Nat.zero_le _, hide rfl, hide (Below.refl _ _)⟩
  case round =>
    obtain ⟨k, x, rfl, rfl, hk, HX, HB⟩ := hrel
    by_cases hlt : k < n
    · obtain ⟨b2, o2, e2, hl2, rr2⟩ := (R2.out.below HB.out).resolve_left (by intro e; have := HLL.out; rw [e] at this; simp at this; omega)
      cases e2
      have r2 := rr2 k (by rw [HLL.out]; exact hlt)
      rw [Nat.zero_add] at r2
      obtain ⟨b3, o3, rfl, hl3, rr3⟩ := R1.out.resolve_left (by intro e; have := HL.out; rw [e] at this; simp at this; omega)
      have r3 : ∀ W, Below U.heap.size U W → W.cell? ⟨b3, o3 + k, none⟩ = some (.int .i64 (ls.getD k 0)) := fun W h => (h.cell (p := ⟨b3, o3 + k, none⟩) hl3).trans (rr3 k (by rw [HL.out]; exact hlt))
      obtain ⟨p0, p1⟩ := HP2.out k hlt
      obtain ⟨d0, d1⟩ := HD.out (k + 1) hlt
      obtain ⟨c0, c1⟩ := HCB.out k hk
      rw [Lo.leftL_at (by rw [HL.out]; exact hlt)] at r2
      have HE : Hid (x + ((if 0 < ls.getD k 0 then S else 0) + K * Lt.left (Lo.fn nd) (Lo.fn ls) (k + 1)) = Lt.cst S K (Lo.fn nd) (Lo.fn ls) (k + 1)) := hide (by rw [HX.out, Lo.cst_succ])
      rw [← HX.out] at c0 c1
      have hkk : (k : Int) ≤ 10 := by omega
      have x0 : -20000 ≤ x := by omega
      have x1 : x ≤ 201000 := by omega
      obtain ⟨m0, m1⟩ := HMB.out (Lt.left (Lo.fn nd) (Lo.fn ls) (k + 1)) (by omega) (by omega)
      have HSF := hide fun (W : World) => sf_any (a := at_) (n := nt) (c := ct) (S := S) (K := K) (w := W) p0
      have HKF := hide fun (W : World) => kf_any (a := at_) (n := nt) (c := ct) (S := S) (K := K) (w := W) m0 m1
      have z0 : 0 ≤ (if 0 < ls.getD k 0 then S else 0) ∧ (if 0 < ls.getD k 0 then S else 0) ≤ 100 := by split <;> omega
      generalize (if 0 < ls.getD k 0 then S else 0) = Z at *
      generalize K * Lt.left (Lo.fn nd) (Lo.fn ls) (k + 1) = M at *
      generalize Lt.left (Lo.fn nd) (Lo.fn ls) (k + 1) = L at *
      generalize ls.getD k 0 = q at *
      obtain ⟨z0, z1⟩ := z0
      have i0 : (0 : Int) ≤ (k : Int) := by omega
      have i1 : (k : Int) < (n : Int) := by omega
      have HR3 := hide r3
      have HST : Hid (∀ W1 W2, Below w1.heap.size w1 W1 → Below W1.heap.size W1 W2 → W2.cell? ⟨B, 0, none⟩ = some (Value.func (.func 53) #[.agg #[.slice at_ nt ct, .int .i64 S, .int .i64 K]] #[]) ∧ W2.cell? ⟨B, 1, none⟩ = some (Value.func (.func 54) #[.agg #[.slice at_ nt ct, .int .i64 S, .int .i64 K]] #[]) ∧ W2.cell? ⟨b3, o3 + k, none⟩ = some (.int .i64 q) ∧ Below w1.heap.size w1 W2) := hide fun W1 W2 h1 h2 => by
        have h' := h1.trans (h2.mono h1.size)
        have h := HB1.out.trans (h'.mono HB1.out.size)
        exact ⟨(HC.out _ h).1, (HC.out _ h).2, HR3.out _ h, h'⟩
      have e1 : IntKind.i64.wrap (Z + M) = Z + M := by rw [IntKind.wrap_i64]; omega
      have e2 : IntKind.i64.wrap (x + (Z + M)) = x + (Z + M) := by rw [IntKind.wrap_i64]; omega
      have hS0 := HST.out wr wr.drew HB.out (Below.refl _ _).drew
      clear r3 rr2 rr3 d0 d1 c0 c1 hkk p0 p1
      go_wp2_with fail
      go_region_held3 (fun w' => w'.cell? ⟨B, 0, none⟩ = some (Value.func (.func 53) #[.agg #[.slice at_ nt ct, .int .i64 S, .int .i64 K]] #[]) ∧ w'.cell? ⟨B, 1, none⟩ = some (Value.func (.func 54) #[.agg #[.slice at_ nt ct, .int .i64 S, .int .i64 K]] #[]) ∧ w'.cell? ⟨b3, o3 + k, none⟩ = some (.int .i64 q) ∧ Below w1.heap.size w1 w')
        (first | exact hS0 | assumption | fail)
        (first
        | (go_at_fn 53; obtain ⟨_, _, _, hbS⟩ := ‹_ ∧ _ ∧ _ ∧ _›; refine (HSF.out _).mono ?_; rintro e w3 ⟨rfl, hb3⟩; have hS3 := HST.out _ _ hbS hb3)
        | (go_at_fn 54; obtain ⟨_, _, _, hbT⟩ := ‹_ ∧ _ ∧ _ ∧ _›; refine (HKF.out _).mono ?_; rintro e w4 ⟨rfl, hb4⟩; have hS4 := HST.out _ _ hbT hb4)
        | fail)
      obtain ⟨_, _, _, hbE⟩ := ‹_ ∧ _ ∧ _ ∧ _›
      have HBE := hide hbE
      clear hbE hb3 hb4 hbS hbT hS3 hS4 hS0
      go_wp2_with fail
      go_roundw
      case rel => exact ⟨k + 1, x + (Z + M), by go_num, by go_num, by omega, HE, HBE⟩
      case measure => simp only [intOf]; omega
    · have hke : k = n := by omega
      subst hke
      have HF := hide (HS1.out.trans (HB.out.mono HS1.out.size))
      go_wp2_with fail
      go_ret
      exact ⟨ret_int HX.out, HF.out⟩
set_option maxRecDepth 100000 in
set_option maxHeartbeats 4000000 in
theorem lc_any {a a' : Option Addr} {n c m c' : Nat} {xs ls : List Int} {S K : Int} {w : World} (HN : Hid (xs.length = n)) (HM : Hid (ls.length = m)) (HA : Hid (ARow w a xs)) (HA' : Hid (ARow w a' ls)) :
    Calls Try.prog 6 #[.agg #[.slice a n c, .int .i64 S, .int .i64 K], .slice a' m c'] w fun e w' => e = .returned (.tuple #[.int .i64 (Lo.lcI xs S K ls), .bool (Lo.okB xs S K ls)]) ∧ Below w.heap.size w w' := by
  have hB0 := below_new w (.cells #[.slice a n c, .int .i64 S, .int .i64 K] 25)
  have pb0 := TBox.new w (.slice a n c) (.int .i64 S) (.int .i64 K) 25
  obtain ⟨w0, hw0⟩ : ∃ W, W = w.alloc (.cells #[.slice a n c, .int .i64 S, .int .i64 K] 25) := ⟨_, rfl⟩
  rw [← hw0] at hB0 pb0
  have HW0 := hide hw0.symm
  obtain ⟨B, hB⟩ : ∃ b, b = w.heap.size := ⟨_, rfl⟩
  rw [← hB] at pb0
  have HBe := hide hB.symm
  have PB := hide pb0
  have R0 := hide (HA.out.below hB0)
  have R1 := hide (HA'.out.below hB0)
  have HB0 := hide hB0
  have HAE := hide (ae_any (c := c) (c' := c') (S := S) (K := K) HN HM R0 R1)
  clear hw0 hB pb0 hB0 HA HA'
  cases ho : Lo.okB xs S K ls
  · have HI0 : Hid (Lo.lcI xs S K ls = 0) := hide (by simp [Lo.lcI, ho])
    rw [ho] at HAE
    obtain ⟨p0, p1, p2, _⟩ := PB.out
    clear ho
    go_enter Try.func6, Try.ntmps6
    go_upto_region 1 with fail
    rw [HW0.out, HBe.out]
    clear HW0 HBe
    go_wp2_with fail
    refine HAE.out.mono ?_
    rintro e w1 ⟨rfl, hb1⟩
    have HB1 := hide (HB0.out.trans (hb1.mono HB0.out.size))
    clear hb1
    go_wp2_with fail
    go_ret2
    exact ⟨by rw [HI0.out]; rfl, HB1.out⟩
  · have HI0 : Hid (Lo.lcI xs S K ls = Lt.cst S K (Lo.fn xs) (Lo.fn ls) n) := hide (by simp [Lo.lcI, ho, HN.out])
    rw [ho] at HAE
    obtain ⟨p0, p1, p2, _⟩ := PB.out
    have h := ho
    simp only [Lo.okB, Lo.lotsB, Bool.and_eq_true, decide_eq_true_eq] at h
    have g := Lo.good_of h.1.1
    obtain ⟨n1, n10, hall, s0, s1, k0, k1⟩ := g
    have hmn : m = n := by rw [← HM.out, ← HN.out]; exact h.1.2.1
    subst hmn
    rw [HN.out] at n1 n10
    have HOL := hide fun (W : World) (hW : Below w0.heap.size w0 W) => ol_any (at_ := a) (nt := m) (ct := c) (c := c) (c' := c') (w := W) s0 s1 k0 k1 HN HM n10 (hide (R0.out.below hW)) (hide (R1.out.below hW)) hall h.1.2.2
    have HCo := hide fun (W : World) => co14_any (a := a) (n := m) (c := c) (S := S) (K := K) (w := W)
    have HST : Hid (∀ W1 W2, Below w0.heap.size w0 W1 → Below W1.heap.size W1 W2 → W2.cell? ⟨B, 0, none⟩ = some (.slice a m c) ∧ W2.cell? ⟨B, 1, none⟩ = some (.int .i64 S) ∧ W2.cell? ⟨B, 2, none⟩ = some (.int .i64 K) ∧ Below w0.heap.size w0 W2) := hide fun W1 W2 h1 h2 => by
      have h := h1.trans (h2.mono h1.size)
      obtain ⟨x0, x1, x2, _⟩ := PB.out.below h
      exact ⟨x0, x1, x2, h⟩
    clear ho h s0 s1 k0 k1 hall
    generalize Lt.cst S K (Lo.fn xs) (Lo.fn ls) m = V at *
    go_enter Try.func6, Try.ntmps6
    go_upto_region 1 with fail
    rw [HW0.out, HBe.out]
    clear HW0 HBe
    go_wp2_with fail
    refine HAE.out.mono ?_
    rintro e w1 ⟨rfl, hb1⟩
    have hS0 := HST.out w1 w1.drew hb1 (Below.refl _ _).drew
    clear hb1 p0 p1 p2
    go_wp2_with fail
    go_region_held3 (fun w' => w'.cell? ⟨B, 0, none⟩ = some (.slice a m c) ∧ w'.cell? ⟨B, 1, none⟩ = some (.int .i64 S) ∧ w'.cell? ⟨B, 2, none⟩ = some (.int .i64 K) ∧ Below w0.heap.size w0 w')
      (first | exact hS0 | assumption | fail)
      (first
      | (go_at_call 30; obtain ⟨_, _, _, hbS⟩ := ‹_ ∧ _ ∧ _ ∧ _›; refine (HCo.out _).mono ?_; rintro e w3 ⟨rfl, hb3⟩; have hS3 := HST.out _ _ hbS hb3)
      | (go_at_call 31; obtain ⟨_, _, _, hbT⟩ := ‹_ ∧ _ ∧ _ ∧ _›; refine (HOL.out _ hbT).mono ?_; rintro e w4 ⟨rfl, hb4⟩; have hS4 := HST.out _ _ hbT hb4)
      | fail)
    obtain ⟨_, _, _, hbE⟩ := ‹_ ∧ _ ∧ _ ∧ _›
    have HBE := hide (HB0.out.trans (hbE.mono HB0.out.size))
    clear hbE hb3 hb4 hbS hbT hS3 hS4 hS0
    go_wp2_with fail
    go_ret2
    exact ⟨by rw [HI0.out]; rfl, HBE.out⟩
end Go.Proofs.Ytebohpgdhbammaa
namespace Go.Proofs.Ytebohpgdhbammaa.Od

def waysB (us ws : List Int) : Bool := decide (us.length = ws.length) && (decide (us.length ≤ 10) && (Pf.allB us 0 1000 && Pf.allB ws 0 1000))
theorem waysB_yes {us ws : List Int} (h : waysB us ws = true) : us.length = ws.length ∧ us.length ≤ 10 ∧ Pf.allB us 0 1000 = true ∧ Pf.allB ws 0 1000 = true := by
  simpa [waysB] using h
theorem waysB_ne {us ws : List Int} (h : us.length ≠ ws.length) : waysB us ws = false := by simp [waysB, h]
theorem waysB_many {us ws : List Int} (h : 10 < us.length) : waysB us ws = false := by simp [waysB, show ¬ us.length ≤ 10 by omega]

/-- The number at i is one of 0 up to n - 1, and none ahead of it is the same. -/
def okAt (xs : List Int) (n i : Nat) : Bool := Pf.inB (xs.getD i 0) 0 ((n : Int) - 1) && !(xs.take i).contains (xs.getD i 0)
def ordB (xs : List Int) (n : Nat) : Bool := decide (xs.length = n) && (List.range n).all (okAt xs n)
theorem ordB_len {xs : List Int} {n : Nat} (h : ordB xs n = true) : xs.length = n := by
  simp only [ordB, Bool.and_eq_true, decide_eq_true_eq] at h; exact h.1
theorem ordB_at {xs : List Int} {n i : Nat} (h : ordB xs n = true) (hi : i < n) : okAt xs n i = true := by
  simp only [ordB, Bool.and_eq_true, List.all_eq_true, List.mem_range] at h; exact h.2 i hi
theorem ordB_of {xs : List Int} {n : Nat} (h1 : xs.length = n) (h : ∀ i, i < n → okAt xs n i = true) : ordB xs n = true := by
  simp only [ordB, Bool.and_eq_true, decide_eq_true_eq, List.all_eq_true, List.mem_range]; exact ⟨h1, h⟩
theorem ordB_ne {xs : List Int} {n : Nat} (h : xs.length ≠ n) : ordB xs n = false := by simp [ordB, h]
theorem ordB_not {xs : List Int} {n i : Nat} (hi : i < n) (h : okAt xs n i = false) : ordB xs n = false := by
  cases e : ordB xs n
  · rfl
  · rw [ordB_at e hi] at h; cases h
theorem ordB_in {xs : List Int} {n i : Nat} (h : ordB xs n = true) (hi : i < n) : 0 ≤ xs.getD i 0 ∧ xs.getD i 0 < n := by
  have := ordB_at h hi
  simp only [okAt, Bool.and_eq_true] at this
  have := Pf.inB_yes this.1
  omega
/-- The number at i as a natural one. -/
def nth (xs : List Int) (i : Nat) : Nat := (xs.getD i 0).toNat
theorem nth_cast {xs : List Int} {n i : Nat} (h : ordB xs n = true) (hi : i < n) : xs.getD i 0 = (nth xs i : Int) := by
  have := ordB_in h hi; unfold nth; omega
theorem nth_lt {xs : List Int} {n i : Nat} (h : ordB xs n = true) (hi : i < n) : nth xs i < n := by
  have := ordB_in h hi; unfold nth; omega

/-- Whether j is among the first k. -/
def seen (xs : List Int) (k n : Nat) : List Bool := (List.range n).map fun (j : Nat) => (xs.take k).contains (j : Int)
theorem seen_len (xs : List Int) (k n : Nat) : (seen xs k n).length = n := by simp [seen]
theorem seen_zero (xs : List Int) (n : Nat) : seen xs 0 n = List.replicate n false := by
  apply List.ext_getElem
  · simp [seen]
  · intro i h1 h2; simp [seen]
theorem seen_get (xs : List Int) (k n j : Nat) (h : j < n) : (seen xs k n).getD j false = (xs.take k).contains (j : Int) := by simp [seen, h]
theorem seen_step (xs : List Int) (k n j : Nat) (hk : k < xs.length) (h : xs.getD k 0 = (j : Int)) : (seen xs k n).set j true = seen xs (k + 1) n := by
  apply List.ext_getElem
  · simp [seen]
  · intro i h1 h2
    have hi : i < n := by simpa [seen] using h2
    have e : xs[k] = (j : Int) := by rw [Pf.getD_lt xs 0 hk] at h; exact h
    simp only [seen, List.getElem_map, List.getElem_range, List.getElem_set]
    rw [List.take_add_one]
    by_cases hij : j = i
    · subst hij; simp [hk, e]
    · have : ¬ (i : Int) = (j : Int) := by omega
      simp [hij, hk, e, this]

/-- The sum of use times way over the first k. -/
def pairTo (us ws : List Int) : Nat → Int
  | 0 => 0
  | k + 1 => pairTo us ws k + us.getD k 0 * ws.getD k 0
def pair (us ws : List Int) : Int := pairTo us ws us.length
/-- What an order costs over the first k places. -/
def costTo (us ws os : List Int) : Nat → Int
  | 0 => 0
  | k + 1 => costTo us ws os k + us.getD (nth os k) 0 * ws.getD k 0
def cost (us ws os : List Int) : Int := costTo us ws os os.length
theorem term_bd {x y : Int} (hx : 0 ≤ x ∧ x ≤ 1000) (hy : 0 ≤ y ∧ y ≤ 1000) : 0 ≤ x * y ∧ x * y ≤ 1000000 := by
  refine ⟨Int.mul_nonneg hx.1 hy.1, ?_⟩
  exact Int.le_trans (Int.mul_le_mul_of_nonneg_right hx.2 hy.1) (Int.le_trans (Int.mul_le_mul_of_nonneg_left hy.2 (show (0 : Int) ≤ 1000 by omega)) (by omega))
theorem pairTo_bd {us ws : List Int} (hu : Pf.allB us 0 1000 = true) (hw : Pf.allB ws 0 1000 = true) : ∀ k, k ≤ us.length → k ≤ ws.length → 0 ≤ pairTo us ws k ∧ pairTo us ws k ≤ 1000000 * (k : Int)
  | 0, _, _ => by simp [pairTo]
  | k + 1, h1, h2 => by
    have := pairTo_bd hu hw k (by omega) (by omega)
    have := term_bd (Pf.inB_yes (Pf.allB_get hu (show k < us.length by omega))) (Pf.inB_yes (Pf.allB_get hw (show k < ws.length by omega)))
    simp only [pairTo]; omega
theorem costTo_bd {us ws os : List Int} (hu : Pf.allB us 0 1000 = true) (hw : Pf.allB ws 0 1000 = true) (hl : us.length = ws.length) (ho : ordB os us.length = true) : ∀ k, k ≤ us.length → 0 ≤ costTo us ws os k ∧ costTo us ws os k ≤ 1000000 * (k : Int)
  | 0, _ => by simp [costTo]
  | k + 1, h1 => by
    have := costTo_bd hu hw hl ho k (by omega)
    have := term_bd (Pf.inB_yes (Pf.allB_get hu (nth_lt ho (show k < us.length by omega)))) (Pf.inB_yes (Pf.allB_get hw (show k < ws.length by omega)))
    simp only [costTo]; omega
/-- The uses as they stand in an order. -/
def placed (us os : List Int) : List Int := os.map fun o => us.getD o.toNat 0
theorem placed_len (us os : List Int) : (placed us os).length = os.length := by simp [placed]
theorem placed_get (us os : List Int) {k : Nat} (h : k < os.length) : (placed us os).getD k 0 = us.getD (nth os k) 0 := by simp [placed, nth, h]
theorem placed_pair (us ws os : List Int) : ∀ k, k ≤ os.length → pairTo (placed us os) ws k = costTo us ws os k
  | 0, _ => rfl
  | k + 1, h => by simp only [pairTo, costTo]; rw [placed_pair us ws os k (by omega), placed_get us os (by omega)]
theorem placed_cost (us ws os : List Int) : pair (placed us os) ws = cost us ws os := by
  unfold pair cost; rw [placed_len]; exact placed_pair us ws os _ (Nat.le_refl _)
theorem placed_all {us os : List Int} (hu : Pf.allB us 0 1000 = true) (ho : ordB os us.length = true) : Pf.allB (placed us os) 0 1000 = true := by
  refine Pf.allB_of fun i hi => ?_
  rw [placed_len] at hi
  have hl := ordB_len ho
  rw [placed_get us os hi]
  exact Pf.allB_get hu (nth_lt ho (by omega))
theorem placed_step (us os ys : List Int) (k : Nat) (hy : ys.length = os.length) (hk : k < os.length) (h : ys.take k = (placed us os).take k) : (ys.set k (us.getD (nth os k) 0)).take (k + 1) = (placed us os).take (k + 1) := by
  rw [List.take_add_one, List.take_add_one, List.take_set_of_le (Nat.le_refl _), h]
  congr 1
  simp [hk, hy, placed, nth]

/-- The goods of two places changed. -/
def swap (os : List Int) (a b : Nat) : List Int := (os.set a (os.getD b 0)).set b (os.getD a 0)
theorem swap_len (os : List Int) (a b : Nat) : (swap os a b).length = os.length := by simp [swap]
theorem swap_get (os : List Int) {a b i : Nat} (ha : a < os.length) (hb : b < os.length) (hi : i < os.length) : (swap os a b).getD i 0 = if i = b then os.getD a 0 else if i = a then os.getD b 0 else os.getD i 0 := by
  simp only [swap, List.getD_eq_getElem?_getD, List.getElem?_set, List.length_set]
  by_cases h1 : b = i
  · subst h1; simp [hb]
  · rw [if_neg h1, if_neg (show ¬ i = b by omega)]
    by_cases h2 : a = i
    · subst h2; simp [ha]
    · rw [if_neg h2, if_neg (show ¬ i = a by omega)]
theorem okAt_iff {xs : List Int} {n i : Nat} (hl : xs.length = n) (hi : i < n) : okAt xs n i = true ↔ (0 ≤ xs.getD i 0 ∧ xs.getD i 0 < n) ∧ ∀ j, j < i → xs.getD j 0 ≠ xs.getD i 0 := by
  simp only [okAt, Bool.and_eq_true, Bool.not_eq_true', List.contains_eq_mem, decide_eq_false_iff_not]
  constructor
  · rintro ⟨h1, h2⟩
    have := Pf.inB_yes h1
    refine ⟨by omega, fun j hj e => h2 ?_⟩
    rw [← e]
    have hj' : j < xs.length := by omega
    rw [Pf.getD_lt xs 0 hj']
    exact List.mem_take_iff_getElem.2 ⟨j, by omega, rfl⟩
  · rintro ⟨h1, h2⟩
    refine ⟨Pf.inB_of h1.1 (by omega), fun hm => ?_⟩
    obtain ⟨j, hj, e⟩ := List.mem_take_iff_getElem.1 hm
    have hj' : j < xs.length := by omega
    exact h2 j (by omega) (by rw [Pf.getD_lt xs 0 hj']; exact e)
/-- An order: its numbers are 0 up to n - 1, no two alike. -/
theorem ordB_iff {xs : List Int} {n : Nat} : ordB xs n = true ↔ xs.length = n ∧ (∀ i, i < n → 0 ≤ xs.getD i 0 ∧ xs.getD i 0 < n) ∧ ∀ i j, i < n → j < n → xs.getD i 0 = xs.getD j 0 → i = j := by
  constructor
  · intro h
    have hl := ordB_len h
    refine ⟨hl, fun i hi => ordB_in h hi, fun i j hi hj e => ?_⟩
    rcases Nat.lt_trichotomy i j with c | c | c
    · exact absurd e (((okAt_iff hl hj).1 (ordB_at h hj)).2 i c)
    · exact c
    · exact absurd e.symm (((okAt_iff hl hi).1 (ordB_at h hi)).2 j c)
  · rintro ⟨hl, h1, h2⟩
    refine ordB_of hl fun i hi => (okAt_iff hl hi).2 ⟨h1 i hi, fun j hj e => ?_⟩
    have := h2 j i (by omega) hi e
    omega
theorem swap_ord {os : List Int} {n a b : Nat} (h : ordB os n = true) (ha : a < n) (hb : b < n) : ordB (swap os a b) n = true := by
  obtain ⟨hl, h1, h2⟩ := ordB_iff.1 h
  subst hl
  refine ordB_iff.2 ⟨swap_len _ _ _, fun i hi => ?_, fun i j hi hj => ?_⟩
  · rw [swap_get os ha hb hi]; split
    · exact h1 a ha
    · split
      · exact h1 b hb
      · exact h1 i hi
  · rw [swap_get os ha hb hi, swap_get os ha hb hj]
    intro e
    by_cases i1 : i = b
    · rw [if_pos i1] at e
      by_cases j1 : j = b
      · omega
      · rw [if_neg j1] at e
        by_cases j2 : j = a
        · rw [if_pos j2] at e
          have := h2 a b ha hb e; omega
        · rw [if_neg j2] at e
          have := h2 a j ha hj e; omega
    · rw [if_neg i1] at e
      by_cases i2 : i = a
      · rw [if_pos i2] at e
        by_cases j1 : j = b
        · rw [if_pos j1] at e; have := h2 b a hb ha e; omega
        · rw [if_neg j1] at e
          by_cases j2 : j = a
          · omega
          · rw [if_neg j2] at e
            have := h2 b j hb hj e; omega
      · rw [if_neg i2] at e
        by_cases j1 : j = b
        · rw [if_pos j1] at e; have := h2 i a hi ha e; omega
        · rw [if_neg j1] at e
          by_cases j2 : j = a
          · rw [if_pos j2] at e; have := h2 i b hi hb e; omega
          · rw [if_neg j2] at e; exact h2 i j hi hj e

theorem count_set {l : List Bool} {k : Nat} (h : l.getD k true = false) : l.count false = (l.set k true).count false + 1 := by
  have hk : k < l.length := by
    by_cases hk : k < l.length
    · exact hk
    · simp [hk] at h
  have e : l[k] = false := by simpa [hk] using h
  have h1 := List.take_append_drop k l
  have h2 : l.drop k = l[k] :: l.drop (k + 1) := List.drop_eq_getElem_cons hk
  have h3 : l.set k true = l.take k ++ true :: l.drop (k + 1) := by rw [List.set_eq_take_append_cons_drop, if_pos hk]
  rw [h3]
  conv => lhs; rw [← h1, h2, e]
  simp [List.count_append]; omega
/-- From k on along the order, until one is met that was gone to. -/
def gone (xs : List Int) (l : List Bool) (k : Nat) : List Bool :=
  if _h : l.getD k true = false then gone xs (l.set k true) (nth xs k) else l
termination_by l.count false
decreasing_by
  have := count_set _h
  omega
theorem gone_stop {xs : List Int} {l : List Bool} {k : Nat} (h : l.getD k true = true) : gone xs l k = l := by
  rw [gone, dif_neg (by rw [h]; decide)]
theorem gone_step {xs : List Int} {l : List Bool} {k : Nat} (h : l.getD k true = false) : gone xs l k = gone xs (l.set k true) (nth xs k) := by
  rw [gone, dif_pos h]
/-- What was gone to, and how many rings there are, behind the first i. -/
def ringsTo (xs : List Int) (n : Nat) : Nat → List Bool × Nat
  | 0 => (List.replicate n false, 0)
  | i + 1 => let s := ringsTo xs n i; (gone xs s.1 i, if s.1.getD i true = false then s.2 + 1 else s.2)
def rings (xs : List Int) : Nat := (ringsTo xs xs.length xs.length).2
theorem gone_len (xs : List Int) : ∀ (m : Nat) (l : List Bool) (k : Nat), l.count false = m → (gone xs l k).length = l.length
  | m, l, k, hm => by
    cases h : l.getD k true
    · have := count_set h
      rw [gone_step h]
      cases m with
      | zero => omega
      | succ m => rw [gone_len xs m _ _ (by omega)]; simp
    · rw [gone_stop h]
theorem ringsTo_len (xs : List Int) (n : Nat) : ∀ i, (ringsTo xs n i).1.length = n
  | 0 => by simp [ringsTo]
  | i + 1 => by simp only [ringsTo]; rw [gone_len xs _ _ _ rfl, ringsTo_len xs n i]
theorem ringsTo_le (xs : List Int) (n : Nat) : ∀ i, (ringsTo xs n i).2 ≤ i
  | 0 => by simp [ringsTo]
  | i + 1 => by have := ringsTo_le xs n i; simp only [ringsTo]; split <;> omega
end Go.Proofs.Ytebohpgdhbammaa.Od
namespace Go.Proofs.Ytebohpgdhbammaa
open Go.RowKit

def bls (bs : List Bool) : List Value := bs.map fun b => .bool b
theorem bls_len (bs : List Bool) : (bls bs).length = bs.length := by simp [bls]
theorem bls_get (bs : List Bool) (j : Nat) (h : j < bs.length) (d : Bool) : (bls bs)[j]? = some (.bool (bs.getD j d)) := by simp [bls, h]
theorem bls_set (bs : List Bool) (j : Nat) (x : Bool) : (bls bs).set j (.bool x) = bls (bs.set j x) := by simp [bls, List.map_set]
theorem madeB_own (w : World) (n : Nat) (hn : n ≤ 1048576) : (w.alloc (.cells (madeCells #[.bool false] n) 4)).ownsRow w.heap.size 4 1 (.slice (some ⟨w.heap.size, 0, none⟩) n n) n (bls (List.replicate n false)) := by
  have h := World.ownsRow_lit (base := w.heap.size) (e := 4) (size := 1) w (madeCells #[.bool false] n) n (Nat.le_refl _) (by unfold maxLen; omega) (by simp [madeCells])
  rw [toList_madeCells_one] at h
  simpa [bls] using h

end Go.Proofs.Ytebohpgdhbammaa
namespace Go.Proofs.Ytebohpgdhbammaa
open Go.RowKit

theorem ARow.take {w : World} {a : Option Addr} {xs : List Int} (h : ARow w a xs) (k : Nat) : ARow w a (xs.take k) := by
  rcases h with h | ⟨b, off, ha, hb, hc⟩
  · exact Or.inl (by rw [h]; simp)
  · refine Or.inr ⟨b, off, ha, hb, fun i hi => ?_⟩
    rw [List.length_take] at hi
    rw [hc i (by omega)]
    simp [show i < k by omega]
end Go.Proofs.Ytebohpgdhbammaa
namespace Go.Proofs.Ytebohpgdhbammaa
open Go.RowKit

set_option maxRecDepth 100000 in
set_option maxHeartbeats 2000000 in
theorem ri_any {a : Option Addr} {n c q : Nat} {l : List Int} {w : World} (hn : l.length = n) (hl : n ≤ 1048576) (hq : q ≤ 1000) (h : ARow w a l) :
    Calls Try.prog 59 #[.slice a n c, .int .i64 q] w fun e w' => e = .returned (.bool (Ma.riseB l q)) ∧ w' = w := by
  have H := hide h
  have HN := hide hn
  clear h hn
  go_enter Try.func59, Try.ntmps59
  go_wp2_with fail
  go_loop [4, 5, 7, 10] (fun s4 s5 _ s => ∃ (k : Nat) (t : Int), s4 = .bool false ∧ s5 = .int .i64 t ∧ s = .int .i64 k ∧ k ≤ n ∧ Hid (t = Ma.least l k) ∧ Hid (∀ i, i < k → Ma.riseAt l q i = true)) (fun _ _ _ s => n - (intOf s).toNat)
  case atStart => exact ⟨0, 0, rfl, rfl, rfl, Nat.zero_le _, hide rfl, hide fun i hi => absurd hi (Nat.not_lt_zero _)⟩
  case round =>
    obtain ⟨k, t, rfl, rfl, rfl, hk, HT, HK⟩ := hrel
    by_cases hlt : k < n
    · obtain ⟨b, off, rfl, r1⟩ := H.out.at (i := k) (by rw [HN.out]; exact hlt)
      have j0 : (0 : Int) ≤ (k : Int) := by omega
      have j1 : (k : Int) < (n : Int) := by omega
      have HR : Hid (Ma.riseAt l q k = Pf.inB (l.getD k 0) t ((q : Int) - 1)) := hide (by rw [HT.out]; rfl)
      have HL : Hid (Ma.least l (k + 1) = l.getD k 0 + 1) := hide (by simp [Ma.least])
      have ht0 : 0 ≤ t := by rw [HT.out]; exact Ma.least_nn HK.out
      generalize l.getD k 0 = x at *
      cases hb : Pf.inB x t ((q : Int) - 1)
      · have H1 := hide (Ma.all_not (n := l.length) (p := Ma.riseAt l q) (by rw [HN.out]; exact hlt) (HR.out.trans hb))
        go_wp2_with fail
        refine (between_eq hb).mono ?_
        rintro e w1 ⟨rfl, rfl⟩
        go_wp2_with fail
        go_ret
        exact ⟨ret_bool H1.out.symm, rfl⟩
      · have hxb := Pf.inB_yes hb
        have H1 : Hid (∀ i, i < k + 1 → Ma.riseAt l q i = true) := hide fun i hi => by
          by_cases e : i = k
          · subst e; exact HR.out.trans hb
          · exact HK.out i (by omega)
        have x0 : -1000 ≤ x := by omega
        have x1 : x ≤ 1000 := by omega
        clear hxb
        go_wp2_with fail
        refine (between_eq hb).mono ?_
        rintro e w1 ⟨rfl, rfl⟩
        go_wp2_with fail
        go_round
        case rel => exact ⟨k + 1, x + 1, rfl, by go_num, by go_num, by omega, hide HL.out.symm, H1⟩
        case measure => simp only [intOf]; omega
    · have hke : k = n := by omega
      subst hke
      have H1 := hide (show Ma.riseB l q = true from Ma.all_of (by rw [HN.out]; exact HK.out))
      go_wp2_with fail
      go_ret
      exact ⟨ret_bool H1.out.symm, rfl⟩
theorem ri_eq {a : Option Addr} {n c q : Nat} {l : List Int} {w : World} {r : Bool} (hn : Hid (l.length = n)) (hl : n ≤ 1048576) (hq : q ≤ 1000) (h : Hid (ARow w a l)) (hr : Hid (Ma.riseB l q = r)) :
    Calls Try.prog 59 #[.slice a n c, .int .i64 q] w fun e w' => e = .returned (.bool r) ∧ w' = w := hr.out ▸ ri_any hn.out hl hq h.out
theorem rise_no {x t q : Int} (ht : 0 ≤ t) (h : Pf.inB x t (q - 1) = false) : x < 0 ∨ q ≤ x ∨ (0 < t ∧ t - 1 ≥ x) := by
  have := Pf.inB_no h
  omega
set_option maxRecDepth 100000 in
set_option maxHeartbeats 4000000 in
theorem sri_any {a : Option Addr} {n c q : Nat} {l : List Int} {w : World} (hn : l.length = n) (hl : n ≤ 1048576) (h : ARow w a l) :
    Calls Try.prog 47 #[.slice a n c, .int .i64 q] w fun e w' => e = .returned (.bool (Ma.riseB l q)) ∧ w' = w := by
  have H := hide h
  have HN := hide hn
  clear h hn
  go_enter Try.func47, Try.ntmps47
  go_wp2_with fail
  go_loop [4, 5, 6, 9] (fun s4 _ _ s => ∃ (k : Nat), s4 = .bool false ∧ s = .int .i64 k ∧ k ≤ n ∧ Hid (∀ i, i < k → Ma.riseAt l q i = true)) (fun _ _ _ s => n - (intOf s).toNat)
  case atStart => exact ⟨0, rfl, rfl, Nat.zero_le _, hide fun i hi => absurd hi (Nat.not_lt_zero _)⟩
  case round =>
    obtain ⟨k, rfl, rfl, hk, HK⟩ := hrel
    by_cases hlt : k < n
    · obtain ⟨b, off, rfl, r1⟩ := H.out.at (i := k) (by rw [HN.out]; exact hlt)
      have j0 : (0 : Int) ≤ (k : Int) := by omega
      have j1 : (k : Int) < (n : Int) := by omega
      have HR : Hid (Ma.riseAt l q k = Pf.inB (l.getD k 0) (Ma.least l k) ((q : Int) - 1)) := hide rfl
      have ht0 := hide (Ma.least_nn HK.out)
      have HN1 := hide fun (hb : Pf.inB (l.getD k 0) (Ma.least l k) ((q : Int) - 1) = false) => show Ma.riseB l q = false from Ma.all_not (n := l.length) (p := Ma.riseAt l q) (by rw [HN.out]; exact hlt) hb
      have HY1 : Hid (Pf.inB (l.getD k 0) (Ma.least l k) ((q : Int) - 1) = true → ∀ i, i < k + 1 → Ma.riseAt l q i = true) := hide fun hb i hi => by
          by_cases e : i = k
          · subst e; exact hb
          · exact HK.out i (by omega)
      by_cases k0 : k = 0
      · subst k0
        have el : Ma.least l 0 = 0 := rfl
        rw [el] at HR HN1 HY1
        rw [Nat.add_zero] at r1
        generalize l.getD 0 0 = x at *
        by_cases x0 : x < 0
        · have H1 := hide (HN1.out (by simp [Pf.inB]; omega))
          go_wp2_with fail
          go_ret
          exact ⟨ret_bool H1.out.symm, rfl⟩
        · by_cases x1 : (q : Int) ≤ x
          · have H1 := hide (HN1.out (by simp [Pf.inB]; omega))
            go_wp2_with fail
            go_ret
            exact ⟨ret_bool H1.out.symm, rfl⟩
          · have H1 := hide (HY1.out (by simp [Pf.inB]; omega))
            go_wp2_with fail
            go_round
            case rel => exact ⟨1, rfl, by go_num, by omega, H1⟩
            case measure => simp only [intOf]; omega
      · obtain ⟨b', off', e', r2⟩ := H.out.at (i := k - 1) (by rw [HN.out]; omega)
        cases e'
        have el : Ma.least l k = l.getD (k - 1) 0 + 1 := by simp [Ma.least, k0]
        rw [el] at HR HN1 HY1
        have kc : ((k : Int) - 1) = ((k - 1 : Nat) : Int) := by omega
        have kp : (0 : Int) < (k : Int) := by omega
        have kp' : 0 < k := by omega
        have k2 : (0 : Int) ≤ (k : Int) - 1 := by omega
        have k3 : (k : Int) - 1 < (n : Int) := by omega
        have r3 : w.cell? ⟨b, off + ((k : Int) - 1).toNat, none⟩ = some (.int .i64 (l.getD (k - 1) 0)) := by rw [kc, Int.toNat_natCast]; exact r2
        have hy : 0 ≤ l.getD (k - 1) 0 + 1 := by rw [← el]; exact ht0.out
        generalize l.getD k 0 = x at *
        generalize l.getD (k - 1) 0 = y at *
        generalize hkk : k - 1 = kk at *
        clear el kc
        by_cases x0 : x < 0
        · have H1 := hide (HN1.out (by simp [Pf.inB]; omega))
          go_wp2_with fail
          go_ret
          exact ⟨ret_bool H1.out.symm, rfl⟩
        · by_cases x1 : (q : Int) ≤ x
          · have H1 := hide (HN1.out (by simp [Pf.inB]; omega))
            go_wp2_with fail
            go_ret
            exact ⟨ret_bool H1.out.symm, rfl⟩
          · by_cases x2 : x ≤ y
            · have H1 := hide (HN1.out (by simp [Pf.inB]; omega))
              go_wp2_with fail
              go_ret
              exact ⟨ret_bool H1.out.symm, rfl⟩
            · have H1 := hide (HY1.out (by simp [Pf.inB]; omega))
              go_wp2_with fail
              go_round
              case rel => exact ⟨k + 1, rfl, by go_num, by omega, H1⟩
              case measure => simp only [intOf]; omega
    · have hke : k = n := by omega
      subst hke
      have H1 := hide (show Ma.riseB l q = true from Ma.all_of (by rw [HN.out]; exact HK.out))
      go_wp2_with fail
      go_ret
      exact ⟨ret_bool H1.out.symm, rfl⟩
theorem sri_eq {a : Option Addr} {n c q : Nat} {l : List Int} {w : World} {r : Bool} (hn : Hid (l.length = n)) (hl : n ≤ 1048576) (h : Hid (ARow w a l)) (hr : Hid (Ma.riseB l q = r)) :
    Calls Try.prog 47 #[.slice a n c, .int .i64 q] w fun e w' => e = .returned (.bool r) ∧ w' = w := hr.out ▸ sri_any hn.out hl h.out
set_option maxRecDepth 100000 in
set_option maxHeartbeats 1000000 in
theorem ix_any {a : Option Addr} {n c : Nat} {xs : List Int} {x : Int} {w : World} (hx : xs.length = n) (hn : n ≤ 1048576) (ha : ARow w a xs) :
    Calls Try.prog 62 #[.slice a n c, .int .i64 x] w fun e w' => e = .returned (.int .i64 (Ma.idx xs x)) ∧ w' = w := by
  have HA := hide ha
  have HX := hide hx
  clear ha hx
  go_enter Try.func62, Try.ntmps62
  go_wp2_with fail
  go_loop [4, 5, 8] (fun s4 _ s => ∃ (k : Nat), s4 = .int .i64 0 ∧ s = .int .i64 k ∧ k ≤ n ∧ Hid (∀ j, j < k → (xs.getD j 0 == x) = false)) (fun _ _ s => n - (intOf s).toNat)
  case atStart => exact ⟨0, rfl, rfl, Nat.zero_le _, hide fun i hi => absurd hi (Nat.not_lt_zero _)⟩
  case round =>
    obtain ⟨k, rfl, rfl, hk, HK⟩ := hrel
    by_cases hlt : k < n
    · obtain ⟨b, off, rfl, r1⟩ := HA.out.at (i := k) (by rw [HX.out]; exact hlt)
      have i0 : (0 : Int) ≤ (k : Int) := by omega
      have i1 : (k : Int) < (n : Int) := by omega
      have HY := hide fun (h : (xs.getD k 0 == x) = true) => Ma.idx_at (show k < xs.length by rw [HX.out]; exact hlt) h HK.out
      generalize hy : xs.getD k 0 = y at *
      cases hb : (y == x)
      · have hb' : (x == y) = false := by rw [beq_eq_false_iff_ne] at hb ⊢; exact fun e => hb e.symm
        have H1 : Hid (∀ j, j < k + 1 → (xs.getD j 0 == x) = false) := hide fun j hj => by
          by_cases e : j = k
          · subst e; rw [hy]; exact hb
          · exact HK.out j (by omega)
        clear hy
        go_wp2_with fail
        go_round
        case rel => exact ⟨k + 1, rfl, by go_num, by omega, H1⟩
        case measure => simp only [intOf]; omega
      · have hb' : (x == y) = true := by rw [beq_iff_eq] at hb ⊢; exact hb.symm
        have H1 := hide (HY.out hb)
        clear hy
        go_wp2_with fail
        go_ret
        exact ⟨ret_int H1.out.symm, rfl⟩
    · have hke : k = n := by omega
      subst hke
      have H1 := hide (Ma.idx_none (xs := xs) (x := x) (by rw [HX.out]; exact HK.out))
      go_wp2_with fail
      go_ret
      exact ⟨ret_int H1.out.symm, rfl⟩
set_option maxRecDepth 100000 in
set_option maxHeartbeats 1000000 in
theorem con_any {a : Option Addr} {n c : Nat} {xs : List Int} {x : Int} {w : World} (hx : xs.length = n) (hn : n ≤ 1048576) (ha : ARow w a xs) :
    Calls Try.prog 58 #[.slice a n c, .int .i64 x] w fun e w' => e = .returned (.bool (xs.contains x)) ∧ w' = w := by
  have HC := hide (ix_any (c := c) (x := x) hx hn ha)
  have HE := hide (Ma.idx_has xs x)
  generalize Ma.idx xs x = q at *
  clear ha hx
  go_enter Try.func58, Try.ntmps58
  go_wp2_with fail
  refine HC.out.mono ?_
  rintro e w1 ⟨rfl, rfl⟩
  go_wp2_with fail
  go_ret
  exact ⟨ret_bool HE.out, rfl⟩
theorem con_eq {a : Option Addr} {n c : Nat} {xs : List Int} {x : Int} {w : World} {r : Bool} (hx : Hid (xs.length = n)) (hn : n ≤ 1048576) (ha : Hid (ARow w a xs)) (h : Hid (xs.contains x = r)) :
    Calls Try.prog 58 #[.slice a n c, .int .i64 x] w fun e w' => e = .returned (.bool r) ∧ w' = w := h.out ▸ con_any hx.out hn ha.out
end Go.Proofs.Ytebohpgdhbammaa
namespace Go.Proofs.Ytebohpgdhbammaa
open Go.RowKit

theorem ri_z14 {a : Option Addr} {n c q : Nat} {z : Int} {l : List Int} {w : World} {r : Bool} (hz : z = (q : Int)) (hn : Hid (l.length = n)) (hl : n ≤ 1048576) (hq : q ≤ 1000) (h : Hid (ARow w a l)) (hr : Hid (Ma.riseB l q = r)) :
    Calls Try.prog 59 #[.slice a n c, .int .i64 z] w fun e w' => e = .returned (.bool r) ∧ w' = w := hz ▸ ri_eq hn hl hq h hr
set_option maxRecDepth 100000 in
set_option maxHeartbeats 1000000 in
theorem rf0_eq {a : Option Addr} {c m q : Nat} {z : Int} {s : List Int} {w : World} {r : Bool} (hz : z = (q : Int)) (HN : Hid (s.length = m)) (hm : m ≤ 1048576) (hq : q ≤ 1000) (H : Hid (ARow w a s)) (hr : Hid ((decide (0 < s.length) && (s.getD 0 0 == 0) && Ma.riseB s q) = r)) :
    Calls Try.prog 46 #[.slice a m c, .int .i64 z] w fun e w' => e = .returned (.bool r) ∧ w' = w := by
  by_cases hm0 : m = 0
  · subst hm0
    have H1 : Hid (r = false) := hide (by rw [← hr.out]; simp [HN.out])
    clear hz
    go_enter Try.func46, Try.ntmps46
    go_wp2_with fail
    go_ret
    exact ⟨ret_bool H1.out.symm, rfl⟩
  · obtain ⟨b, off, rfl, r1⟩ := H.out.at (i := 0) (by rw [HN.out]; omega)
    have m0 : (0 : Int) < (m : Int) := by omega
    have m1 : ¬ ((m : Int) ≤ 0) := by omega
    rw [Nat.add_zero] at r1
    have HR : Hid ((decide (0 < s.length) && (s.getD 0 0 == 0) && Ma.riseB s q) = ((s.getD 0 0 == 0) && Ma.riseB s q)) := hide (by simp [HN.out, show 0 < m by omega])
    generalize s.getD 0 0 = x at *
    by_cases hx : x = 0
    · subst hx
      have H1 : Hid (Ma.riseB s q = r) := hide (by rw [← hr.out, HR.out]; rfl)
      have HZ := hide hz
      clear hz
      go_enter Try.func46, Try.ntmps46
      go_wp2_with fail
      refine (ri_z14 HZ.out HN hm hq H H1).mono ?_
      rintro e w1 ⟨rfl, hw1⟩
      obtain rfl : w = w1 := hw1.symm
      go_wp2_with fail
      go_ret
      exact ⟨rfl, rfl⟩
    · have H1 : Hid (r = false) := hide (by rw [← hr.out, HR.out]; simp [hx])
      have hx' : (x == (0 : Int)) = false := by simpa using hx
      clear hz
      go_enter Try.func46, Try.ntmps46
      go_wp2_with fail
      go_ret
      exact ⟨ret_bool H1.out.symm, rfl⟩
end Go.Proofs.Ytebohpgdhbammaa
