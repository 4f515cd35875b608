/-
  The planned moves, plain.
-/
import Derived.Test.YtdigcbjkobjdmaaMh10
import Derived.Test.YtdigcbjkobjdmaaKe
import Derived.Test.YtdigcbjkobjdmaaJb
namespace Go.Proofs.Ytdigcbjkobjdmaa.Mx

/-- A list as a function. -/
def fn (xs : List Int) : Mv.Fn := fun i => xs.getD i 0
def homeAt (xs ws : List Int) (k : Nat) : Bool := (ws.getD k 0 != 0) && (xs.getD k 0 == 0)
def asideAt (xs ws : List Int) (k : Nat) : Bool := xs.getD k 0 != ws.getD k 0
def home (xs ws : List Int) : Option Nat := (List.range ws.length).find? (homeAt xs ws)
def aside (xs ws : List Int) : Option Nat := (List.range xs.length).find? (asideAt xs ws)
def nextM (xs ws : List Int) : Option (Int × Int) :=
  match home xs ws with
  | some k => some (Ma.idx xs (ws.getD k 0), (k : Int))
  | none => match aside xs ws with
    | some k => some ((k : Int), Ma.idx xs 0)
    | none => none
def plan : Nat → List Int → List Int → List (Int × Int)
  | 0, _, _ => []
  | f + 1, xs, ws => match nextM xs ws with
    | none => []
    | some m => m :: plan f (mv xs m) ws
theorem find_at {p : Nat → Bool} : ∀ {n k : Nat}, k < n → p k = true → (∀ j, j < k → p j = false) → (List.range n).find? p = some k := fun {n k} hk hp hj => by
  rw [List.find?_range_eq_some]
  exact ⟨hp, List.mem_range.2 hk, fun j hjk => by simpa using hj j hjk⟩
theorem find_no {p : Nat → Bool} {n : Nat} (h : ∀ j, j < n → p j = false) : (List.range n).find? p = none := by
  rw [List.find?_eq_none]
  intro x hx
  rw [h x (List.mem_range.1 hx)]; simp
theorem find_is {p : Nat → Bool} {n k : Nat} (h : (List.range n).find? p = some k) : k < n ∧ p k = true := by
  have h1 := List.mem_of_find?_eq_some h
  have h2 := List.find?_some h
  exact ⟨List.mem_range.1 h1, h2⟩
theorem find_not {p : Nat → Bool} {n : Nat} (h : (List.range n).find? p = none) {j : Nat} (hj : j < n) : p j = false := by
  rw [List.find?_eq_none] at h
  simpa using h j (List.mem_range.2 hj)
theorem mem_at {xs : List Int} {x : Int} (h : x ∈ xs) : ∃ j, j < xs.length ∧ xs.getD j 0 = x := by
  obtain ⟨i, hi, rfl⟩ := List.getElem_of_mem h
  exact ⟨i, hi, by rw [List.getD_eq_getElem?_getD, List.getElem?_eq_getElem hi]; rfl⟩
theorem at_mem {xs : List Int} {i : Nat} (h : i < xs.length) : xs.getD i 0 ∈ xs := by rw [List.getD_eq_getElem?_getD, List.getElem?_eq_getElem h]; exact List.getElem_mem h
theorem good_sp {xs : List Int} {n : Nat} (h : goodB xs = true) (hn : xs.length = n) : Mv.Sp n (fn xs) := by
  subst hn
  refine ⟨fun i hi => (Pf.inB_yes (Pf.allB_get (good_all h) hi)).1, fun i j hi hj h0 e => good_inj h hi hj (by show xs.getD i 0 ≠ 0; have : 0 < xs.getD i 0 := h0; omega) e, ?_⟩
  have := good_zero h
  rw [List.contains_eq_mem, decide_eq_true_eq] at this
  exact mem_at this
theorem same_two {xs ys : List Int} {n : Nat} (h : sameB xs ys = true) (hn : xs.length = n) : ys.length = n ∧ Mv.Two n (fn xs) (fn ys) := by
  obtain ⟨h1, h2, hp⟩ := same_good h
  have hl : ys.length = n := by rw [← hp.length_eq, hn]
  refine ⟨hl, good_sp h1 hn, good_sp h2 hl, fun i hi _ => ?_, fun i hi _ => ?_⟩
  · obtain ⟨j, hj, e⟩ := mem_at (hp.mem_iff.1 (at_mem (show i < xs.length by omega)))
    exact ⟨j, by omega, e⟩
  · obtain ⟨j, hj, e⟩ := mem_at (hp.mem_iff.2 (at_mem (show i < ys.length by omega)))
    exact ⟨j, by omega, e⟩
theorem fn_mv {xs : List Int} {n f t : Nat} (hn : xs.length = n) (hf : f < n) (ht : t < n) : fn (mv xs ((f : Int), (t : Int))) = Mv.mv (fn xs) f t := by
  funext i
  unfold fn mv Mv.mv
  simp only [Int.toNat_natCast]
  by_cases e : i = t
  · subst e; simp [hn, hf, ht]
  · rw [if_neg e]
    have e1 : ((xs.set f 0).set t (xs.getD f 0)).getD i 0 = (xs.set f 0).getD i 0 := by
      simp only [List.getD_eq_getElem?_getD]; rw [List.getElem?_set_ne (Ne.symm e)]
    rw [e1]
    by_cases e2 : i = f
    · subst e2; simp [hn, hf]
    · rw [if_neg e2]
      simp only [List.getD_eq_getElem?_getD]; rw [List.getElem?_set_ne (Ne.symm e2)]
theorem idx_is {xs : List Int} {x : Int} {j n : Nat} (hn : xs.length = n) (hj : j < n) (e : xs.getD j 0 = x) : ∃ f : Nat, Ma.idx xs x = (f : Int) ∧ f < n ∧ xs.getD f 0 = x := by
  have h : (List.range n).find? (fun i => xs.getD i 0 == x) ≠ none := fun h => by
    have := find_not h hj
    rw [e] at this; simp at this
  obtain ⟨f, hf⟩ := Option.ne_none_iff_exists'.1 h
  have h1 := find_is hf
  have h2 : ∀ i, i < f → (xs.getD i 0 == x) = false := fun i hi => by
    rw [List.find?_range_eq_some] at hf
    simpa using hf.2.2 i hi
  exact ⟨f, Ma.idx_at (show f < xs.length by omega) h1.2 h2, h1.1, by simpa using h1.2⟩
/-- What the next move is, and what it leaves. -/
structure Nx (n : Nat) (xs ws : List Int) (m : Int × Int) (f t : Nat) : Prop where
  e : m = ((f : Int), (t : Int))
  hf : f < n
  ht : t < n
  can : Mv.Can n (fn xs) f t
  two : Mv.Two n (fn (mv xs m)) (fn ws)
open Classical in
theorem next_yes {xs ws : List Int} {n : Nat} {m : Int × Int} (hx : xs.length = n) (hw : ws.length = n) (h2 : Mv.Two n (fn xs) (fn ws)) (h : nextM xs ws = some m) : (∃ f t, Nx n xs ws m f t) ∧ Mv.need n (fn xs) (fn ws) = Mv.need n (fn (mv xs m)) (fn ws) + 1 := by
  unfold nextM at h
  cases hh : home xs ws with
  | some k =>
    rw [hh] at h
    simp only [Option.some.injEq] at h
    obtain ⟨hk, hp⟩ := find_is hh
    rw [hw] at hk
    simp only [homeAt, Bool.and_eq_true, bne_iff_ne, ne_eq, beq_iff_eq] at hp
    have hwk : 0 < fn ws k := by have := h2.sb.ge k hk; have : fn ws k ≠ 0 := hp.1; omega
    obtain ⟨j, hj, ej⟩ := h2.ba k hk hwk
    obtain ⟨f, e1, hf, e2⟩ := idx_is hx hj ej
    rw [show fn ws k = ws.getD k 0 from rfl] at e1 e2
    have hc : Mv.Can n (fn xs) f k := ⟨hf, hk, by show 0 < xs.getD f 0; rw [e2]; exact hwk, hp.2⟩
    have hm : m = ((f : Int), (k : Int)) := by rw [← h, e1]
    subst hm
    have e3 := fn_mv hx hf hk
    refine ⟨⟨f, k, rfl, hf, hk, hc, e3 ▸ h2.move hc⟩, ?_⟩
    rw [e3]
    exact Mv.need_home h2 hc (by show ws.getD k 0 = xs.getD f 0; rw [e2])
  | none =>
    rw [hh] at h
    cases ha : aside xs ws with
    | none => rw [ha] at h; cases h
    | some k =>
      rw [ha] at h
      simp only [Option.some.injEq] at h
      obtain ⟨hk, hp⟩ := find_is ha
      rw [hx] at hk
      have hno : ∀ j, j < n → 0 < fn ws j → fn xs j ≠ 0 := fun j hj h0 e => by
        have := find_not hh (show j < ws.length by omega)
        simp only [homeAt, Bool.and_eq_false_iff] at this
        have e1 : xs.getD j 0 = 0 := e
        have e2 : 0 < ws.getD j 0 := h0
        rcases this with h | h
        · have h' : ws.getD j 0 = 0 := bne_eq_false_iff_eq.1 h
          omega
        · rw [e1] at h; simp at h
      simp only [asideAt, bne_iff_ne, ne_eq] at hp
      have hxk : 0 < fn xs k := by
        have := h2.sa.ge k hk
        have hne : fn xs k ≠ 0 := fun e => by
          have h3 := h2.sb.ge k hk
          have h4 := hno k hk
          by_cases h5 : 0 < fn ws k
          · exact h4 h5 e
          · exact hp (show fn xs k = fn ws k by omega)
        omega
      obtain ⟨j, hj, ej⟩ := h2.sa.fre
      obtain ⟨t, e1, ht, e2⟩ := idx_is (x := 0) hx hj ej
      have hc : Mv.Can n (fn xs) k t := ⟨hk, ht, hxk, e2⟩
      have hm : m = ((k : Int), (t : Int)) := by rw [← h, e1]
      subst hm
      have e3 := fn_mv hx hk ht
      refine ⟨⟨k, t, rfl, hk, ht, hc, e3 ▸ h2.move hc⟩, ?_⟩
      rw [e3]
      exact Mv.need_off h2 hc ⟨hxk, fun e => hp e.symm⟩ hno
def pmL (xs ws : List Int) : List (Int × Int) := if sameB xs ws then plan 20 xs ws else []
end Go.Proofs.Ytdigcbjkobjdmaa.Mx
