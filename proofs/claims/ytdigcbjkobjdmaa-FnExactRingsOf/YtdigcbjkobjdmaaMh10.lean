/-
  Spots with the same goods, plain.
-/
import Derived.Test.YtdigcbjkobjdmaaMd10
namespace Go.Proofs.Ytdigcbjkobjdmaa.Mx

def msort (l : List Int) : List Int := l.mergeSort fun x y => decide (x ≤ y)
def sameB (xs ys : List Int) : Bool := goodB xs && (goodB ys && (msort xs == msort ys))
theorem sorted_ext : ∀ {l m : List Int}, l.Pairwise (· ≤ ·) → m.Pairwise (· ≤ ·) → l.Perm m → l = m
  | [], m, _, _, h => by rw [List.nil_perm.1 h]
  | a :: l, [], _, _, h => by simp at h
  | a :: l, b :: m, h1, h2, h => by
    have ha : ∀ x ∈ l, a ≤ x := fun x hx => List.rel_of_pairwise_cons h1 hx
    have hb : ∀ x ∈ m, b ≤ x := fun x hx => List.rel_of_pairwise_cons h2 hx
    have e : a = b := by
      have m1 : a ∈ b :: m := h.mem_iff.1 (by simp)
      have m2 : b ∈ a :: l := h.mem_iff.2 (by simp)
      rcases List.mem_cons.1 m1 with e | e
      · exact e
      · rcases List.mem_cons.1 m2 with e2 | e2
        · exact e2.symm
        · have := hb a e; have := ha b e2; omega
    subst e
    rw [sorted_ext (List.Pairwise.of_cons h1) (List.Pairwise.of_cons h2) (List.Perm.cons_inv h)]
theorem msort_perm (l : List Int) : (msort l).Perm l := List.mergeSort_perm l _
theorem msort_up (l : List Int) : (msort l).Pairwise (· ≤ ·) := by
  have := List.pairwise_mergeSort (le := fun x y : Int => decide (x ≤ y)) (fun a b c h1 h2 => by simp at *; omega) (fun a b => by simp; omega) l
  exact this.imp fun {a b} h => by simpa using h
theorem msort_eq {l m : List Int} : msort l = msort m ↔ l.Perm m :=
  ⟨fun h => (msort_perm l).symm.trans (h ▸ msort_perm m), fun h => sorted_ext (msort_up l) (msort_up m) ((msort_perm l).trans (h.trans (msort_perm m).symm))⟩
theorem msort_len (l : List Int) : (msort l).length = l.length := List.length_mergeSort l
theorem good_ne {xs : List Int} (h : goodB xs = true) {i j : Nat} (hj : j < xs.length) (hij : i < j) (h0 : xs.getD j 0 ≠ 0) : xs.getD i 0 ≠ xs.getD j 0 := fun e => by
  have ht := twice_at (good_one h) hj
  have h1 : (xs.getD j 0 != 0) = true := by simpa using h0
  have h2 : (xs.take j).contains (xs.getD j 0) = true := by
    rw [← e, List.contains_eq_mem, decide_eq_true_eq]
    rw [List.getD_eq_getElem?_getD, List.getElem?_eq_getElem (show i < xs.length by omega)]
    exact List.mem_take_iff_getElem.2 ⟨i, by omega, rfl⟩
  unfold twiceAt at ht
  rw [h1, h2] at ht; cases ht
theorem good_inj {xs : List Int} (h : goodB xs = true) {i j : Nat} (hi : i < xs.length) (hj : j < xs.length) (h0 : xs.getD i 0 ≠ 0) (e : xs.getD i 0 = xs.getD j 0) : i = j := by
  rcases Nat.lt_trichotomy i j with hl | hl | hl
  · exact absurd e (good_ne h hj hl (e ▸ h0))
  · exact hl
  · exact absurd e.symm (good_ne h hi hl h0)
theorem good_nodup {xs : List Int} (h : goodB xs = true) : (xs.filter fun x => x != 0).Nodup := by
  rw [List.nodup_iff_pairwise_ne, List.pairwise_filter, List.pairwise_iff_getElem]
  intro i j hi hj hij _ h0
  have := good_ne h hj hij
  simp only [List.getD_eq_getElem?_getD, List.getElem?_eq_getElem hi, List.getElem?_eq_getElem hj, Option.getD_some] at this
  exact this (by simpa using h0)
theorem zeros_rep (xs : List Int) : (xs.filter fun x => !(x != 0)) = List.replicate (xs.filter fun x => !(x != 0)).length 0 := by
  rw [List.eq_replicate_iff]
  exact ⟨rfl, fun b hb => by simp at hb; exact hb.2⟩
theorem same_perm {xs ys : List Int} (h1 : goodB xs = true) (h2 : goodB ys = true) (hl : xs.length = ys.length) (h : ∀ x ∈ xs, x ∈ ys) (h' : ∀ x ∈ ys, x ∈ xs) : xs.Perm ys := by
  have p1 := List.filter_append_perm (fun x : Int => x != 0) xs
  have p2 := List.filter_append_perm (fun x : Int => x != 0) ys
  have pA : (xs.filter fun x => x != 0).Perm (ys.filter fun x => x != 0) := (List.perm_ext_iff_of_nodup (good_nodup h1) (good_nodup h2)).2 fun x => by
    simp only [List.mem_filter]
    exact ⟨fun ⟨a, b⟩ => ⟨h x a, b⟩, fun ⟨a, b⟩ => ⟨h' x a, b⟩⟩
  have l1 := p1.length_eq
  have l2 := p2.length_eq
  have l3 := pA.length_eq
  rw [List.length_append] at l1 l2
  refine p1.symm.trans (List.Perm.trans ?_ p2)
  rw [zeros_rep xs, zeros_rep ys, show (xs.filter fun x => !(x != 0)).length = (ys.filter fun x => !(x != 0)).length by omega]
  exact pA.append_right _
/-- Whether all of one stand in the other. -/
def inB2 (xs ys : List Int) : Bool := xs.all fun x => ys.contains x
theorem same_eq {xs ys : List Int} (h1 : goodB xs = true) (h2 : goodB ys = true) : (msort xs == msort ys) = (decide (xs.length = ys.length) && (inB2 xs ys && inB2 ys xs)) := by
  rw [Bool.eq_iff_iff]
  simp only [beq_iff_eq, Bool.and_eq_true, decide_eq_true_eq, inB2, List.all_eq_true, List.contains_eq_mem]
  rw [msort_eq]
  exact ⟨fun h => ⟨h.length_eq, fun x hx => h.mem_iff.1 hx, fun x hx => h.mem_iff.2 hx⟩, fun ⟨a, b, c⟩ => same_perm h1 h2 a b c⟩
theorem same_good {xs ys : List Int} (h : sameB xs ys = true) : goodB xs = true ∧ goodB ys = true ∧ xs.Perm ys := by
  simp only [sameB, Bool.and_eq_true, beq_iff_eq] at h
  exact ⟨h.1, h.2.1, msort_eq.1 h.2.2⟩
end Go.Proofs.Ytdigcbjkobjdmaa.Mx
