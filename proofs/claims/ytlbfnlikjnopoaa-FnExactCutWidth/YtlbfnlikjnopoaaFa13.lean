/-
  Plain facts, of no program: rows of nets, their values, cuts.
-/
import Derived.Test.YtlbfnlikjnopoaaKi
import Derived.Test.YtlbfnlikjnopoaaAs13
import Derived.Test.YtlbfnlikjnopoaaJb
namespace Go.Proofs.Ytlbfnlikjnopoaa.Nt
open Bx (sumTo)

/-- 2 to 8 rows of as many numbers in 0..50. -/
def rowsB (c : List (List Int)) : Bool := Pf.inB (c.length : Int) 2 8 && sqB 50 c
def at2 (c : List (List Int)) (i k : Nat) : Int := (c.getD i []).getD k 0
theorem rowsB_len {c : List (List Int)} (h : rowsB c = true) : 2 ≤ c.length ∧ c.length ≤ 8 := by
  simp only [rowsB, Bool.and_eq_true] at h
  have := Pf.inB_yes h.1
  omega
theorem rowsB_sq {c : List (List Int)} (h : rowsB c = true) : sqB 50 c = true := by
  simp only [rowsB, Bool.and_eq_true] at h; exact h.2
theorem rowsB_row {c : List (List Int)} (h : rowsB c = true) {i : Nat} (hi : i < c.length) : (c.getD i []).length = c.length := (sqB_row (rowsB_sq h) hi).1
theorem rowsB_bd {c : List (List Int)} (h : rowsB c = true) {i k : Nat} (hi : i < c.length) (hk : k < c.length) : 0 ≤ at2 c i k ∧ at2 c i k ≤ 50 := by
  have h1 := sqB_row (rowsB_sq h) hi
  have := Pf.inB_yes (Pf.allB_get h1.2 (i := k) (by omega))
  exact this
def netB (c : List (List Int)) : Bool := rowsB c && (List.range c.length).all fun i => at2 c i i == 0
theorem netB_rows {c : List (List Int)} (h : netB c = true) : rowsB c = true := by
  simp only [netB, Bool.and_eq_true] at h; exact h.1
theorem netB_diag {c : List (List Int)} (h : netB c = true) {i : Nat} (hi : i < c.length) : at2 c i i = 0 := by
  simp only [netB, Bool.and_eq_true, List.all_eq_true, List.mem_range] at h
  simpa using h.2 i hi
theorem netB_no {c : List (List Int)} (h : rowsB c = false) : netB c = false := by simp [netB, h]
theorem netB_not {c : List (List Int)} {i : Nat} (hi : i < c.length) (h : at2 c i i ≠ 0) : netB c = false := by
  cases e : netB c
  · rfl
  · exact absurd (netB_diag e hi) h
theorem netB_of {c : List (List Int)} (h : rowsB c = true) (hd : ∀ i, i < c.length → at2 c i i = 0) : netB c = true := by
  simp only [netB, Bool.and_eq_true, List.all_eq_true, List.mem_range]
  exact ⟨h, fun i hi => by simp [hd i hi]⟩
/-- What goes out of a hall less what goes into it. -/
def outI (c : List (List Int)) (h : Nat) : Int := Fl.ex c.length (at2 c) h
def fvI (c : List (List Int)) : Int := if rowsB c then outI c 0 else 0
theorem sumTo_bd {f : Nat → Int} {lo hi : Int} : ∀ n, (∀ i, i < n → lo ≤ f i ∧ f i ≤ hi) → lo * n ≤ sumTo f n ∧ sumTo f n ≤ hi * n
  | 0, _ => by simp [sumTo]
  | n + 1, h => by
    have h1 := sumTo_bd n fun i hi => h i (by omega)
    have h2 := h n (by omega)
    have e1 : lo * ((n + 1 : Nat) : Int) = lo * n + lo := by rw [Int.natCast_add, Int.mul_add]; simp
    have e2 : hi * ((n + 1 : Nat) : Int) = hi * n + hi := by rw [Int.natCast_add, Int.mul_add]; simp
    simp only [sumTo]
    rw [e1, e2]
    omega
theorem sumTo_sub (f g : Nat → Int) : ∀ n, sumTo (fun k => f k - g k) n = sumTo f n - sumTo g n
  | 0 => by simp [sumTo]
  | n + 1 => by simp only [sumTo]; rw [sumTo_sub f g n]; omega
theorem sum_list : ∀ (l : List Int), l.sum = sumTo (fun k => l.getD k 0) l.length := by
  intro l
  have : ∀ k, k ≤ l.length → (l.take k).sum = sumTo (fun k => l.getD k 0) k := by
    intro k
    induction k with
    | zero => intro _; simp [sumTo]
    | succ k ih =>
      intro hk
      rw [List.take_succ_eq_append_getElem (by omega), List.sum_append, ih (by omega)]
      simp only [sumTo]
      rw [Pf.getD_lt _ _ (show k < l.length by omega)]
      simp
  have h := this l.length (Nat.le_refl _)
  rwa [List.take_length] at h
/-- All of a row less the first so many of a column. -/
theorem out_eq {c : List (List Int)} {h : Nat} (hl : (c.getD h []).length = c.length) : outI c h = (c.getD h []).sum - sumTo (fun k => at2 c k h) c.length := by
  rw [outI, Fl.ex, sumTo_sub, sum_list, hl]; rfl
/-- The halls of a side: rising, with 0, without the last one. -/
def sideB (c : List (List Int)) (s : List Int) : Bool := netB c && (decide (0 < s.length) && (s.getD 0 0 == 0) && Ma.riseB s (c.length - 1))
end Go.Proofs.Ytlbfnlikjnopoaa.Nt
