/-
  Rows of as many numbers as there are rows: plain; what areBetween, l1All and areSquare answer.
-/
import Derived.Test.YtlbfnlikjnopoaaQa
namespace Go.Proofs.Ytlbfnlikjnopoaa
namespace Nt
def rowB (g : Int) (n : Nat) (r : List Int) : Bool := decide (r.length = n) && Pf.allB r 0 g
def sqB (g : Int) (c : List (List Int)) : Bool := c.all (rowB g c.length)
theorem rowB_len {g : Int} {n : Nat} {r : List Int} (h : r.length ≠ n) : rowB g n r = false := by simp [rowB, h]
theorem rowB_all {g : Int} {n : Nat} {r : List Int} (h : r.length = n) : rowB g n r = Pf.allB r 0 g := by simp [rowB, h]
theorem sqB_row {g : Int} {c : List (List Int)} (h : sqB g c = true) {i : Nat} (hi : i < c.length) : (c.getD i []).length = c.length ∧ Pf.allB (c.getD i []) 0 g = true := by
  have h2 := List.all_eq_true.1 h (c.getD i []) (by rw [Pf.getD_lt _ _ hi]; exact List.getElem_mem hi)
  simpa [rowB] using h2
theorem sqB_not {g : Int} {c : List (List Int)} {i : Nat} (hi : i < c.length) (h : rowB g c.length (c.getD i []) = false) : sqB g c = false := by
  cases e : sqB g c
  · rfl
  · have := sqB_row e hi
    rw [rowB, this.1, this.2] at h
    simp at h
theorem sqB_of {g : Int} {c : List (List Int)} (h : ∀ i, i < c.length → rowB g c.length (c.getD i []) = true) : sqB g c = true := by
  refine List.all_eq_true.2 fun r hr => ?_
  obtain ⟨i, hi, rfl⟩ := List.getElem_of_mem hr
  have := h i hi
  rwa [Pf.getD_lt _ _ hi] at this
end Nt
open Go.RowKit

theorem areb9_eqn {a : Option Addr} {n c : Nat} {xs : List Int} {lo hi : Int} {w : World} {r : Bool} (h : Hid (ARow w a xs)) (hn : Hid (xs.length = n)) (hl : n ≤ 1048576) (hr : Hid (Pf.allB xs lo hi = r)) :
    Calls Try.prog 27 #[.slice a n c, .int .i64 lo, .int .i64 hi] w fun e w' => e = .returned (.bool r) ∧ w' = w := by
  have := hn.out
  subst this
  have := areb_any (c := c) (lo := lo) (hi := hi) h.out (by omega)
  rwa [hr.out] at this
theorem all9_eqn {a : Option Addr} {n c : Nat} {xs : List Int} {lo hi : Int} {w : World} {r : Bool} (h : Hid (ARow w a xs)) (hn : Hid (xs.length = n)) (hl : n ≤ 1048576) (hr : Hid (Pf.allB xs lo hi = r)) :
    Calls Try.prog 22 #[.slice a n c, .int .i64 lo, .int .i64 hi] w fun e w' => e = .returned (.bool r) ∧ w' = w := by
  have := hn.out
  subst this
  have := all_any (c := c) (lo := lo) (hi := hi) h.out (by omega)
  rwa [hr.out] at this
set_option maxHeartbeats 2000000 in
theorem as_any {a : Option Addr} {n c : Nat} {g : Int} {C : List (List Int)} {w : World} (hn : C.length = n) (hl : n ≤ 1048576) (h : CRow w a C) :
    Calls Try.prog 25 #[.slice a n c, .int .i64 g] w fun e w' => e = .returned (.bool (Nt.sqB g C)) ∧ w' = w := by
  have HN := hide hn
  have H := hide h
  have HNOT := hide fun (i : Nat) (hi : i < C.length) (hh : Nt.rowB g C.length (C.getD i []) = false) => Nt.sqB_not hi hh
  have HOF := hide (@Nt.sqB_of g C)
  rw [hn] at HNOT HOF
  generalize Nt.sqB g C = G at *
  clear h hn
  go_enter Try.func25, Try.ntmps25
  go_wp2_with fail
  go_loop [4, 6, 9] (fun s2 _ s => ∃ (k : Nat), s2 = .bool false ∧ s = .int .i64 k ∧ k ≤ n ∧ Hid (∀ i, i < k → Nt.rowB g n (C.getD i []) = true)) (fun _ _ s => n - (intOf s).toNat)
  case atStart => exact ⟨0, rfl, rfl, Nat.zero_le _, hide fun i hi => absurd hi (Nat.not_lt_zero _)⟩
  case round =>
    obtain ⟨k, rfl, rfl, hk, HK⟩ := hrel
    by_cases hlt : k < n
    · obtain ⟨b, off, ai, ci, rfl, hb, r1, R1⟩ := H.out.at (i := k) (by rw [HN.out]; exact hlt)
      have j0 : (0 : Int) ≤ (k : Int) := by omega
      have j1 : (k : Int) < (n : Int) := by omega
      have HR := hide R1
      have HRB := hide (fun h => Nt.rowB_all (g := g) (r := C.getD k []) (n := n) h)
      have HRL := hide (fun h => Nt.rowB_len (g := g) (r := C.getD k []) (n := n) h)
      generalize hq : (C.getD k []).length = q at r1 HRB HRL
      have HQ := hide hq
      clear hq R1
      by_cases e : q = n
      · subst e
        have he : ((q : Int) != (q : Int)) = false := by simp
        cases hal : Pf.allB (C.getD k []) 0 g
        · have HAL := hide hal
          have H1 := hide (HNOT.out k hlt ((HRB.out rfl).trans hal))
          clear hal
          go_wp2_with fail
          refine (areb9_eqn HR HQ (by omega) HAL).mono ?_
          rintro e w1 ⟨rfl, hw1⟩
          obtain rfl : w = w1 := hw1.symm
          go_wp2_with fail
          go_ret
          exact ⟨ret_bool H1.out.symm, rfl⟩
        · have HAL := hide hal
          have H1 : Hid (∀ i, i < k + 1 → Nt.rowB g q (C.getD i []) = true) := hide fun i hi => by
            by_cases e : i = k
            · subst e; exact (HRB.out rfl).trans hal
            · exact HK.out i (by omega)
          clear hal
          go_wp2_with fail
          refine (areb9_eqn HR HQ (by omega) HAL).mono ?_
          rintro e w1 ⟨rfl, hw1⟩
          obtain rfl : w = w1 := hw1.symm
          go_wp2_with fail
          go_round
          case rel => exact ⟨k + 1, rfl, by go_num, by omega, H1⟩
          case measure => simp only [intOf]; omega
      · have he : ((q : Int) != (n : Int)) = true := by simp; omega
        have H1 := hide (HNOT.out k hlt (HRL.out e))
        clear e
        go_wp2_with fail
        go_ret
        exact ⟨ret_bool H1.out.symm, rfl⟩
    · have hke : k = n := by omega
      subst hke
      have H1 := hide (HOF.out HK.out)
      go_wp2_with fail
      go_ret
      exact ⟨ret_bool H1.out.symm, rfl⟩
theorem as_eq {a : Option Addr} {n c : Nat} {g : Int} {C : List (List Int)} {w : World} {r : Bool} (hn : Hid (C.length = n)) (hl : n ≤ 1048576) (h : Hid (CRow w a C)) (hr : Hid (Nt.sqB g C = r)) :
    Calls Try.prog 25 #[.slice a n c, .int .i64 g] w fun e w' => e = .returned (.bool r) ∧ w' = w := hr.out ▸ as_any hn.out hl h.out
end Go.Proofs.Ytlbfnlikjnopoaa
