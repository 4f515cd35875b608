/-
  What GoodCosts of the program and of the model answer.
-/
import Derived.Test.YtcniegaogdggaaaAs13
import Derived.Test.YtcniegaogdggaaaKc
namespace Go.Proofs.Ytcniegaogdggaaa
open Go.RowKit

theorem costB_few {c : List (List Int)} (h : ¬ (1 ≤ c.length ∧ c.length ≤ 10)) : Hu.costB c = false := by
  cases e : Hu.costB c
  · rfl
  · exact absurd (Hu.costB_len e) h
theorem rowB_len {n : Nat} {r : List Int} (h : r.length ≠ n) : Hu.rowB n r = false := by simp [Hu.rowB, h]
theorem rowB_all {n : Nat} {r : List Int} (h : r.length = n) : Hu.rowB n r = Pf.allB r 0 100 := by simp [Hu.rowB, h]
theorem costB_eq (C : List (List Int)) : Hu.costB C = (Pf.inB (C.length : Int) 1 10 && Nt.sqB 100 C) := by
  have e1 : (decide (1 ≤ C.length) && decide (C.length ≤ 10)) = Pf.inB (C.length : Int) 1 10 := by
    unfold Pf.inB
    congr 1 <;> exact decide_eq_decide.2 (by omega)
  have e2 : C.all (Hu.rowB C.length) = Nt.sqB 100 C := rfl
  rw [Hu.costB, e1, e2]
set_option maxHeartbeats 2000000 in
theorem gc_any {a : Option Addr} {n c : Nat} {C : List (List Int)} {w : World} (hn : C.length = n) (h : CRow w a C) :
    Calls Try.prog 12 #[.slice a n c] w fun e w' => e = .returned (.bool (Hu.costB C)) ∧ w' = w := by
  have HE := hide (costB_eq C)
  rw [hn] at HE
  cases hi : Pf.inB (n : Int) 1 10
  · have H1 : Hid (Hu.costB C = false) := hide (by rw [HE.out, hi]; rfl)
    generalize Hu.costB C = G at *
    clear h hn HE
    go_enter Try.func12, Try.ntmps12
    go_wp2_with fail
    refine (between_eq hi).mono ?_
    rintro e w1 ⟨rfl, hw1⟩
    obtain rfl : w = w1 := hw1.symm
    go_wp2_with fail
    go_ret
    exact ⟨ret_bool H1.out.symm, rfl⟩
  · have hl := Pf.inB_yes hi
    have H1 : Hid (Hu.costB C = Nt.sqB 100 C) := hide (by rw [HE.out, hi]; rfl)
    have HC := hide (as_any (c := c) (g := 100) hn (by omega) h)
    generalize Hu.costB C = G at *
    generalize Nt.sqB 100 C = Y at *
    clear h hn HE
    go_enter Try.func12, Try.ntmps12
    go_wp2_with fail
    refine (between_eq hi).mono ?_
    rintro e w1 ⟨rfl, hw1⟩
    obtain rfl : w = w1 := hw1.symm
    go_wp2_with fail
    refine HC.out.mono ?_
    rintro e w1 ⟨rfl, hw1⟩
    obtain rfl : w = w1 := hw1.symm
    go_wp2_with fail
    go_ret
    exact ⟨ret_bool H1.out.symm, rfl⟩
theorem gc_eq {a : Option Addr} {n c : Nat} {C : List (List Int)} {w : World} {r : Bool} (hn : Hid (C.length = n)) (h : Hid (CRow w a C)) (hr : Hid (Hu.costB C = r)) :
    Calls Try.prog 12 #[.slice a n c] w fun e w' => e = .returned (.bool r) ∧ w' = w := hr.out ▸ gc_any hn.out h.out
set_option maxHeartbeats 2000000 in
theorem sgc_any {a : Option Addr} {n c : Nat} {C : List (List Int)} {w : World} (hn : C.length = n) (hl : n ≤ 1048576) (h : CRow w a C) :
    Calls Try.prog 10 #[.slice a n c] w fun e w' => e = .returned (.bool (Hu.costB C)) ∧ w' = w := by
  have HN := hide hn
  have H := hide h
  have HNOT := hide fun (i : Nat) (hi : i < C.length) (hh : Hu.rowB C.length (C.getD i []) = false) => Hu.costB_not hi hh
  have HOF := hide (@Hu.costB_of C)
  have HFEW := hide (@costB_few C)
  rw [hn] at HNOT HOF HFEW
  generalize Hu.costB C = G at *
  clear h hn
  go_enter Try.func10, Try.ntmps10
  go_wp2_with fail
  go_loop [2, 4, 7] (fun s2 _ s => ∃ (k : Nat), s2 = .bool false ∧ s = .int .i64 k ∧ k ≤ n ∧ Hid (∀ i, i < k → Hu.rowB n (C.getD i []) = true)) (fun _ _ s => n - (intOf s).toNat)
  case atStart => exact ⟨0, rfl, rfl, Nat.zero_le _, hide fun i hi => absurd hi (Nat.not_lt_zero _)⟩
  case round =>
    obtain ⟨k, rfl, rfl, hk, HK⟩ := hrel
    by_cases hlt : k < n
    · obtain ⟨b, off, ai, ci, rfl, hb, r1, R1⟩ := H.out.at (i := k) (by rw [HN.out]; exact hlt)
      have j0 : (0 : Int) ≤ (k : Int) := by omega
      have j1 : (k : Int) < (n : Int) := by omega
      have HR := hide R1
      have HRB := hide (fun h => rowB_all (r := C.getD k []) (n := n) h)
      have HRL := hide (fun h => rowB_len (r := C.getD k []) (n := n) h)
      generalize hq : (C.getD k []).length = q at r1 HRB HRL
      have HQ := hide hq
      clear hq R1
      by_cases e : q = n
      · subst e
        have he : ((q : Int) != (q : Int)) = false := by simp
        cases hal : Pf.allB (C.getD k []) 0 100
        · have HAL := hide hal
          have H1 := hide (HNOT.out k hlt ((HRB.out rfl).trans hal))
          clear hal
          go_wp2_with fail
          refine (all9_eqn HR HQ (by omega) HAL).mono ?_
          rintro e w1 ⟨rfl, hw1⟩
          obtain rfl : w = w1 := hw1.symm
          go_wp2_with fail
          go_ret
          exact ⟨ret_bool H1.out.symm, rfl⟩
        · have HAL := hide hal
          have H1 : Hid (∀ i, i < k + 1 → Hu.rowB q (C.getD i []) = true) := hide fun i hi => by
            by_cases e : i = k
            · subst e; exact (HRB.out rfl).trans hal
            · exact HK.out i (by omega)
          clear hal
          go_wp2_with fail
          refine (all9_eqn HR HQ (by omega) HAL).mono ?_
          rintro e w1 ⟨rfl, hw1⟩
          obtain rfl : w = w1 := hw1.symm
          go_wp2_with fail
          go_round
          case rel => exact ⟨k + 1, rfl, by go_num, by omega, H1⟩
          case measure => simp only [intOf]; omega
      · have he : ((q : Int) != (n : Int)) = true := by simp; omega
        have H1 := hide (HNOT.out k hlt (HRL.out e))
        clear e
        go_wp2_with fail
        go_ret
        exact ⟨ret_bool H1.out.symm, rfl⟩
    · have hke : k = n := by omega
      subst hke
      by_cases h10 : 1 ≤ k ∧ k ≤ 10
      · have H1 := hide (HOF.out h10.1 h10.2 HK.out)
        obtain ⟨g1, g2⟩ := h10
        go_wp2_with fail
        refine (in_yes (by omega) (by omega)).mono ?_
        rintro e w1 ⟨rfl, hw1⟩
        obtain rfl : w = w1 := hw1.symm
        go_wp2_with fail
        go_ret
        exact ⟨ret_bool H1.out.symm, rfl⟩
      · have H1 := hide (HFEW.out h10)
        have g1 : (k : Int) < 1 ∨ (10 : Int) < (k : Int) := by omega
        have HG1 := hide g1
        clear g1 h10
        go_wp2_with fail
        refine (in_no HG1.out).mono ?_
        rintro e w1 ⟨rfl, hw1⟩
        obtain rfl : w = w1 := hw1.symm
        go_wp2_with fail
        go_ret
        exact ⟨ret_bool H1.out.symm, rfl⟩
theorem sgc_eq {a : Option Addr} {n c : Nat} {C : List (List Int)} {w : World} {r : Bool} (hn : Hid (C.length = n)) (hl : n ≤ 1048576) (h : Hid (CRow w a C)) (hr : Hid (Hu.costB C = r)) :
    Calls Try.prog 10 #[.slice a n c] w fun e w' => e = .returned (.bool r) ∧ w' = w := hr.out ▸ sgc_any hn.out hl h.out
end Go.Proofs.Ytcniegaogdggaaa
