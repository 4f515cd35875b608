/-
  What areHallRows, GoodNet, outLessIn and FlowValue of the program, l13Rows, GoodNet, l13Value and FlowValue of the model answer.
-/
import Derived.Test.YtlbfnlikjnopoaaFr13
import Derived.Test.YtlbfnlikjnopoaaFa13
namespace Go.Proofs.Ytlbfnlikjnopoaa
open Go.RowKit
open Bx (sumTo)

/-- One number of the rows, in memory. -/
theorem crow_at2 {w : World} {a : Option Addr} {C : List (List Int)} (h : CRow w a C) {n i k : Nat} (hn : C.length = n) (hr : Nt.rowsB C = true) (hi : i < n) (hk : k < n) :
    ∃ b off b' off' ci, a = some ⟨b, off, none⟩ ∧ w.cell? ⟨b, off + i, none⟩ = some (.slice (some ⟨b', off', none⟩) n ci) ∧ w.cell? ⟨b', off' + k, none⟩ = some (.int .i64 (Nt.at2 C i k)) := by
  obtain ⟨b, off, ai, ci, ha, _, h1, h2⟩ := h.at (i := i) (by omega)
  have hl := Nt.rowsB_row hr (i := i) (by omega)
  obtain ⟨b', off', e, h3⟩ := h2.at (i := k) (by omega)
  subst e
  rw [hl, hn] at h1
  exact ⟨b, off, b', off', ci, ha, h1, h3⟩
set_option maxHeartbeats 1000000 in
theorem ahr_any {a : Option Addr} {n c : Nat} {C : List (List Int)} {w : World} (hn : C.length = n) (h : CRow w a C) :
    Calls Try.prog 19 #[.slice a n c] w fun e w' => e = .returned (.bool (Nt.rowsB C)) ∧ w' = w := by
  have HE : Hid (Nt.rowsB C = (Pf.inB (n : Int) 2 8 && Nt.sqB 50 C)) := hide (by rw [Nt.rowsB, hn])
  cases hi : Pf.inB (n : Int) 2 8
  · have H1 : Hid (Nt.rowsB C = false) := hide (by rw [HE.out, hi]; rfl)
    generalize Nt.rowsB C = G at *
    clear h hn HE
    go_enter Try.func19, Try.ntmps19
    go_wp2_with fail
    refine (between_eq hi).mono ?_
    rintro e w1 ⟨rfl, hw1⟩
    obtain rfl : w = w1 := hw1.symm
    go_wp2_with fail
    go_ret
    exact ⟨ret_bool H1.out.symm, rfl⟩
  · have hl := Pf.inB_yes hi
    have H1 : Hid (Nt.rowsB C = Nt.sqB 50 C) := hide (by rw [HE.out, hi]; rfl)
    have HC := hide (as_any (c := c) (g := 50) hn (by omega) h)
    generalize Nt.rowsB C = G at *
    generalize Nt.sqB 50 C = Y at *
    clear h hn HE
    go_enter Try.func19, Try.ntmps19
    go_wp2_with fail
    refine (between_eq hi).mono ?_
    rintro e w1 ⟨rfl, hw1⟩
    obtain rfl : w = w1 := hw1.symm
    go_wp2_with fail
    refine HC.out.mono ?_
    rintro e w1 ⟨rfl, hw1⟩
    obtain rfl : w = w1 := hw1.symm
    go_wp2_with fail
    go_ret
    exact ⟨ret_bool H1.out.symm, rfl⟩
theorem ahr_eq {a : Option Addr} {n c : Nat} {C : List (List Int)} {w : World} {r : Bool} (hn : Hid (C.length = n)) (h : Hid (CRow w a C)) (hr : Hid (Nt.rowsB C = r)) :
    Calls Try.prog 19 #[.slice a n c] w fun e w' => e = .returned (.bool r) ∧ w' = w := hr.out ▸ ahr_any hn.out h.out
set_option maxHeartbeats 2000000 in
theorem slr_any {a : Option Addr} {n c : Nat} {C : List (List Int)} {w : World} (hn : C.length = n) (hl : n ≤ 1048576) (h : CRow w a C) :
    Calls Try.prog 18 #[.slice a n c] w fun e w' => e = .returned (.bool (Nt.rowsB C)) ∧ w' = w := by
  have HE : Hid (Nt.rowsB C = (Pf.inB (n : Int) 2 8 && Nt.sqB 50 C)) := hide (by rw [Nt.rowsB, hn])
  have HN := hide hn
  have H := hide h
  have HNOT := hide fun (i : Nat) (hi : i < C.length) (hh : Nt.rowB 50 C.length (C.getD i []) = false) => Nt.sqB_not hi hh
  have HOF := hide (@Nt.sqB_of 50 C)
  rw [hn] at HNOT HOF
  generalize Nt.rowsB C = G at *
  generalize Nt.sqB 50 C = Y at *
  clear h hn
  go_enter Try.func18, Try.ntmps18
  go_wp2_with fail
  go_loop [2, 4, 7] (fun s2 _ s => ∃ (k : Nat), s2 = .bool false ∧ s = .int .i64 k ∧ k ≤ n ∧ Hid (∀ i, i < k → Nt.rowB 50 n (C.getD i []) = true)) (fun _ _ s => n - (intOf s).toNat)
  case atStart => exact ⟨0, rfl, rfl, Nat.zero_le _, hide fun i hi => absurd hi (Nat.not_lt_zero _)⟩
  case round =>
    obtain ⟨k, rfl, rfl, hk, HK⟩ := hrel
    by_cases hlt : k < n
    · obtain ⟨b, off, ai, ci, rfl, hb, r1, R1⟩ := H.out.at (i := k) (by rw [HN.out]; exact hlt)
      have j0 : (0 : Int) ≤ (k : Int) := by omega
      have j1 : (k : Int) < (n : Int) := by omega
      have HR := hide R1
      have HRB := hide (fun h => Nt.rowB_all (g := 50) (r := C.getD k []) (n := n) h)
      have HRL := hide (fun h => Nt.rowB_len (g := 50) (r := C.getD k []) (n := n) h)
      generalize hq : (C.getD k []).length = q at r1 HRB HRL
      have HQ := hide hq
      clear hq R1
      by_cases e : q = n
      · subst e
        have he : ((q : Int) != (q : Int)) = false := by simp
        cases hal : Pf.allB (C.getD k []) 0 50
        · have HAL := hide hal
          have H1 : Hid (G = false) := hide (by rw [HE.out, HNOT.out k hlt ((HRB.out rfl).trans hal), Bool.and_false])
          clear hal
          go_wp2_with fail
          refine (all9_eqn HR HQ (by omega) HAL).mono ?_
          rintro e w1 ⟨rfl, hw1⟩
          obtain rfl : w = w1 := hw1.symm
          go_wp2_with fail
          go_ret
          exact ⟨ret_bool H1.out.symm, rfl⟩
        · have HAL := hide hal
          have H1 : Hid (∀ i, i < k + 1 → Nt.rowB 50 q (C.getD i []) = true) := hide fun i hi => by
            by_cases e : i = k
            · subst e; exact (HRB.out rfl).trans hal
            · exact HK.out i (by omega)
          clear hal
          go_wp2_with fail
          refine (all9_eqn HR HQ (by omega) HAL).mono ?_
          rintro e w1 ⟨rfl, hw1⟩
          obtain rfl : w = w1 := hw1.symm
          go_wp2_with fail
          go_round
          case rel => exact ⟨k + 1, rfl, by go_num, by omega, H1⟩
          case measure => simp only [intOf]; omega
      · have he : ((q : Int) != (n : Int)) = true := by simp; omega
        have H1 : Hid (G = false) := hide (by rw [HE.out, HNOT.out k hlt (HRL.out e), Bool.and_false])
        clear e
        go_wp2_with fail
        go_ret
        exact ⟨ret_bool H1.out.symm, rfl⟩
    · have hke : k = n := by omega
      subst hke
      have H1 : Hid (G = Pf.inB (k : Int) 2 8) := hide (by rw [HE.out, HOF.out HK.out, Bool.and_true])
      cases hi : Pf.inB (k : Int) 2 8
      · have hi' := hide (Pf.inB_no hi)
        go_wp2_with fail
        refine (in_no hi'.out).mono ?_
        rintro e w1 ⟨rfl, hw1⟩
        obtain rfl : w = w1 := hw1.symm
        go_wp2_with fail
        go_ret
        exact ⟨ret_bool (H1.out.trans hi).symm, rfl⟩
      · have hi' := Pf.inB_yes hi
        go_wp2_with fail
        refine (in_yes hi'.1 hi'.2).mono ?_
        rintro e w1 ⟨rfl, hw1⟩
        obtain rfl : w = w1 := hw1.symm
        go_wp2_with fail
        go_ret
        exact ⟨ret_bool (H1.out.trans hi).symm, rfl⟩
theorem slr_eq {a : Option Addr} {n c : Nat} {C : List (List Int)} {w : World} {r : Bool} (hn : Hid (C.length = n)) (hl : n ≤ 1048576) (h : Hid (CRow w a C)) (hr : Hid (Nt.rowsB C = r)) :
    Calls Try.prog 18 #[.slice a n c] w fun e w' => e = .returned (.bool r) ∧ w' = w := hr.out ▸ slr_any hn.out hl h.out
set_option maxHeartbeats 1000000 in
theorem gn_any {a : Option Addr} {n c : Nat} {C : List (List Int)} {w : World} (hn : C.length = n) (h : CRow w a C) :
    Calls Try.prog 15 #[.slice a n c] w fun e w' => e = .returned (.bool (Nt.netB C)) ∧ w' = w := by
  have HN := hide hn
  have H := hide h
  cases hr : Nt.rowsB C
  · have HR := hide hr
    have H1 := hide (Nt.netB_no hr)
    generalize Nt.netB C = G at *
    clear h hn hr
    go_enter Try.func15, Try.ntmps15
    go_wp2_with fail
    refine (ahr_eq HN H HR).mono ?_
    rintro e w1 ⟨rfl, hw1⟩
    obtain rfl : w = w1 := hw1.symm
    go_wp2_with fail
    go_ret
    exact ⟨ret_bool H1.out.symm, rfl⟩
  · have HR := hide hr
    have HNOT := hide fun (i : Nat) (hi : i < C.length) (hh : Nt.at2 C i i ≠ 0) => Nt.netB_not hi hh
    have HOF := hide fun h => Nt.netB_of hr h
    rw [hn] at HNOT HOF
    have h8 := Nt.rowsB_len hr
    rw [hn] at h8
    obtain ⟨h2, h8⟩ := h8
    generalize Nt.netB C = G at *
    clear h hn hr
    go_enter Try.func15, Try.ntmps15
    go_wp2_with fail
    refine (ahr_eq HN H HR).mono ?_
    rintro e w1 ⟨rfl, hw1⟩
    obtain rfl : w = w1 := hw1.symm
    go_wp2_with fail
    go_loop [2, 3, 4, 10] (fun s2 _ _ s => ∃ (k : Nat), s2 = .bool false ∧ s = .int .i64 k ∧ k ≤ n ∧ Hid (∀ i, i < k → Nt.at2 C i i = 0)) (fun _ _ _ s => n - (intOf s).toNat)
    case atStart => exact ⟨0, rfl, rfl, Nat.zero_le _, hide fun i hi => absurd hi (Nat.not_lt_zero _)⟩
    case round =>
      obtain ⟨k, rfl, rfl, hk, HK⟩ := hrel
      by_cases hlt : k < n
      · obtain ⟨b, off, b', off', ci, rfl, r1, r2⟩ := crow_at2 H.out HN.out HR.out hlt hlt
        have j0 : (0 : Int) ≤ (k : Int) := by omega
        have j1 : (k : Int) < (n : Int) := by omega
        have HNK := hide (HNOT.out k hlt)
        have HKK : Hid (Nt.at2 C k k = 0 → ∀ i, i < k + 1 → Nt.at2 C i i = 0) := hide fun h0 i hi => by
          by_cases e : i = k
          · subst e; exact h0
          · exact HK.out i (by omega)
        generalize Nt.at2 C k k = x at *
        by_cases e : x = 0
        · subst e
          have H1 := hide (HKK.out rfl)
          go_wp2_with fail
          go_round
          case rel => exact ⟨k + 1, rfl, by go_num, by omega, H1⟩
          case measure => simp only [intOf]; omega
        · have H1 := hide (HNK.out e)
          have he : (x != (0 : Int)) = true := by simpa using e
          clear e
          go_wp2_with fail
          go_ret
          exact ⟨ret_bool H1.out.symm, rfl⟩
      · have hke : k = n := by omega
        subst hke
        have H1 := hide (HOF.out HK.out)
        go_wp2_with fail
        go_ret
        exact ⟨ret_bool H1.out.symm, rfl⟩
theorem gn_eq {a : Option Addr} {n c : Nat} {C : List (List Int)} {w : World} {r : Bool} (hn : Hid (C.length = n)) (h : Hid (CRow w a C)) (hr : Hid (Nt.netB C = r)) :
    Calls Try.prog 15 #[.slice a n c] w fun e w' => e = .returned (.bool r) ∧ w' = w := hr.out ▸ gn_any hn.out h.out
set_option maxHeartbeats 1000000 in
theorem sgn_any {a : Option Addr} {n c : Nat} {C : List (List Int)} {w : World} (hn : C.length = n) (hl : n ≤ 1048576) (h : CRow w a C) :
    Calls Try.prog 12 #[.slice a n c] w fun e w' => e = .returned (.bool (Nt.netB C)) ∧ w' = w := by
  have HN := hide hn
  have H := hide h
  cases hr : Nt.rowsB C
  · have HR := hide hr
    have H1 := hide (Nt.netB_no hr)
    generalize Nt.netB C = G at *
    clear h hn hr
    go_enter Try.func12, Try.ntmps12
    go_wp2_with fail
    refine (slr_eq HN hl H HR).mono ?_
    rintro e w1 ⟨rfl, hw1⟩
    obtain rfl : w = w1 := hw1.symm
    go_wp2_with fail
    go_ret
    exact ⟨ret_bool H1.out.symm, rfl⟩
  · have HR := hide hr
    have HNOT := hide fun (i : Nat) (hi : i < C.length) (hh : Nt.at2 C i i ≠ 0) => Nt.netB_not hi hh
    have HOF := hide fun h => Nt.netB_of hr h
    rw [hn] at HNOT HOF
    have h8 := Nt.rowsB_len hr
    rw [hn] at h8
    obtain ⟨h2, h8⟩ := h8
    generalize Nt.netB C = G at *
    clear h hn hr
    go_enter Try.func12, Try.ntmps12
    go_wp2_with fail
    refine (slr_eq HN hl H HR).mono ?_
    rintro e w1 ⟨rfl, hw1⟩
    obtain rfl : w = w1 := hw1.symm
    go_wp2_with fail
    go_loop [2, 3, 9] (fun s2 _ s => ∃ (k : Nat), s2 = .bool false ∧ s = .int .i64 k ∧ k ≤ n ∧ Hid (∀ i, i < k → Nt.at2 C i i = 0)) (fun _ _ s => n - (intOf s).toNat)
    case atStart => exact ⟨0, rfl, rfl, Nat.zero_le _, hide fun i hi => absurd hi (Nat.not_lt_zero _)⟩
    case round =>
      obtain ⟨k, rfl, rfl, hk, HK⟩ := hrel
      by_cases hlt : k < n
      · obtain ⟨b, off, b', off', ci, rfl, r1, r2⟩ := crow_at2 H.out HN.out HR.out hlt hlt
        have j0 : (0 : Int) ≤ (k : Int) := by omega
        have j1 : (k : Int) < (n : Int) := by omega
        have HNK := hide (HNOT.out k hlt)
        have HKK : Hid (Nt.at2 C k k = 0 → ∀ i, i < k + 1 → Nt.at2 C i i = 0) := hide fun h0 i hi => by
          by_cases e : i = k
          · subst e; exact h0
          · exact HK.out i (by omega)
        generalize Nt.at2 C k k = x at *
        by_cases e : x = 0
        · subst e
          have H1 := hide (HKK.out rfl)
          go_wp2_with fail
          go_round
          case rel => exact ⟨k + 1, rfl, by go_num, by omega, H1⟩
          case measure => simp only [intOf]; omega
        · have H1 := hide (HNK.out e)
          have he : (x != (0 : Int)) = true := by simpa using e
          clear e
          go_wp2_with fail
          go_ret
          exact ⟨ret_bool H1.out.symm, rfl⟩
      · have hke : k = n := by omega
        subst hke
        have H1 := hide (HOF.out HK.out)
        go_wp2_with fail
        go_ret
        exact ⟨ret_bool H1.out.symm, rfl⟩
theorem sgn_eq {a : Option Addr} {n c : Nat} {C : List (List Int)} {w : World} {r : Bool} (hn : Hid (C.length = n)) (hl : n ≤ 1048576) (h : Hid (CRow w a C)) (hr : Hid (Nt.netB C = r)) :
    Calls Try.prog 12 #[.slice a n c] w fun e w' => e = .returned (.bool r) ∧ w' = w := hr.out ▸ sgn_any hn.out hl h.out
end Go.Proofs.Ytlbfnlikjnopoaa
