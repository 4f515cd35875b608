/-
  What areHallRows, GoodNet, outLessIn and FlowValue of the program, l13Rows, GoodNet, l13Value and FlowValue of the model answer.
-/
import Derived.Test.YtdpjkblondoimaaFr13
import Derived.Test.YtdpjkblondoimaaFa13
namespace Go.Proofs.Ytdpjkblondoimaa
open Go.RowKit
open Bx (sumTo)

/-- One number of the rows, in memory. -/
theorem crow_at2 {w : World} {a : Option Addr} {C : List (List Int)} (h : CRow w a C) {n i k : Nat} (hn : C.length = n) (hr : Nt.rowsB C = true) (hi : i < n) (hk : k < n) :
    ∃ b off b' off' ci, a = some ⟨b, off, none⟩ ∧ w.cell? ⟨b, off + i, none⟩ = some (.slice (some ⟨b', off', none⟩) n ci) ∧ w.cell? ⟨b', off' + k, none⟩ = some (.int .i64 (Nt.at2 C i k)) := by
  obtain ⟨b, off, ai, ci, ha, _, h1, h2⟩ := h.at (i := i) (by omega)
  have hl := Nt.rowsB_row hr (i := i) (by omega)
  obtain ⟨b', off', e, h3⟩ := h2.at (i := k) (by omega)
  subst e
  rw [hl, hn] at h1
  exact ⟨b, off, b', off', ci, ha, h1, h3⟩
set_option maxHeartbeats 1000000 in
theorem ahr_any {a : Option Addr} {n c : Nat} {C : List (List Int)} {w : World} (hn : C.length = n) (h : CRow w a C) :
    Calls Try.prog 32 #[.slice a n c] w fun e w' => e = .returned (.bool (Nt.rowsB C)) ∧ w' = w := by
  have HE : Hid (Nt.rowsB C = (Pf.inB (n : Int) 2 8 && Nt.sqB 50 C)) := hide (by rw [Nt.rowsB, hn])
  cases hi : Pf.inB (n : Int) 2 8
  · have H1 : Hid (Nt.rowsB C = false) := hide (by rw [HE.out, hi]; rfl)
    generalize Nt.rowsB C = G at *
    clear h hn HE
    go_enter Try.func32, Try.ntmps32
    go_wp2_with fail
    refine (between_eq hi).mono ?_
    rintro e w1 ⟨rfl, hw1⟩
    obtain rfl : w = w1 := hw1.symm
    go_wp2_with fail
    go_ret
    exact ⟨ret_bool H1.out.symm, rfl⟩
  · have hl := Pf.inB_yes hi
    have H1 : Hid (Nt.rowsB C = Nt.sqB 50 C) := hide (by rw [HE.out, hi]; rfl)
    have HC := hide (as_any (c := c) (g := 50) hn (by omega) h)
    generalize Nt.rowsB C = G at *
    generalize Nt.sqB 50 C = Y at *
    clear h hn HE
    go_enter Try.func32, Try.ntmps32
    go_wp2_with fail
    refine (between_eq hi).mono ?_
    rintro e w1 ⟨rfl, hw1⟩
    obtain rfl : w = w1 := hw1.symm
    go_wp2_with fail
    refine HC.out.mono ?_
    rintro e w1 ⟨rfl, hw1⟩
    obtain rfl : w = w1 := hw1.symm
    go_wp2_with fail
    go_ret
    exact ⟨ret_bool H1.out.symm, rfl⟩
theorem ahr_eq {a : Option Addr} {n c : Nat} {C : List (List Int)} {w : World} {r : Bool} (hn : Hid (C.length = n)) (h : Hid (CRow w a C)) (hr : Hid (Nt.rowsB C = r)) :
    Calls Try.prog 32 #[.slice a n c] w fun e w' => e = .returned (.bool r) ∧ w' = w := hr.out ▸ ahr_any hn.out h.out
set_option maxHeartbeats 2000000 in
theorem slr_any {a : Option Addr} {n c : Nat} {C : List (List Int)} {w : World} (hn : C.length = n) (hl : n ≤ 1048576) (h : CRow w a C) :
    Calls Try.prog 31 #[.slice a n c] w fun e w' => e = .returned (.bool (Nt.rowsB C)) ∧ w' = w := by
  have HE : Hid (Nt.rowsB C = (Pf.inB (n : Int) 2 8 && Nt.sqB 50 C)) := hide (by rw [Nt.rowsB, hn])
  have HN := hide hn
  have H := hide h
  have HNOT := hide fun (i : Nat) (hi : i < C.length) (hh : Nt.rowB 50 C.length (C.getD i []) = false) => Nt.sqB_not hi hh
  have HOF := hide (@Nt.sqB_of 50 C)
  rw [hn] at HNOT HOF
  generalize Nt.rowsB C = G at *
  generalize Nt.sqB 50 C = Y at *
  clear h hn
  go_enter Try.func31, Try.ntmps31
  go_wp2_with fail
  go_loop [2, 4, 7] (fun s2 _ s => ∃ (k : Nat), s2 = .bool false ∧ s = .int .i64 k ∧ k ≤ n ∧ Hid (∀ i, i < k → Nt.rowB 50 n (C.getD i []) = true)) (fun _ _ s => n - (intOf s).toNat)
  case atStart => exact ⟨0, rfl, rfl, Nat.zero_le _, hide fun i hi => absurd hi (Nat.not_lt_zero _)⟩
  case round =>
    obtain ⟨k, rfl, rfl, hk, HK⟩ := hrel
    by_cases hlt : k < n
    · obtain ⟨b, off, ai, ci, rfl, hb, r1, R1⟩ := H.out.at (i := k) (by rw [HN.out]; exact hlt)
      have j0 : (0 : Int) ≤ (k : Int) := by omega
      have j1 : (k : Int) < (n : Int) := by omega
      have HR := hide R1
      have HRB := hide (fun h => Nt.rowB_all (g := 50) (r := C.getD k []) (n := n) h)
      have HRL := hide (fun h => Nt.rowB_len (g := 50) (r := C.getD k []) (n := n) h)
      generalize hq : (C.getD k []).length = q at r1 HRB HRL
      have HQ := hide hq
      clear hq R1
      by_cases e : q = n
      · subst e
        have he : ((q : Int) != (q : Int)) = false := by simp
        cases hal : Pf.allB (C.getD k []) 0 50
        · have HAL := hide hal
          have H1 : Hid (G = false) := hide (by rw [HE.out, HNOT.out k hlt ((HRB.out rfl).trans hal), Bool.and_false])
          clear hal
          go_wp2_with fail
          refine (all9_eqn HR HQ (by omega) HAL).mono ?_
          rintro e w1 ⟨rfl, hw1⟩
          obtain rfl : w = w1 := hw1.symm
          go_wp2_with fail
          go_ret
          exact ⟨ret_bool H1.out.symm, rfl⟩
        · have HAL := hide hal
          have H1 : Hid (∀ i, i < k + 1 → Nt.rowB 50 q (C.getD i []) = true) := hide fun i hi => by
            by_cases e : i = k
            · subst e; exact (HRB.out rfl).trans hal
            · exact HK.out i (by omega)
          clear hal
          go_wp2_with fail
          refine (all9_eqn HR HQ (by omega) HAL).mono ?_
          rintro e w1 ⟨rfl, hw1⟩
          obtain rfl : w = w1 := hw1.symm
          go_wp2_with fail
          go_round
          case rel => exact ⟨k + 1, rfl, by go_num, by omega, H1⟩
          case measure => simp only [intOf]; omega
      · have he : ((q : Int) != (n : Int)) = true := by simp; omega
        have H1 : Hid (G = false) := hide (by rw [HE.out, HNOT.out k hlt (HRL.out e), Bool.and_false])
        clear e
        go_wp2_with fail
        go_ret
        exact ⟨ret_bool H1.out.symm, rfl⟩
    · have hke : k = n := by omega
      subst hke
      have H1 : Hid (G = Pf.inB (k : Int) 2 8) := hide (by rw [HE.out, HOF.out HK.out, Bool.and_true])
      cases hi : Pf.inB (k : Int) 2 8
      · have hi' := hide (Pf.inB_no hi)
        go_wp2_with fail
        refine (in_no hi'.out).mono ?_
        rintro e w1 ⟨rfl, hw1⟩
        obtain rfl : w = w1 := hw1.symm
        go_wp2_with fail
        go_ret
        exact ⟨ret_bool (H1.out.trans hi).symm, rfl⟩
      · have hi' := Pf.inB_yes hi
        go_wp2_with fail
        refine (in_yes hi'.1 hi'.2).mono ?_
        rintro e w1 ⟨rfl, hw1⟩
        obtain rfl : w = w1 := hw1.symm
        go_wp2_with fail
        go_ret
        exact ⟨ret_bool (H1.out.trans hi).symm, rfl⟩
theorem slr_eq {a : Option Addr} {n c : Nat} {C : List (List Int)} {w : World} {r : Bool} (hn : Hid (C.length = n)) (hl : n ≤ 1048576) (h : Hid (CRow w a C)) (hr : Hid (Nt.rowsB C = r)) :
    Calls Try.prog 31 #[.slice a n c] w fun e w' => e = .returned (.bool r) ∧ w' = w := hr.out ▸ slr_any hn.out hl h.out
set_option maxHeartbeats 1000000 in
theorem gn_any {a : Option Addr} {n c : Nat} {C : List (List Int)} {w : World} (hn : C.length = n) (h : CRow w a C) :
    Calls Try.prog 12 #[.slice a n c] w fun e w' => e = .returned (.bool (Nt.netB C)) ∧ w' = w := by
  have HN := hide hn
  have H := hide h
  cases hr : Nt.rowsB C
  · have HR := hide hr
    have H1 := hide (Nt.netB_no hr)
    generalize Nt.netB C = G at *
    clear h hn hr
    go_enter Try.func12, Try.ntmps12
    go_wp2_with fail
    refine (ahr_eq HN H HR).mono ?_
    rintro e w1 ⟨rfl, hw1⟩
    obtain rfl : w = w1 := hw1.symm
    go_wp2_with fail
    go_ret
    exact ⟨ret_bool H1.out.symm, rfl⟩
  · have HR := hide hr
    have HNOT := hide fun (i : Nat) (hi : i < C.length) (hh : Nt.at2 C i i ≠ 0) => Nt.netB_not hi hh
    have HOF := hide fun h => Nt.netB_of hr h
    rw [hn] at HNOT HOF
    have h8 := Nt.rowsB_len hr
    rw [hn] at h8
    obtain ⟨h2, h8⟩ := h8
    generalize Nt.netB C = G at *
    clear h hn hr
    go_enter Try.func12, Try.ntmps12
    go_wp2_with fail
    refine (ahr_eq HN H HR).mono ?_
    rintro e w1 ⟨rfl, hw1⟩
    obtain rfl : w = w1 := hw1.symm
    go_wp2_with fail
    go_loop [2, 3, 4, 10] (fun s2 _ _ s => ∃ (k : Nat), s2 = .bool false ∧ s = .int .i64 k ∧ k ≤ n ∧ Hid (∀ i, i < k → Nt.at2 C i i = 0)) (fun _ _ _ s => n - (intOf s).toNat)
    case atStart => exact ⟨0, rfl, rfl, Nat.zero_le _, hide fun i hi => absurd hi (Nat.not_lt_zero _)⟩
    case round =>
      obtain ⟨k, rfl, rfl, hk, HK⟩ := hrel
      by_cases hlt : k < n
      · obtain ⟨b, off, b', off', ci, rfl, r1, r2⟩ := crow_at2 H.out HN.out HR.out hlt hlt
        have j0 : (0 : Int) ≤ (k : Int) := by omega
        have j1 : (k : Int) < (n : Int) := by omega
        have HNK := hide (HNOT.out k hlt)
        have HKK : Hid (Nt.at2 C k k = 0 → ∀ i, i < k + 1 → Nt.at2 C i i = 0) := hide fun h0 i hi => by
          by_cases e : i = k
          · subst e; exact h0
          · exact HK.out i (by omega)
        generalize Nt.at2 C k k = x at *
        by_cases e : x = 0
        · subst e
          have H1 := hide (HKK.out rfl)
          go_wp2_with fail
          go_round
          case rel => exact ⟨k + 1, rfl, by go_num, by omega, H1⟩
          case measure => simp only [intOf]; omega
        · have H1 := hide (HNK.out e)
          have he : (x != (0 : Int)) = true := by simpa using e
          clear e
          go_wp2_with fail
          go_ret
          exact ⟨ret_bool H1.out.symm, rfl⟩
      · have hke : k = n := by omega
        subst hke
        have H1 := hide (HOF.out HK.out)
        go_wp2_with fail
        go_ret
        exact ⟨ret_bool H1.out.symm, rfl⟩
theorem gn_eq {a : Option Addr} {n c : Nat} {C : List (List Int)} {w : World} {r : Bool} (hn : Hid (C.length = n)) (h : Hid (CRow w a C)) (hr : Hid (Nt.netB C = r)) :
    Calls Try.prog 12 #[.slice a n c] w fun e w' => e = .returned (.bool r) ∧ w' = w := hr.out ▸ gn_any hn.out h.out
set_option maxHeartbeats 1000000 in
theorem sgn_any {a : Option Addr} {n c : Nat} {C : List (List Int)} {w : World} (hn : C.length = n) (hl : n ≤ 1048576) (h : CRow w a C) :
    Calls Try.prog 10 #[.slice a n c] w fun e w' => e = .returned (.bool (Nt.netB C)) ∧ w' = w := by
  have HN := hide hn
  have H := hide h
  cases hr : Nt.rowsB C
  · have HR := hide hr
    have H1 := hide (Nt.netB_no hr)
    generalize Nt.netB C = G at *
    clear h hn hr
    go_enter Try.func10, Try.ntmps10
    go_wp2_with fail
    refine (slr_eq HN hl H HR).mono ?_
    rintro e w1 ⟨rfl, hw1⟩
    obtain rfl : w = w1 := hw1.symm
    go_wp2_with fail
    go_ret
    exact ⟨ret_bool H1.out.symm, rfl⟩
  · have HR := hide hr
    have HNOT := hide fun (i : Nat) (hi : i < C.length) (hh : Nt.at2 C i i ≠ 0) => Nt.netB_not hi hh
    have HOF := hide fun h => Nt.netB_of hr h
    rw [hn] at HNOT HOF
    have h8 := Nt.rowsB_len hr
    rw [hn] at h8
    obtain ⟨h2, h8⟩ := h8
    generalize Nt.netB C = G at *
    clear h hn hr
    go_enter Try.func10, Try.ntmps10
    go_wp2_with fail
    refine (slr_eq HN hl H HR).mono ?_
    rintro e w1 ⟨rfl, hw1⟩
    obtain rfl : w = w1 := hw1.symm
    go_wp2_with fail
    go_loop [2, 3, 9] (fun s2 _ s => ∃ (k : Nat), s2 = .bool false ∧ s = .int .i64 k ∧ k ≤ n ∧ Hid (∀ i, i < k → Nt.at2 C i i = 0)) (fun _ _ s => n - (intOf s).toNat)
    case atStart => exact ⟨0, rfl, rfl, Nat.zero_le _, hide fun i hi => absurd hi (Nat.not_lt_zero _)⟩
    case round =>
      obtain ⟨k, rfl, rfl, hk, HK⟩ := hrel
      by_cases hlt : k < n
      · obtain ⟨b, off, b', off', ci, rfl, r1, r2⟩ := crow_at2 H.out HN.out HR.out hlt hlt
        have j0 : (0 : Int) ≤ (k : Int) := by omega
        have j1 : (k : Int) < (n : Int) := by omega
        have HNK := hide (HNOT.out k hlt)
        have HKK : Hid (Nt.at2 C k k = 0 → ∀ i, i < k + 1 → Nt.at2 C i i = 0) := hide fun h0 i hi => by
          by_cases e : i = k
          · subst e; exact h0
          · exact HK.out i (by omega)
        generalize Nt.at2 C k k = x at *
        by_cases e : x = 0
        · subst e
          have H1 := hide (HKK.out rfl)
          go_wp2_with fail
          go_round
          case rel => exact ⟨k + 1, rfl, by go_num, by omega, H1⟩
          case measure => simp only [intOf]; omega
        · have H1 := hide (HNK.out e)
          have he : (x != (0 : Int)) = true := by simpa using e
          clear e
          go_wp2_with fail
          go_ret
          exact ⟨ret_bool H1.out.symm, rfl⟩
      · have hke : k = n := by omega
        subst hke
        have H1 := hide (HOF.out HK.out)
        go_wp2_with fail
        go_ret
        exact ⟨ret_bool H1.out.symm, rfl⟩
theorem sgn_eq {a : Option Addr} {n c : Nat} {C : List (List Int)} {w : World} {r : Bool} (hn : Hid (C.length = n)) (hl : n ≤ 1048576) (h : Hid (CRow w a C)) (hr : Hid (Nt.netB C = r)) :
    Calls Try.prog 10 #[.slice a n c] w fun e w' => e = .returned (.bool r) ∧ w' = w := hr.out ▸ sgn_any hn.out hl h.out
theorem isum13 {a : Option Addr} {n c : Nat} {xs : List Int} {w : World} {S : Int} (hx : Hid (xs.length = n)) (hn : n ≤ 8) (ha : Hid (ARow w a xs)) (hg : Hid (Pf.allB xs 0 50 = true)) (hs : Hid (xs.sum = S)) :
    Calls Try.prog 57 #[.slice a n c] w fun e w' => e = .returned (.int .i64 S) ∧ w' = w := by
  have h1 := hx.out
  have h2 := hs.out
  subst h1 h2
  exact isum_any ha.out (by omega) (Pf.allB_of fun i hi => by have := Pf.inB_yes (Pf.allB_get hg.out hi); exact Pf.inB_of (by omega) (by omega))
set_option maxHeartbeats 1000000 in
theorem oli_any {a : Option Addr} {n c h : Nat} {C : List (List Int)} {w : World} (HN : Hid (C.length = n)) (hh : h < n) (HR : Hid (Nt.rowsB C = true)) (H : Hid (CRow w a C)) :
    Calls Try.prog 36 #[.slice a n c, .int .i64 (h : Int)] w fun e w' => e = .returned (.int .i64 (Nt.outI C h)) ∧ w' = w := by
  have h8 := Nt.rowsB_len HR.out
  rw [HN.out] at h8
  obtain ⟨h2, h8⟩ := h8
  have hrow := Nt.sqB_row (Nt.rowsB_sq HR.out) (i := h) (by rw [HN.out]; exact hh)
  have HE := hide (Nt.out_eq (c := C) (h := h) hrow.1)
  obtain ⟨b, off, ai, ci, rfl, hb, r1, R1⟩ := H.out.at (i := h) (by rw [HN.out]; exact hh)
  have HL : Hid ((C.getD h []).length = n) := hide (hrow.1.trans HN.out)
  have HAl := hide hrow.2
  have HR1 := hide R1
  have hS : 0 ≤ (C.getD h []).sum ∧ (C.getD h []).sum ≤ 400 := by
    have e1 := Nt.sum_list (C.getD h [])
    have e2 := Nt.sumTo_bd (f := fun k => (C.getD h []).getD k 0) (lo := 0) (hi := 50) n fun i hi => Pf.inB_yes (Pf.allB_get HAl.out (i := i) (by rw [HL.out]; exact hi))
    rw [HL.out] at e1
    rw [e1]
    omega
  obtain ⟨S, eS⟩ : ∃ S, (C.getD h []).sum = S := ⟨_, rfl⟩
  have HS := hide eS
  rw [eS] at HE hS
  obtain ⟨S0, S1⟩ := hS
  rw [HL.out] at r1
  rw [HN.out] at HE
  clear hrow R1 eS
  generalize Nt.outI C h = G at *
  have j0 : (0 : Int) ≤ (h : Int) := by omega
  have j1 : (h : Int) < (n : Int) := by omega
  go_enter Try.func36, Try.ntmps36
  go_wp2_with fail
  refine (isum13 HL h8 HR1 HAl HS).mono ?_
  rintro e w1 ⟨rfl, hw1⟩
  obtain rfl : w = w1 := hw1.symm
  go_wp2_with fail
  go_loop [5, 7, 15] (fun s5 _ s => ∃ (k : Nat) (x : Int), s5 = .int .i64 x ∧ s = .int .i64 k ∧ k ≤ n ∧ Hid (x = S - sumTo (fun k => Nt.at2 C k h) k)) (fun _ _ s => n - (intOf s).toNat)
  case atStart => exact ⟨0, S, rfl, rfl, Nat.zero_le _, hide (by simp [sumTo])⟩
  case round =>
    obtain ⟨k, x, rfl, rfl, hk, HX⟩ := hrel
    by_cases hlt : k < n
    · obtain ⟨b1, off1, b', off', ci', e1, r2, r3⟩ := crow_at2 H.out HN.out HR.out hlt hh
      cases e1
      have k0 : (0 : Int) ≤ (k : Int) := by omega
      have k1 : (k : Int) < (n : Int) := by omega
      have hbd := Nt.rowsB_bd HR.out (i := k) (k := h) (by rw [HN.out]; exact hlt) (by rw [HN.out]; exact hh)
      have hs := Nt.sumTo_bd (f := fun k => Nt.at2 C k h) (lo := 0) (hi := 50) k fun i hi => Nt.rowsB_bd HR.out (i := i) (k := h) (by rw [HN.out]; omega) (by rw [HN.out]; exact hh)
      have hx := HX.out
      have H1 : Hid (x - Nt.at2 C k h = S - sumTo (fun k => Nt.at2 C k h) (k + 1)) := hide (by rw [HX.out]; simp only [sumTo]; omega)
      generalize sumTo (fun k => Nt.at2 C k h) k = Z at hs hx
      generalize Nt.at2 C k h = y at *
      have x0 : -1000 ≤ x := by omega
      have x1 : x ≤ 1000 := by omega
      obtain ⟨y0, y1⟩ := hbd
      clear hs hx
      go_wp2_with fail
      go_round
      case rel => exact ⟨k + 1, x - y, by go_num, by go_num, by omega, H1⟩
      case measure => simp only [intOf]; omega
    · have hke : k = n := by omega
      subst hke
      have H1 : Hid (G = x) := hide (by rw [HX.out]; exact HE.out)
      go_wp2_with fail
      go_ret
      exact ⟨ret_int H1.out.symm, rfl⟩
set_option maxHeartbeats 1000000 in
theorem fv_any {a : Option Addr} {n c : Nat} {C : List (List Int)} {w : World} (hn : C.length = n) (h : CRow w a C) :
    Calls Try.prog 21 #[.slice a n c] w fun e w' => e = .returned (.tuple #[.int .i64 (Nt.fvI C), .bool (Nt.rowsB C)]) ∧ w' = w := by
  have HN := hide hn
  have H := hide h
  cases hr : Nt.rowsB C
  · have HR := hide hr
    have e0 : Nt.fvI C = 0 := by simp [Nt.fvI, hr]
    rw [e0]
    clear h hn hr e0
    go_enter Try.func21, Try.ntmps21
    go_wp2_with fail
    refine (ahr_eq HN H HR).mono ?_
    rintro e w1 ⟨rfl, hw1⟩
    obtain rfl : w = w1 := hw1.symm
    go_wp2_with fail
    go_ret2
    exact ⟨rfl, rfl⟩
  · have HR := hide hr
    have e0 : Nt.fvI C = Nt.outI C 0 := by simp [Nt.fvI, hr]
    rw [e0]
    have h8 := Nt.rowsB_len hr
    rw [hn] at h8
    have HC := hide (oli_any (c := c) (h := 0) HN (by omega) HR H)
    generalize Nt.outI C 0 = G at *
    clear h hn hr e0
    go_enter Try.func21, Try.ntmps21
    go_wp2_with fail
    refine (ahr_eq HN H HR).mono ?_
    rintro e w1 ⟨rfl, hw1⟩
    obtain rfl : w = w1 := hw1.symm
    go_wp2_with fail
    refine HC.out.mono ?_
    rintro e w1 ⟨rfl, hw1⟩
    obtain rfl : w = w1 := hw1.symm
    go_wp2_with fail
    go_ret2
    exact ⟨rfl, rfl⟩
set_option maxHeartbeats 1000000 in
theorem slv_any {a : Option Addr} {n c : Nat} {C : List (List Int)} {w : World} (HN : Hid (C.length = n)) (HR : Hid (Nt.rowsB C = true)) (H : Hid (CRow w a C)) :
    Calls Try.prog 34 #[.slice a n c] w fun e w' => e = .returned (.int .i64 (Nt.outI C 0)) ∧ Below w.heap.size w w' := by
  have h8 := Nt.rowsB_len HR.out
  rw [HN.out] at h8
  obtain ⟨h2, h8⟩ := h8
  have HE : Hid (Nt.outI C 0 = sumTo (fun k => Nt.at2 C 0 k - Nt.at2 C k 0) n) := hide (by rw [Nt.outI, Fl.ex, HN.out])
  generalize Nt.outI C 0 = G at *
  go_enter Try.func34, Try.ntmps34
  go_wp2_with fail
  go_loopw [3, 4, 7] (fun s3 _ s wr => ∃ (k : Nat) (x : Int), s3 = .int .i64 x ∧ s = .int .i64 k ∧ k ≤ n ∧ Hid (x = sumTo (fun k => Nt.at2 C 0 k - Nt.at2 C k 0) k) ∧ Hid (Below w.heap.size w wr)) (fun _ _ s _ => n - (intOf s).toNat)
  case atStart => exact ⟨0, 0, rfl, rfl, Nat.zero_le _, hide (by simp [sumTo]), hide (Below.refl _ _)⟩
  case round =>
    obtain ⟨k, x, rfl, rfl, hk, HX, HB⟩ := hrel
    by_cases hlt : k < n
    · obtain ⟨b, off, b', off', ci, rfl, r1, r2⟩ := crow_at2 (H.out.below HB.out) HN.out HR.out (show 0 < n by omega) hlt
      obtain ⟨b1, off1, b2, off2, ci', e1, r3, r4⟩ := crow_at2 (H.out.below HB.out) HN.out HR.out hlt (show 0 < n by omega)
      cases e1
      have k0 : (0 : Int) ≤ (k : Int) := by omega
      have k1 : (k : Int) < (n : Int) := by omega
      have n0 : (0 : Int) < (n : Int) := by omega
      have hb1 := Nt.rowsB_bd HR.out (i := 0) (k := k) (by rw [HN.out]; omega) (by rw [HN.out]; exact hlt)
      have hb2 := Nt.rowsB_bd HR.out (i := k) (k := 0) (by rw [HN.out]; exact hlt) (by rw [HN.out]; omega)
      have hs := Nt.sumTo_bd (f := fun k => Nt.at2 C 0 k - Nt.at2 C k 0) (lo := -50) (hi := 50) k fun i hi => by
        have h1 := Nt.rowsB_bd HR.out (i := 0) (k := i) (by rw [HN.out]; omega) (by rw [HN.out]; omega)
        have h2 := Nt.rowsB_bd HR.out (i := i) (k := 0) (by rw [HN.out]; omega) (by rw [HN.out]; omega)
        constructor <;> omega
      have hx := HX.out
      have H1 : Hid (x + (Nt.at2 C 0 k - Nt.at2 C k 0) = sumTo (fun k => Nt.at2 C 0 k - Nt.at2 C k 0) (k + 1)) := hide (by rw [HX.out]; simp only [sumTo])
      generalize sumTo (fun k => Nt.at2 C 0 k - Nt.at2 C k 0) k = Z at hs hx
      generalize Nt.at2 C 0 k = y at *
      generalize Nt.at2 C k 0 = z at *
      have x0 : -1000 ≤ x := by omega
      have x1 : x ≤ 1000 := by omega
      obtain ⟨y0, y1⟩ := hb1
      obtain ⟨z0, z1⟩ := hb2
      rw [Nat.add_zero] at r1 r4
      clear hs hx
      go_wp2_with fail
      go_quiet (fail)
      go_wp2_with fail
      go_roundw
      case rel => exact ⟨k + 1, x + (y - z), by go_num, by go_num, by omega, H1, hide (below_drewN HB.out _)⟩
      case measure => simp only [intOf]; omega
    · have hke : k = n := by omega
      subst hke
      have H1 : Hid (G = x) := hide (by rw [HX.out]; exact HE.out)
      go_wp2_with fail
      go_ret
      exact ⟨ret_int H1.out.symm, HB.out⟩
set_option maxHeartbeats 1000000 in
theorem sfv_any {a : Option Addr} {n c : Nat} {C : List (List Int)} {w : World} (hn : C.length = n) (hl : n ≤ 1048576) (h : CRow w a C) :
    Calls Try.prog 20 #[.slice a n c] w fun e w' => e = .returned (.tuple #[.int .i64 (Nt.fvI C), .bool (Nt.rowsB C)]) ∧ Below w.heap.size w w' := by
  have HN := hide hn
  have H := hide h
  cases hr : Nt.rowsB C
  · have HR := hide hr
    have e0 : Nt.fvI C = 0 := by simp [Nt.fvI, hr]
    rw [e0]
    clear h hn hr e0
    go_enter Try.func20, Try.ntmps20
    go_wp2_with fail
    refine (slr_eq HN hl H HR).mono ?_
    rintro e w1 ⟨rfl, hw1⟩
    obtain rfl : w = w1 := hw1.symm
    go_wp2_with fail
    go_ret2
    exact ⟨rfl, Below.refl _ _⟩
  · have HR := hide hr
    have e0 : Nt.fvI C = Nt.outI C 0 := by simp [Nt.fvI, hr]
    rw [e0]
    have HC := hide (slv_any (c := c) HN HR H)
    generalize Nt.outI C 0 = G at *
    clear h hn hr e0
    go_enter Try.func20, Try.ntmps20
    go_wp2_with fail
    refine (slr_eq HN hl H HR).mono ?_
    rintro e w1 ⟨rfl, hw1⟩
    obtain rfl : w = w1 := hw1.symm
    go_wp2_with fail
    refine HC.out.mono ?_
    rintro e w2 ⟨rfl, hb2⟩
    go_wp2_with fail
    go_ret2
    exact ⟨rfl, hb2⟩
end Go.Proofs.Ytdpjkblondoimaa
