/-
  What CountIn, IsMatching and IsCover answer, the program's and the model's.
-/
import Derived.Test.YtfmdahpldjkifaaJd
namespace Go.Proofs.Ytfmdahpldjkifaa
open Go.RowKit

theorem cntB_many {m : List Int} (h : 8 < m.length) : Ma.cntB m = false := by simp [Ma.cntB, show ¬ m.length ≤ 8 by omega]
theorem cntB_few {m : List Int} (h : m.length ≤ 8) : Ma.cntB m = Pf.allB m (-1) 7 := by simp [Ma.cntB, h]
theorem cntB_few' {m : List Int} {n : Nat} (hn : m.length = n) (h : n ≤ 8) : Ma.cntB m = Pf.allB m (-1) 7 := cntB_few (by omega)
theorem all8_eqn {a : Option Addr} {n c : Nat} {xs : List Int} {lo hi : Int} {w : World} {r : Bool} (h : Hid (ARow w a xs)) (hn : Hid (xs.length = n)) (hl : n ≤ 1000) (hr : Hid (Pf.allB xs lo hi = r)) :
    Calls Try.prog 39 #[.slice a n c, .int .i64 lo, .int .i64 hi] w fun e w' => e = .returned (.bool r) ∧ w' = w := by
  have := hn.out
  subst this
  exact all_eq h.out (by omega) hr.out
set_option maxRecDepth 100000 in
set_option maxHeartbeats 2000000 in
theorem ci_any {a : Option Addr} {n c : Nat} {m : List Int} {w : World} (hn : m.length = n) (h : ARow w a m) :
    Calls Try.prog 13 #[.slice a n c] w fun e w' => e = .returned (.tuple #[.int .i64 (Ma.cntI m), .bool (Ma.cntB m)]) ∧ w' = w := by
  unfold Ma.cntI
  by_cases h8 : n ≤ 8
  · rw [cntB_few' hn h8]
    have H := hide h
    have HN := hide hn
    have i0 : ¬ (8 : Int) < (n : Int) := by omega
    cases hb : Pf.allB m (-1) 7
    · have HB := hide hb
      clear h hn hb
      go_enter Try.func13, Try.ntmps13
      go_wp2_with fail
      refine (areb_eqn H HN (by omega) HB).mono ?_
      rintro e w1 ⟨rfl, rfl⟩
      go_wp2_with fail
      go_ret2
      exact ⟨rfl, rfl⟩
    · have HB := hide hb
      clear h hn hb
      go_enter Try.func13, Try.ntmps13
      go_wp2_with fail
      refine (areb_eqn H HN (by omega) HB).mono ?_
      rintro e w1 ⟨rfl, hw1⟩
      obtain rfl : w = w1 := hw1.symm
      go_wp2_with fail
      go_loop [4, 6, 17] (fun s4 _ s => ∃ (k t : Nat), s4 = .int .i64 t ∧ s = .int .i64 k ∧ k ≤ n ∧ Hid (t = Ma.cntTo m k) ∧ t ≤ k) (fun _ _ s => n - (intOf s).toNat)
      case atStart => exact ⟨0, 0, rfl, rfl, Nat.zero_le _, hide rfl, Nat.le_refl _⟩
      case round =>
        obtain ⟨k, t, rfl, rfl, hk, HT, ht⟩ := hrel
        by_cases hlt : k < n
        · obtain ⟨b, off, rfl, r1⟩ := H.out.at (i := k) (by rw [HN.out]; exact hlt)
          have j0 : (0 : Int) ≤ (k : Int) := by omega
          have j1 : (k : Int) < (n : Int) := by omega
          have HS := hide (Ma.cntTo_step (m := m) (k := k) (by rw [HN.out]; exact hlt))
          generalize m.getD k 0 = x at *
          cases hx : (x == -1)
          · have hx' : (x != -1) = true := by simp [bne, hx]
            have H1 : Hid (t + 1 = Ma.cntTo m (k + 1)) := hide (by rw [HS.out, hx, HT.out]; rfl)
            clear HS
            go_wp2_with fail
            go_round
            case rel => exact ⟨k + 1, t + 1, by go_num, by go_num, by omega, H1, by omega⟩
            case measure => simp only [intOf]; omega
          · have hx' : (x != -1) = false := by simp [bne, hx]
            have H1 : Hid (t = Ma.cntTo m (k + 1)) := hide (by rw [HS.out, hx, HT.out]; rfl)
            clear HS
            go_wp2_with fail
            go_round
            case rel => exact ⟨k + 1, t, rfl, by go_num, by omega, H1, by omega⟩
            case measure => simp only [intOf]; omega
        · have hke : k = n := by omega
          subst hke
          have H1 : Hid (t = Ma.cnt m) := hide (by rw [HT.out, ← HN.out]; exact Ma.cntTo_all m)
          go_wp2_with fail
          go_ret2
          exact ⟨by have := H1.out; subst this; rfl, rfl⟩
  · have i0 : (8 : Int) < (n : Int) := by omega
    rw [cntB_many (m := m) (by omega)]
    clear h hn
    go_enter Try.func13, Try.ntmps13
    go_wp2_with fail
    go_ret2
    exact ⟨rfl, rfl⟩
set_option maxRecDepth 100000 in
set_option maxHeartbeats 2000000 in
theorem scnt_any {a : Option Addr} {n c : Nat} {m : List Int} {w : World} (HN : Hid (m.length = n)) (h8 : n ≤ 8) (H : Hid (ARow w a m)) (HG : Hid (Pf.allB m (-1) 7 = true)) :
    Calls Try.prog 40 #[.slice a n c] w fun e w' => e = .returned (.int .i64 (Ma.cnt m : Int)) ∧ w' = w := by
  go_enter Try.func40, Try.ntmps40
  go_wp2_with fail
  go_loop [3, 5, 8] (fun s4 _ s => ∃ (k t : Nat), s4 = .int .i64 t ∧ s = .int .i64 k ∧ k ≤ n ∧ Hid (t = Ma.cntTo m k) ∧ t ≤ k) (fun _ _ s => n - (intOf s).toNat)
  case atStart => exact ⟨0, 0, rfl, rfl, Nat.zero_le _, hide rfl, Nat.le_refl _⟩
  case round =>
    obtain ⟨k, t, rfl, rfl, hk, HT, ht⟩ := hrel
    by_cases hlt : k < n
    · obtain ⟨b, off, rfl, r1⟩ := H.out.at (i := k) (by rw [HN.out]; exact hlt)
      have j0 : (0 : Int) ≤ (k : Int) := by omega
      have j1 : (k : Int) < (n : Int) := by omega
      have HS := hide (Ma.cntTo_step (m := m) (k := k) (by rw [HN.out]; exact hlt))
      have hv := Pf.inB_yes (Pf.allB_get HG.out (show k < m.length by rw [HN.out]; exact hlt))
      generalize m.getD k 0 = x at *
      cases hx : (x == -1)
      · have hx' : 0 ≤ x := by rw [beq_eq_false_iff_ne] at hx; omega
        have H1 : Hid (t + 1 = Ma.cntTo m (k + 1)) := hide (by rw [HS.out, hx, HT.out]; rfl)
        clear HS hx hv
        go_wp2_with fail
        go_round
        case rel => exact ⟨k + 1, t + 1, by go_num, by go_num, by omega, H1, by omega⟩
        case measure => simp only [intOf]; omega
      · have hx' : ¬ 0 ≤ x := by rw [beq_iff_eq] at hx; omega
        have H1 : Hid (t = Ma.cntTo m (k + 1)) := hide (by rw [HS.out, hx, HT.out]; rfl)
        clear HS hx hv
        go_wp2_with fail
        go_round
        case rel => exact ⟨k + 1, t, rfl, by go_num, by omega, H1, by omega⟩
        case measure => simp only [intOf]; omega
    · have hke : k = n := by omega
      subst hke
      have H1 : Hid (t = Ma.cnt m) := hide (by rw [HT.out, ← HN.out]; exact Ma.cntTo_all m)
      go_wp2_with fail
      go_ret
      exact ⟨ret_int (by rw [H1.out]), rfl⟩
set_option maxRecDepth 100000 in
set_option maxHeartbeats 2000000 in
theorem sci_any {a : Option Addr} {n c : Nat} {m : List Int} {w : World} (hn : m.length = n) (h : ARow w a m) :
    Calls Try.prog 18 #[.slice a n c] w fun e w' => e = .returned (.tuple #[.int .i64 (Ma.cntI m), .bool (Ma.cntB m)]) ∧ w' = w := by
  unfold Ma.cntI
  by_cases h8 : n ≤ 8
  · rw [cntB_few' hn h8]
    have H := hide h
    have HN := hide hn
    have i0 : ¬ (8 : Int) < (n : Int) := by omega
    cases hb : Pf.allB m (-1) 7
    · have HB := hide hb
      clear h hn hb
      go_enter Try.func18, Try.ntmps18
      go_wp2_with fail
      refine (all8_eqn H HN (by omega) HB).mono ?_
      rintro e w1 ⟨rfl, rfl⟩
      go_wp2_with fail
      go_ret2
      exact ⟨rfl, rfl⟩
    · have HB := hide hb
      clear h hn hb
      go_enter Try.func18, Try.ntmps18
      go_wp2_with fail
      refine (all8_eqn H HN (by omega) HB).mono ?_
      rintro e w1 ⟨rfl, rfl⟩
      go_wp2_with fail
      refine (scnt_any HN h8 H HB).mono ?_
      rintro e w1 ⟨rfl, rfl⟩
      go_wp2_with fail
      go_ret2
      exact ⟨rfl, rfl⟩
  · have i0 : (8 : Int) < (n : Int) := by omega
    rw [cntB_many (m := m) (by omega)]
    clear h hn
    go_enter Try.func18, Try.ntmps18
    go_wp2_with fail
    go_ret2
    exact ⟨rfl, rfl⟩
set_option maxRecDepth 100000 in
set_option maxHeartbeats 2000000 in
theorem ri_any {a : Option Addr} {n c q : Nat} {l : List Int} {w : World} (hn : l.length = n) (hl : n ≤ 1048576) (hq : q ≤ 1000) (h : ARow w a l) :
    Calls Try.prog 42 #[.slice a n c, .int .i64 q] w fun e w' => e = .returned (.bool (Ma.riseB l q)) ∧ w' = w := by
  have H := hide h
  have HN := hide hn
  clear h hn
  go_enter Try.func42, Try.ntmps42
  go_wp2_with fail
  go_loop [4, 5, 7, 10] (fun s4 s5 _ s => ∃ (k : Nat) (t : Int), s4 = .bool false ∧ s5 = .int .i64 t ∧ s = .int .i64 k ∧ k ≤ n ∧ Hid (t = Ma.least l k) ∧ Hid (∀ i, i < k → Ma.riseAt l q i = true)) (fun _ _ _ s => n - (intOf s).toNat)
  case atStart => exact ⟨0, 0, rfl, rfl, rfl, Nat.zero_le _, hide rfl, hide fun i hi => absurd hi (Nat.not_lt_zero _)⟩
  case round =>
    obtain ⟨k, t, rfl, rfl, rfl, hk, HT, HK⟩ := hrel
    by_cases hlt : k < n
    · obtain ⟨b, off, rfl, r1⟩ := H.out.at (i := k) (by rw [HN.out]; exact hlt)
      have j0 : (0 : Int) ≤ (k : Int) := by omega
      have j1 : (k : Int) < (n : Int) := by omega
      have HR : Hid (Ma.riseAt l q k = Pf.inB (l.getD k 0) t ((q : Int) - 1)) := hide (by rw [HT.out]; rfl)
      have HL : Hid (Ma.least l (k + 1) = l.getD k 0 + 1) := hide (by simp [Ma.least])
      have ht0 : 0 ≤ t := by rw [HT.out]; exact Ma.least_nn HK.out
      generalize l.getD k 0 = x at *
      cases hb : Pf.inB x t ((q : Int) - 1)
      · have H1 := hide (Ma.all_not (n := l.length) (p := Ma.riseAt l q) (by rw [HN.out]; exact hlt) (HR.out.trans hb))
        go_wp2_with fail
        refine (between_eq hb).mono ?_
        rintro e w1 ⟨rfl, rfl⟩
        go_wp2_with fail
        go_ret
        exact ⟨ret_bool H1.out.symm, rfl⟩
      · have hxb := Pf.inB_yes hb
        have H1 : Hid (∀ i, i < k + 1 → Ma.riseAt l q i = true) := hide fun i hi => by
          by_cases e : i = k
          · subst e; exact HR.out.trans hb
          · exact HK.out i (by omega)
        have x0 : -1000 ≤ x := by omega
        have x1 : x ≤ 1000 := by omega
        clear hxb
        go_wp2_with fail
        refine (between_eq hb).mono ?_
        rintro e w1 ⟨rfl, rfl⟩
        go_wp2_with fail
        go_round
        case rel => exact ⟨k + 1, x + 1, rfl, by go_num, by go_num, by omega, hide HL.out.symm, H1⟩
        case measure => simp only [intOf]; omega
    · have hke : k = n := by omega
      subst hke
      have H1 := hide (show Ma.riseB l q = true from Ma.all_of (by rw [HN.out]; exact HK.out))
      go_wp2_with fail
      go_ret
      exact ⟨ret_bool H1.out.symm, rfl⟩
theorem ri_eq {a : Option Addr} {n c q : Nat} {l : List Int} {w : World} {r : Bool} (hn : Hid (l.length = n)) (hl : n ≤ 1048576) (hq : q ≤ 1000) (h : Hid (ARow w a l)) (hr : Hid (Ma.riseB l q = r)) :
    Calls Try.prog 42 #[.slice a n c, .int .i64 q] w fun e w' => e = .returned (.bool r) ∧ w' = w := hr.out ▸ ri_any hn.out hl hq h.out
theorem rise_no {x t q : Int} (ht : 0 ≤ t) (h : Pf.inB x t (q - 1) = false) : x < 0 ∨ q ≤ x ∨ (0 < t ∧ t - 1 ≥ x) := by
  have := Pf.inB_no h
  omega
set_option maxRecDepth 100000 in
set_option maxHeartbeats 4000000 in
theorem sri_any {a : Option Addr} {n c q : Nat} {l : List Int} {w : World} (hn : l.length = n) (hl : n ≤ 1048576) (h : ARow w a l) :
    Calls Try.prog 43 #[.slice a n c, .int .i64 q] w fun e w' => e = .returned (.bool (Ma.riseB l q)) ∧ w' = w := by
  have H := hide h
  have HN := hide hn
  clear h hn
  go_enter Try.func43, Try.ntmps43
  go_wp2_with fail
  go_loop [4, 5, 6, 9] (fun s4 _ _ s => ∃ (k : Nat), s4 = .bool false ∧ s = .int .i64 k ∧ k ≤ n ∧ Hid (∀ i, i < k → Ma.riseAt l q i = true)) (fun _ _ _ s => n - (intOf s).toNat)
  case atStart => exact ⟨0, rfl, rfl, Nat.zero_le _, hide fun i hi => absurd hi (Nat.not_lt_zero _)⟩
  case round =>
    obtain ⟨k, rfl, rfl, hk, HK⟩ := hrel
    by_cases hlt : k < n
    · obtain ⟨b, off, rfl, r1⟩ := H.out.at (i := k) (by rw [HN.out]; exact hlt)
      have j0 : (0 : Int) ≤ (k : Int) := by omega
      have j1 : (k : Int) < (n : Int) := by omega
      have HR : Hid (Ma.riseAt l q k = Pf.inB (l.getD k 0) (Ma.least l k) ((q : Int) - 1)) := hide rfl
      have ht0 := hide (Ma.least_nn HK.out)
      have HN1 := hide fun (hb : Pf.inB (l.getD k 0) (Ma.least l k) ((q : Int) - 1) = false) => show Ma.riseB l q = false from Ma.all_not (n := l.length) (p := Ma.riseAt l q) (by rw [HN.out]; exact hlt) hb
      have HY1 : Hid (Pf.inB (l.getD k 0) (Ma.least l k) ((q : Int) - 1) = true → ∀ i, i < k + 1 → Ma.riseAt l q i = true) := hide fun hb i hi => by
          by_cases e : i = k
          · subst e; exact hb
          · exact HK.out i (by omega)
      by_cases k0 : k = 0
      · subst k0
        have el : Ma.least l 0 = 0 := rfl
        rw [el] at HR HN1 HY1
        rw [Nat.add_zero] at r1
        generalize l.getD 0 0 = x at *
        by_cases x0 : x < 0
        · have H1 := hide (HN1.out (by simp [Pf.inB]; omega))
          go_wp2_with fail
          go_ret
          exact ⟨ret_bool H1.out.symm, rfl⟩
        · by_cases x1 : (q : Int) ≤ x
          · have H1 := hide (HN1.out (by simp [Pf.inB]; omega))
            go_wp2_with fail
            go_ret
            exact ⟨ret_bool H1.out.symm, rfl⟩
          · have H1 := hide (HY1.out (by simp [Pf.inB]; omega))
            go_wp2_with fail
            go_round
            case rel => exact ⟨1, rfl, by go_num, by omega, H1⟩
            case measure => simp only [intOf]; omega
      · obtain ⟨b', off', e', r2⟩ := H.out.at (i := k - 1) (by rw [HN.out]; omega)
        cases e'
        have el : Ma.least l k = l.getD (k - 1) 0 + 1 := by simp [Ma.least, k0]
        rw [el] at HR HN1 HY1
        have kc : ((k : Int) - 1) = ((k - 1 : Nat) : Int) := by omega
        have kp : (0 : Int) < (k : Int) := by omega
        have kp' : 0 < k := by omega
        have k2 : (0 : Int) ≤ (k : Int) - 1 := by omega
        have k3 : (k : Int) - 1 < (n : Int) := by omega
        have r3 : w.cell? ⟨b, off + ((k : Int) - 1).toNat, none⟩ = some (.int .i64 (l.getD (k - 1) 0)) := by rw [kc, Int.toNat_natCast]; exact r2
        have hy : 0 ≤ l.getD (k - 1) 0 + 1 := by rw [← el]; exact ht0.out
        generalize l.getD k 0 = x at *
        generalize l.getD (k - 1) 0 = y at *
        generalize hkk : k - 1 = kk at *
        clear el kc
        by_cases x0 : x < 0
        · have H1 := hide (HN1.out (by simp [Pf.inB]; omega))
          go_wp2_with fail
          go_ret
          exact ⟨ret_bool H1.out.symm, rfl⟩
        · by_cases x1 : (q : Int) ≤ x
          · have H1 := hide (HN1.out (by simp [Pf.inB]; omega))
            go_wp2_with fail
            go_ret
            exact ⟨ret_bool H1.out.symm, rfl⟩
          · by_cases x2 : x ≤ y
            · have H1 := hide (HN1.out (by simp [Pf.inB]; omega))
              go_wp2_with fail
              go_ret
              exact ⟨ret_bool H1.out.symm, rfl⟩
            · have H1 := hide (HY1.out (by simp [Pf.inB]; omega))
              go_wp2_with fail
              go_round
              case rel => exact ⟨k + 1, rfl, by go_num, by omega, H1⟩
              case measure => simp only [intOf]; omega
    · have hke : k = n := by omega
      subst hke
      have H1 := hide (show Ma.riseB l q = true from Ma.all_of (by rw [HN.out]; exact HK.out))
      go_wp2_with fail
      go_ret
      exact ⟨ret_bool H1.out.symm, rfl⟩
theorem sri_eq {a : Option Addr} {n c q : Nat} {l : List Int} {w : World} {r : Bool} (hn : Hid (l.length = n)) (hl : n ≤ 1048576) (h : Hid (ARow w a l)) (hr : Hid (Ma.riseB l q = r)) :
    Calls Try.prog 43 #[.slice a n c, .int .i64 q] w fun e w' => e = .returned (.bool r) ∧ w' = w := hr.out ▸ sri_any hn.out hl h.out
end Go.Proofs.Ytfmdahpldjkifaa
