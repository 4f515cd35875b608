/-
  What areRising, slices.Contains over ints and l8Rising answer, for nets.
-/
import Derived.Test.YticekgjgknfloaaHc
import Derived.Test.YticekgjgknfloaaJb
import Derived.BigQuiet
namespace Go.Proofs.Yticekgjgknfloaa
open Go.RowKit

set_option maxHeartbeats 2000000 in
theorem ri_any {a : Option Addr} {n c q : Nat} {l : List Int} {w : World} (hn : l.length = n) (hl : n ≤ 1048576) (hq : q ≤ 1000) (h : ARow w a l) :
    Calls Try.prog 58 #[.slice a n c, .int .i64 q] w fun e w' => e = .returned (.bool (Ma.riseB l q)) ∧ w' = w := by
  have H := hide h
  have HN := hide hn
  clear h hn
  go_enter Try.func58, Try.ntmps58
  go_wp2_with fail
  go_loop [4, 5, 7, 10] (fun s4 s5 _ s => ∃ (k : Nat) (t : Int), s4 = .bool false ∧ s5 = .int .i64 t ∧ s = .int .i64 k ∧ k ≤ n ∧ Hid (t = Ma.least l k) ∧ Hid (∀ i, i < k → Ma.riseAt l q i = true)) (fun _ _ _ s => n - (intOf s).toNat)
  case atStart => exact ⟨0, 0, rfl, rfl, rfl, Nat.zero_le _, hide rfl, hide fun i hi => absurd hi (Nat.not_lt_zero _)⟩
  case round =>
    obtain ⟨k, t, rfl, rfl, rfl, hk, HT, HK⟩ := hrel
    by_cases hlt : k < n
    · obtain ⟨b, off, rfl, r1⟩ := H.out.at (i := k) (by rw [HN.out]; exact hlt)
      have j0 : (0 : Int) ≤ (k : Int) := by omega
      have j1 : (k : Int) < (n : Int) := by omega
      have HR : Hid (Ma.riseAt l q k = Pf.inB (l.getD k 0) t ((q : Int) - 1)) := hide (by rw [HT.out]; rfl)
      have HL : Hid (Ma.least l (k + 1) = l.getD k 0 + 1) := hide (by simp [Ma.least])
      have ht0 : 0 ≤ t := by rw [HT.out]; exact Ma.least_nn HK.out
      generalize l.getD k 0 = x at *
      cases hb : Pf.inB x t ((q : Int) - 1)
      · have H1 := hide (Ma.all_not (n := l.length) (p := Ma.riseAt l q) (by rw [HN.out]; exact hlt) (HR.out.trans hb))
        go_wp2_with fail
        refine (between_eq hb).mono ?_
        rintro e w1 ⟨rfl, rfl⟩
        go_wp2_with fail
        go_ret
        exact ⟨ret_bool H1.out.symm, rfl⟩
      · have hxb := Pf.inB_yes hb
        have H1 : Hid (∀ i, i < k + 1 → Ma.riseAt l q i = true) := hide fun i hi => by
          by_cases e : i = k
          · subst e; exact HR.out.trans hb
          · exact HK.out i (by omega)
        have x0 : -1000 ≤ x := by omega
        have x1 : x ≤ 1000 := by omega
        clear hxb
        go_wp2_with fail
        refine (between_eq hb).mono ?_
        rintro e w1 ⟨rfl, rfl⟩
        go_wp2_with fail
        go_round
        case rel => exact ⟨k + 1, x + 1, rfl, by go_num, by go_num, by omega, hide HL.out.symm, H1⟩
        case measure => simp only [intOf]; omega
    · have hke : k = n := by omega
      subst hke
      have H1 := hide (show Ma.riseB l q = true from Ma.all_of (by rw [HN.out]; exact HK.out))
      go_wp2_with fail
      go_ret
      exact ⟨ret_bool H1.out.symm, rfl⟩
theorem ri_eq {a : Option Addr} {n c q : Nat} {l : List Int} {w : World} {r : Bool} (hn : Hid (l.length = n)) (hl : n ≤ 1048576) (hq : q ≤ 1000) (h : Hid (ARow w a l)) (hr : Hid (Ma.riseB l q = r)) :
    Calls Try.prog 58 #[.slice a n c, .int .i64 q] w fun e w' => e = .returned (.bool r) ∧ w' = w := hr.out ▸ ri_any hn.out hl hq h.out
theorem rise_no {x t q : Int} (ht : 0 ≤ t) (h : Pf.inB x t (q - 1) = false) : x < 0 ∨ q ≤ x ∨ (0 < t ∧ t - 1 ≥ x) := by
  have := Pf.inB_no h
  omega
set_option maxHeartbeats 4000000 in
theorem sri_any {a : Option Addr} {n c q : Nat} {l : List Int} {w : World} (hn : l.length = n) (hl : n ≤ 1048576) (h : ARow w a l) :
    Calls Try.prog 47 #[.slice a n c, .int .i64 q] w fun e w' => e = .returned (.bool (Ma.riseB l q)) ∧ w' = w := by
  have H := hide h
  have HN := hide hn
  clear h hn
  go_enter Try.func47, Try.ntmps47
  go_wp2_with fail
  go_loop [4, 5, 6, 9] (fun s4 _ _ s => ∃ (k : Nat), s4 = .bool false ∧ s = .int .i64 k ∧ k ≤ n ∧ Hid (∀ i, i < k → Ma.riseAt l q i = true)) (fun _ _ _ s => n - (intOf s).toNat)
  case atStart => exact ⟨0, rfl, rfl, Nat.zero_le _, hide fun i hi => absurd hi (Nat.not_lt_zero _)⟩
  case round =>
    obtain ⟨k, rfl, rfl, hk, HK⟩ := hrel
    by_cases hlt : k < n
    · obtain ⟨b, off, rfl, r1⟩ := H.out.at (i := k) (by rw [HN.out]; exact hlt)
      have j0 : (0 : Int) ≤ (k : Int) := by omega
      have j1 : (k : Int) < (n : Int) := by omega
      have HR : Hid (Ma.riseAt l q k = Pf.inB (l.getD k 0) (Ma.least l k) ((q : Int) - 1)) := hide rfl
      have ht0 := hide (Ma.least_nn HK.out)
      have HN1 := hide fun (hb : Pf.inB (l.getD k 0) (Ma.least l k) ((q : Int) - 1) = false) => show Ma.riseB l q = false from Ma.all_not (n := l.length) (p := Ma.riseAt l q) (by rw [HN.out]; exact hlt) hb
      have HY1 : Hid (Pf.inB (l.getD k 0) (Ma.least l k) ((q : Int) - 1) = true → ∀ i, i < k + 1 → Ma.riseAt l q i = true) := hide fun hb i hi => by
          by_cases e : i = k
          · subst e; exact hb
          · exact HK.out i (by omega)
      by_cases k0 : k = 0
      · subst k0
        have el : Ma.least l 0 = 0 := rfl
        rw [el] at HR HN1 HY1
        rw [Nat.add_zero] at r1
        generalize l.getD 0 0 = x at *
        by_cases x0 : x < 0
        · have H1 := hide (HN1.out (by simp [Pf.inB]; omega))
          go_wp2_with fail
          go_ret
          exact ⟨ret_bool H1.out.symm, rfl⟩
        · by_cases x1 : (q : Int) ≤ x
          · have H1 := hide (HN1.out (by simp [Pf.inB]; omega))
            go_wp2_with fail
            go_ret
            exact ⟨ret_bool H1.out.symm, rfl⟩
          · have H1 := hide (HY1.out (by simp [Pf.inB]; omega))
            go_wp2_with fail
            go_round
            case rel => exact ⟨1, rfl, by go_num, by omega, H1⟩
            case measure => simp only [intOf]; omega
      · obtain ⟨b', off', e', r2⟩ := H.out.at (i := k - 1) (by rw [HN.out]; omega)
        cases e'
        have el : Ma.least l k = l.getD (k - 1) 0 + 1 := by simp [Ma.least, k0]
        rw [el] at HR HN1 HY1
        have kc : ((k : Int) - 1) = ((k - 1 : Nat) : Int) := by omega
        have kp : (0 : Int) < (k : Int) := by omega
        have kp' : 0 < k := by omega
        have k2 : (0 : Int) ≤ (k : Int) - 1 := by omega
        have k3 : (k : Int) - 1 < (n : Int) := by omega
        have r3 : w.cell? ⟨b, off + ((k : Int) - 1).toNat, none⟩ = some (.int .i64 (l.getD (k - 1) 0)) := by rw [kc, Int.toNat_natCast]; exact r2
        have hy : 0 ≤ l.getD (k - 1) 0 + 1 := by rw [← el]; exact ht0.out
        generalize l.getD k 0 = x at *
        generalize l.getD (k - 1) 0 = y at *
        generalize hkk : k - 1 = kk at *
        clear el kc
        by_cases x0 : x < 0
        · have H1 := hide (HN1.out (by simp [Pf.inB]; omega))
          go_wp2_with fail
          go_ret
          exact ⟨ret_bool H1.out.symm, rfl⟩
        · by_cases x1 : (q : Int) ≤ x
          · have H1 := hide (HN1.out (by simp [Pf.inB]; omega))
            go_wp2_with fail
            go_ret
            exact ⟨ret_bool H1.out.symm, rfl⟩
          · by_cases x2 : x ≤ y
            · have H1 := hide (HN1.out (by simp [Pf.inB]; omega))
              go_wp2_with fail
              go_ret
              exact ⟨ret_bool H1.out.symm, rfl⟩
            · have H1 := hide (HY1.out (by simp [Pf.inB]; omega))
              go_wp2_with fail
              go_round
              case rel => exact ⟨k + 1, rfl, by go_num, by omega, H1⟩
              case measure => simp only [intOf]; omega
    · have hke : k = n := by omega
      subst hke
      have H1 := hide (show Ma.riseB l q = true from Ma.all_of (by rw [HN.out]; exact HK.out))
      go_wp2_with fail
      go_ret
      exact ⟨ret_bool H1.out.symm, rfl⟩
theorem sri_eq {a : Option Addr} {n c q : Nat} {l : List Int} {w : World} {r : Bool} (hn : Hid (l.length = n)) (hl : n ≤ 1048576) (h : Hid (ARow w a l)) (hr : Hid (Ma.riseB l q = r)) :
    Calls Try.prog 47 #[.slice a n c, .int .i64 q] w fun e w' => e = .returned (.bool r) ∧ w' = w := hr.out ▸ sri_any hn.out hl h.out
set_option maxHeartbeats 1000000 in
theorem ix_any {a : Option Addr} {n c : Nat} {xs : List Int} {x : Int} {w : World} (hx : xs.length = n) (hn : n ≤ 1048576) (ha : ARow w a xs) :
    Calls Try.prog 61 #[.slice a n c, .int .i64 x] w fun e w' => e = .returned (.int .i64 (Ma.idx xs x)) ∧ w' = w := by
  have HA := hide ha
  have HX := hide hx
  clear ha hx
  go_enter Try.func61, Try.ntmps61
  go_wp2_with fail
  go_loop [4, 5, 8] (fun s4 _ s => ∃ (k : Nat), s4 = .int .i64 0 ∧ s = .int .i64 k ∧ k ≤ n ∧ Hid (∀ j, j < k → (xs.getD j 0 == x) = false)) (fun _ _ s => n - (intOf s).toNat)
  case atStart => exact ⟨0, rfl, rfl, Nat.zero_le _, hide fun i hi => absurd hi (Nat.not_lt_zero _)⟩
  case round =>
    obtain ⟨k, rfl, rfl, hk, HK⟩ := hrel
    by_cases hlt : k < n
    · obtain ⟨b, off, rfl, r1⟩ := HA.out.at (i := k) (by rw [HX.out]; exact hlt)
      have i0 : (0 : Int) ≤ (k : Int) := by omega
      have i1 : (k : Int) < (n : Int) := by omega
      have HY := hide fun (h : (xs.getD k 0 == x) = true) => Ma.idx_at (show k < xs.length by rw [HX.out]; exact hlt) h HK.out
      generalize hy : xs.getD k 0 = y at *
      cases hb : (y == x)
      · have hb' : (x == y) = false := by rw [beq_eq_false_iff_ne] at hb ⊢; exact fun e => hb e.symm
        have H1 : Hid (∀ j, j < k + 1 → (xs.getD j 0 == x) = false) := hide fun j hj => by
          by_cases e : j = k
          · subst e; rw [hy]; exact hb
          · exact HK.out j (by omega)
        clear hy
        go_wp2_with fail
        go_round
        case rel => exact ⟨k + 1, rfl, by go_num, by omega, H1⟩
        case measure => simp only [intOf]; omega
      · have hb' : (x == y) = true := by rw [beq_iff_eq] at hb ⊢; exact hb.symm
        have H1 := hide (HY.out hb)
        clear hy
        go_wp2_with fail
        go_ret
        exact ⟨ret_int H1.out.symm, rfl⟩
    · have hke : k = n := by omega
      subst hke
      have H1 := hide (Ma.idx_none (xs := xs) (x := x) (by rw [HX.out]; exact HK.out))
      go_wp2_with fail
      go_ret
      exact ⟨ret_int H1.out.symm, rfl⟩
set_option maxHeartbeats 1000000 in
theorem con_any {a : Option Addr} {n c : Nat} {xs : List Int} {x : Int} {w : World} (hx : xs.length = n) (hn : n ≤ 1048576) (ha : ARow w a xs) :
    Calls Try.prog 57 #[.slice a n c, .int .i64 x] w fun e w' => e = .returned (.bool (xs.contains x)) ∧ w' = w := by
  have HC := hide (ix_any (c := c) (x := x) hx hn ha)
  have HE := hide (Ma.idx_has xs x)
  generalize Ma.idx xs x = q at *
  clear ha hx
  go_enter Try.func57, Try.ntmps57
  go_wp2_with fail
  refine HC.out.mono ?_
  rintro e w1 ⟨rfl, rfl⟩
  go_wp2_with fail
  go_ret
  exact ⟨ret_bool HE.out, rfl⟩
theorem con_eq {a : Option Addr} {n c : Nat} {xs : List Int} {x : Int} {w : World} {r : Bool} (hx : Hid (xs.length = n)) (hn : n ≤ 1048576) (ha : Hid (ARow w a xs)) (h : Hid (xs.contains x = r)) :
    Calls Try.prog 57 #[.slice a n c, .int .i64 x] w fun e w' => e = .returned (.bool r) ∧ w' = w := h.out ▸ con_any hx.out hn ha.out
end Go.Proofs.Yticekgjgknfloaa
