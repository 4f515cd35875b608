/-
  What SmithCost answers, the program's and the model's.
-/
import Derived.Test.YthhahfcdnpegfaaHm
namespace Go.Proofs.Ythhahfcdnpegfaa
open Go.RowKit

set_option maxRecDepth 100000 in
set_option maxHeartbeats 2000000 in
theorem saf_any {a : Option Addr} {n c : Nat} {L : List (Int × Int)} {w : World} (hx : L.length = n) (hn : n ≤ 1048576) (ha : FRow w a L) :
    Calls Try.prog 49 #[.slice a n c] w fun e w' => e = .returned (.bool (Fm.famB L)) ∧ Below w.heap.size w w' := by
  have HA := hide ha
  have HX := hide hx
  clear ha hx
  go_enter Try.func49, Try.ntmps49
  go_wp2_with fail
  go_loopw [2, 4, 7] (fun s2 _ s wr => ∃ (k : Nat), s2 = .bool false ∧ s = .int .i64 k ∧ k ≤ n ∧ Hid (∀ i, i < k → Fm.okF (L.getD i (0, 0)) = true) ∧ Below w.heap.size w wr) (fun _ _ s _ => n - (intOf s).toNat)
  case atStart => exact ⟨0, rfl, rfl, Nat.zero_le _, hide fun i hi => absurd hi (Nat.not_lt_zero _), Below.refl _ _⟩
  case round =>
    obtain ⟨k, rfl, rfl, hk, HK, hB⟩ := hrel
    by_cases hlt : k < n
    · obtain ⟨b, off, rfl, hbl, r1, r2⟩ := (HA.out.below hB).at (i := k) (by rw [HX.out]; exact hlt)
      have i0 : (0 : Int) ≤ (k : Int) := by omega
      have i1 : (k : Int) < (n : Int) := by omega
      have HNO := hide fun (h : Fm.okF (L.getD k (0, 0)) = false) => Fm.famB_not (L := L) (by rw [HX.out]; exact hlt) h
      have HYES := hide fun (h : Fm.okF (L.getD k (0, 0)) = true) (i : Nat) (hi : i < k + 1) => show Fm.okF (L.getD i (0, 0)) = true by
        by_cases e : i = k
        · subst e; exact h
        · exact HK.out i (by omega)
      generalize L.getD k (0, 0) = f at *
      obtain ⟨x, y⟩ := f
      have HBA := hide (hB.alloc hB.size (.cells #[.int .i64 x, .int .i64 y] 68))
      cases e1 : Pf.inB x 0 1000
      · have HN := hide (HNO.out (by simp [Fm.okF, e1]))
        go_wp2_with fail
        refine (in_eq e1).mono ?_
        rintro e w1 ⟨rfl, rfl⟩
        go_wp2_with fail
        go_ret
        exact ⟨ret_bool HN.out.symm, HBA.out⟩
      · cases e2 : Pf.inB y 1 9
        · have HN := hide (HNO.out (by simp [Fm.okF, e2]))
          go_wp2_with fail
          refine (in_eq e1).mono ?_
          rintro e w1 ⟨rfl, hw1⟩
          have hw1' := hw1.symm
          clear hw1
          subst hw1'
          go_wp2_with fail
          refine (in_eq e2).mono ?_
          rintro e w1 ⟨rfl, rfl⟩
          go_wp2_with fail
          go_ret
          exact ⟨ret_bool HN.out.symm, HBA.out⟩
        · have HY := hide (HYES.out (by simp [Fm.okF, e1, e2]))
          go_wp2_with fail
          refine (in_eq e1).mono ?_
          rintro e w1 ⟨rfl, hw1⟩
          have hw1' := hw1.symm
          clear hw1
          subst hw1'
          go_wp2_with fail
          refine (in_eq e2).mono ?_
          rintro e w1 ⟨rfl, hw1⟩
          have hw1' := hw1.symm
          clear hw1
          subst hw1'
          go_wp2_with fail
          go_roundw
          case rel => exact ⟨k + 1, rfl, by go_num, by omega, HY, HBA.out⟩
          case measure => simp only [intOf]; omega
    · have hke : k = n := by omega
      subst hke
      by_cases h6 : k ≤ 6
      · have HY := hide (Fm.famB_of (by rw [HX.out]; exact h6) (by rw [HX.out]; exact HK.out))
        have h6' : (k : Int) ≤ 6 := by omega
        go_wp2_with fail
        go_ret
        exact ⟨ret_bool HY.out.symm, hB⟩
      · have HY := hide (Fm.famB_many (L := L) (by rw [HX.out]; omega))
        have h6' : ¬ (k : Int) ≤ 6 := by omega
        go_wp2_with fail
        go_ret
        exact ⟨ret_bool HY.out.symm, hB⟩
theorem saf_eq {a : Option Addr} {n c : Nat} {L : List (Int × Int)} {w : World} {r : Bool} (hx : Hid (L.length = n)) (hn : n ≤ 1048576) (ha : Hid (FRow w a L)) (h : Hid (Fm.famB L = r)) :
    Calls Try.prog 49 #[.slice a n c] w fun e w' => e = .returned (.bool r) ∧ Below w.heap.size w w' := h.out ▸ saf_any hx.out hn ha.out
theorem fam_step {L : List (Int × Int)} {os : List Int} {n k : Nat} (hx : L.length = n) (h : Fm.famB L = true) (ho : Od.ordB os n = true) (hk : k < n) :
    0 ≤ Fm.befTo L os k ∧ Fm.befTo L os k ≤ 100 ∧ 0 ≤ Fm.smTo L os k ∧ Fm.smTo L os k ≤ 1000000 ∧ 0 ≤ Fm.befTo L os (k + 1) ∧ Fm.befTo L os (k + 1) ≤ 100 ∧ 0 ≤ Fm.smTo L os (k + 1) ∧ Fm.smTo L os (k + 1) ≤ 1000000 ∧ 0 ≤ (L.getD (Od.nth os k) (0, 0)).1 * Fm.befTo L os (k + 1) ∧ (L.getD (Od.nth os k) (0, 0)).1 * Fm.befTo L os (k + 1) ≤ 100000 := by
  subst hx
  have h6 := Fm.famB_len h
  have a1 := Fm.bef_bd h ho k (by omega)
  have a2 := Fm.bef_bd h ho (k + 1) (by omega)
  have a3 := Fm.sm_bd h ho k (by omega)
  have a4 := Fm.sm_bd h ho (k + 1) (by omega)
  have h2 := Fm.okF_yes (Fm.famB_at h (Od.nth_lt ho hk))
  have h4 := Fm.term_bd h2.1 (show 0 ≤ Fm.befTo L os (k + 1) ∧ Fm.befTo L os (k + 1) ≤ 100 by omega)
  omega
set_option maxRecDepth 100000 in
set_option maxHeartbeats 400000 in
theorem sc_no1 {a b : Option Addr} {n m c d : Nat} {L : List (Int × Int)} {w : World} (HX : Hid (L.length = n)) (HA : Hid (FRow w a L)) (HG : Hid (Fm.famB L = false)) :
    Calls Try.prog 20 #[.slice a n c, .slice b m d] w fun e w' => e = .returned (.tuple #[.int .i64 0, .bool false]) ∧ Below w.heap.size w w' := by
  go_enter Try.func20, Try.ntmps20
  go_wp2_with fail
  refine (af_eq HX HA HG).mono ?_
  rintro e w1 ⟨rfl, hb1⟩
  go_wp2_with fail
  go_ret2
  exact ⟨rfl, hb1⟩
set_option maxRecDepth 100000 in
set_option maxHeartbeats 400000 in
theorem sc_no2 {a b : Option Addr} {n m c d : Nat} {L : List (Int × Int)} {os : List Int} {w : World} (hn : n ≤ 10) (HX : Hid (L.length = n)) (HO : Hid (os.length = m)) (HA : Hid (FRow w a L)) (HB : Hid (ARow w b os)) (HG : Hid (Fm.famB L = true)) (HQ : Hid (Od.ordB os n = false)) :
    Calls Try.prog 20 #[.slice a n c, .slice b m d] w fun e w' => e = .returned (.tuple #[.int .i64 0, .bool false]) ∧ Below w.heap.size w w' := by
  go_enter Try.func20, Try.ntmps20
  go_wp2_with fail
  refine (af_eq HX HA HG).mono ?_
  rintro e w1 ⟨rfl, hb1⟩
  have HB1 := hide (HB.out.below hb1)
  go_wp2_with fail
  refine (eo_eq HO hn HB1 HQ).mono ?_
  rintro e w2 ⟨rfl, hb2⟩
  go_wp2_with fail
  go_ret2
  exact ⟨rfl, hb1.trans (hb2.mono hb1.size)⟩
set_option maxRecDepth 100000 in
set_option maxHeartbeats 2000000 in
theorem sc_yes {a b : Option Addr} {n c d : Nat} {L : List (Int × Int)} {os : List Int} {w : World} (hn : n ≤ 10) (HX : Hid (L.length = n)) (HO : Hid (os.length = n)) (HA : Hid (FRow w a L)) (HB : Hid (ARow w b os)) (HG : Hid (Fm.famB L = true)) (HQ : Hid (Od.ordB os n = true)) :
    Calls Try.prog 20 #[.slice a n c, .slice b n d] w fun e w' => e = .returned (.tuple #[.int .i64 (Fm.smith L os), .bool true]) ∧ Below w.heap.size w w' := by
  go_enter Try.func20, Try.ntmps20
  go_wp2_with fail
  refine (af_eq HX HA HG).mono ?_
  rintro e w1 ⟨rfl, hb1⟩
  have HB1 := hide (HB.out.below hb1)
  have HA1 := hide (HA.out.below hb1)
  go_wp2_with fail
  refine (eo_eq HO hn HB1 HQ).mono ?_
  rintro e w2 ⟨rfl, hb2⟩
  have HB2 := hide (HB1.out.below hb2)
  have HA2 := hide (HA1.out.below hb2)
  have HBB := hide (hb1.trans (hb2.mono hb1.size))
  clear hb1 hb2
  go_wp2_with fail
  go_loop [6, 7, 9, 22] (fun s6 s7 _ s => ∃ (k : Nat) (t u : Int), s6 = .int .i64 t ∧ s7 = .int .i64 u ∧ s = .int .i64 k ∧ k ≤ n ∧ Hid (t = Fm.befTo L os k ∧ u = Fm.smTo L os k)) (fun _ _ _ s => n - (intOf s).toNat)
  case atStart => exact ⟨0, 0, 0, rfl, rfl, rfl, Nat.zero_le _, hide ⟨rfl, rfl⟩⟩
  case round =>
    obtain ⟨k, t, u, rfl, rfl, rfl, hk, HT⟩ := hrel
    by_cases hlt : k < n
    · obtain ⟨bo, oo, rfl, r0⟩ := HB2.out.at (i := k) (by rw [HO.out]; exact hlt)
      rw [Od.nth_cast HQ.out hlt] at r0
      have hj := Od.nth_lt HQ.out hlt
      obtain ⟨ba, oa, rfl, _, r1, r2⟩ := HA2.out.at (i := Od.nth os k) (by rw [HX.out]; exact hj)
      obtain ⟨f1, f2, f3, f4, f5, f6, f7, f8, f9, f10⟩ := fam_step HX.out HG.out HQ.out hlt
      have e1 : Fm.befTo L os (k + 1) = Fm.befTo L os k + (L.getD (Od.nth os k) (0, 0)).2 := rfl
      have e2 : Fm.smTo L os (k + 1) = Fm.smTo L os k + (L.getD (Od.nth os k) (0, 0)).1 * Fm.befTo L os (k + 1) := rfl
      obtain ⟨ht, hu⟩ := HT.out
      rw [e2] at f7 f8
      rw [e1] at f5 f6 f7 f8 f9 f10 e2
      rw [← ht] at f1 f2 f5 f6 f7 f8 f9 f10 e1 e2
      rw [← hu] at f3 f4 f7 f8 e2
      have HE1 := hide e1
      have HE2 := hide e2
      generalize L.getD (Od.nth os k) (0, 0) = f at *
      obtain ⟨x, y⟩ := f
      generalize Od.nth os k = j at *
      have i0 : (0 : Int) ≤ (k : Int) := by omega
      have i1 : (k : Int) < (n : Int) := by omega
      have j0 : (0 : Int) ≤ (j : Int) := by omega
      have j1 : (j : Int) < (n : Int) := by omega
      simp only at f5 f6 f7 f8 f9 f10
      have p0 : wrap64 (t + y) = t + y := by unfold wrap64; omega
      have p1 : wrap64 (x * (t + y)) = x * (t + y) := by unfold wrap64; omega
      have p2 : wrap64 (u + x * (t + y)) = u + x * (t + y) := by unfold wrap64; omega
      clear e1 e2 ht hu f1 f2 f3 f4 f5 f6 f7 f8 f9 f10
      go_wp2_with fail
      go_round
      case rel => exact ⟨k + 1, t + y, u + x * (t + y), by rw [p0], by rw [p2], by go_num, by omega, hide ⟨HE1.out.symm, HE2.out.symm⟩⟩
      case measure => simp only [intOf]; omega
    · have hke : k = n := by omega
      subst hke
      have HE := hide (show u = Fm.smith L os by rw [Fm.smith, HO.out]; exact HT.out.2)
      go_wp2_with fail
      go_ret2
      exact ⟨by have := HE.out; subst this; rfl, HBB.out⟩
theorem sc_w {a b : Option Addr} {n m c d : Nat} {L : List (Int × Int)} {os : List Int} {w : World} (hx : L.length = n) (ho : os.length = m) (ha : FRow w a L) (hb : ARow w b os) :
    Calls Try.prog 20 #[.slice a n c, .slice b m d] w fun e w' => e = .returned (.tuple #[.int .i64 (Fm.scI L os), .bool (Fm.scB L os)]) ∧ Below w.heap.size w w' := by
  unfold Fm.scI
  cases hg : Fm.famB L
  · have e : Fm.scB L os = false := by simp [Fm.scB, hg]
    rw [e]; exact sc_no1 (hide hx) (hide ha) (hide hg)
  · have h6 := Fm.famB_len hg
    have e : Fm.scB L os = Od.ordB os n := by simp [Fm.scB, hg, hx]
    rw [e]
    cases hq : Od.ordB os n
    · exact sc_no2 (by omega) (hide hx) (hide ho) (hide ha) (hide hb) (hide hg) (hide hq)
    · obtain rfl : m = n := by rw [← ho]; exact Od.ordB_len hq
      exact sc_yes (by omega) (hide hx) (hide ho) (hide ha) (hide hb) (hide hg) (hide hq)
set_option maxRecDepth 100000 in
set_option maxHeartbeats 2000000 in
theorem sml_any {a b : Option Addr} {n c d : Nat} {L : List (Int × Int)} {os : List Int} {w : World} (HX : Hid (L.length = n)) (HO : Hid (os.length = n)) (HA : Hid (FRow w a L)) (HB : Hid (ARow w b os)) (HG : Hid (Fm.famB L = true)) (HQ : Hid (Od.ordB os n = true)) :
    Calls Try.prog 50 #[.slice a n c, .slice b n d] w fun e w' => e = .returned (.int .i64 (Fm.smith L os)) ∧ w' = w := by
  have hn : n ≤ 10 := by have := Fm.famB_len HG.out; have := HX.out; omega
  go_enter Try.func50, Try.ntmps50
  go_wp2_with fail
  go_loop [5, 6, 8, 11] (fun s5 s6 _ s => ∃ (k : Nat) (t u : Int), s6 = .int .i64 t ∧ s5 = .int .i64 u ∧ s = .int .i64 k ∧ k ≤ n ∧ Hid (t = Fm.befTo L os k ∧ u = Fm.smTo L os k)) (fun _ _ _ s => n - (intOf s).toNat)
  case atStart => exact ⟨0, 0, 0, rfl, rfl, rfl, Nat.zero_le _, hide ⟨rfl, rfl⟩⟩
  case round =>
    obtain ⟨k, t, u, rfl, rfl, rfl, hk, HT⟩ := hrel
    by_cases hlt : k < n
    · obtain ⟨bo, oo, rfl, r0⟩ := HB.out.at (i := k) (by rw [HO.out]; exact hlt)
      rw [Od.nth_cast HQ.out hlt] at r0
      have hj := Od.nth_lt HQ.out hlt
      obtain ⟨ba, oa, rfl, _, r1, r2⟩ := HA.out.at (i := Od.nth os k) (by rw [HX.out]; exact hj)
      obtain ⟨f1, f2, f3, f4, f5, f6, f7, f8, f9, f10⟩ := fam_step HX.out HG.out HQ.out hlt
      have e1 : Fm.befTo L os (k + 1) = Fm.befTo L os k + (L.getD (Od.nth os k) (0, 0)).2 := rfl
      have e2 : Fm.smTo L os (k + 1) = Fm.smTo L os k + (L.getD (Od.nth os k) (0, 0)).1 * Fm.befTo L os (k + 1) := rfl
      obtain ⟨ht, hu⟩ := HT.out
      rw [e2] at f7 f8
      rw [e1] at f5 f6 f7 f8 f9 f10 e2
      rw [← ht] at f1 f2 f5 f6 f7 f8 f9 f10 e1 e2
      rw [← hu] at f3 f4 f7 f8 e2
      have HE1 := hide e1
      have HE2 := hide e2
      generalize L.getD (Od.nth os k) (0, 0) = f at *
      obtain ⟨x, y⟩ := f
      generalize Od.nth os k = j at *
      have i0 : (0 : Int) ≤ (k : Int) := by omega
      have i1 : (k : Int) < (n : Int) := by omega
      have j0 : (0 : Int) ≤ (j : Int) := by omega
      have j1 : (j : Int) < (n : Int) := by omega
      simp only at f5 f6 f7 f8 f9 f10
      have p0 : wrap64 (t + y) = t + y := by unfold wrap64; omega
      have p1 : wrap64 (x * (t + y)) = x * (t + y) := by unfold wrap64; omega
      have p2 : wrap64 (u + x * (t + y)) = u + x * (t + y) := by unfold wrap64; omega
      clear e1 e2 ht hu f1 f2 f3 f4 f5 f6 f7 f8 f9 f10
      go_wp2_with fail
      go_round
      case rel => exact ⟨k + 1, t + y, u + x * (t + y), by rw [p0], by rw [p2], by go_num, by omega, hide ⟨HE1.out.symm, HE2.out.symm⟩⟩
      case measure => simp only [intOf]; omega
    · have hke : k = n := by omega
      subst hke
      have HE := hide (show u = Fm.smith L os by rw [Fm.smith, HO.out]; exact HT.out.2)
      go_wp2_with fail
      go_ret
      exact ⟨ret_int HE.out, rfl⟩
set_option maxRecDepth 100000 in
set_option maxHeartbeats 400000 in
theorem ssc_no1 {a b : Option Addr} {n m c d : Nat} {L : List (Int × Int)} {w : World} (hn : n ≤ 1048576) (HX : Hid (L.length = n)) (HA : Hid (FRow w a L)) (HG : Hid (Fm.famB L = false)) :
    Calls Try.prog 21 #[.slice a n c, .slice b m d] w fun e w' => e = .returned (.tuple #[.int .i64 0, .bool false]) ∧ Below w.heap.size w w' := by
  go_enter Try.func21, Try.ntmps21
  go_wp2_with fail
  refine (saf_eq HX hn HA HG).mono ?_
  rintro e w1 ⟨rfl, hb1⟩
  go_wp2_with fail
  go_ret2
  exact ⟨rfl, hb1⟩
set_option maxRecDepth 100000 in
set_option maxHeartbeats 400000 in
theorem ssc_no2 {a b : Option Addr} {n m c d : Nat} {L : List (Int × Int)} {os : List Int} {w : World} (hn : n ≤ 10) (hc : m ≤ d) (HX : Hid (L.length = n)) (HO : Hid (os.length = m)) (HA : Hid (FRow w a L)) (HB : Hid (ARow w b os)) (HG : Hid (Fm.famB L = true)) (HQ : Hid (Od.ordB os n = false)) :
    Calls Try.prog 21 #[.slice a n c, .slice b m d] w fun e w' => e = .returned (.tuple #[.int .i64 0, .bool false]) ∧ Below w.heap.size w w' := by
  go_enter Try.func21, Try.ntmps21
  go_wp2_with fail
  refine (saf_eq HX (by omega) HA HG).mono ?_
  rintro e w1 ⟨rfl, hb1⟩
  have HB1 := hide (HB.out.below hb1)
  go_wp2_with fail
  refine (seo_eq HO hn hc HB1 HQ).mono ?_
  rintro e w2 ⟨rfl, rfl⟩
  go_wp2_with fail
  go_ret2
  exact ⟨rfl, hb1⟩
set_option maxRecDepth 100000 in
set_option maxHeartbeats 400000 in
theorem ssc_yes {a b : Option Addr} {n c d : Nat} {L : List (Int × Int)} {os : List Int} {w : World} (hn : n ≤ 10) (hc : n ≤ d) (HX : Hid (L.length = n)) (HO : Hid (os.length = n)) (HA : Hid (FRow w a L)) (HB : Hid (ARow w b os)) (HG : Hid (Fm.famB L = true)) (HQ : Hid (Od.ordB os n = true)) :
    Calls Try.prog 21 #[.slice a n c, .slice b n d] w fun e w' => e = .returned (.tuple #[.int .i64 (Fm.smith L os), .bool true]) ∧ Below w.heap.size w w' := by
  go_enter Try.func21, Try.ntmps21
  go_wp2_with fail
  refine (saf_eq HX (by omega) HA HG).mono ?_
  rintro e w1 ⟨rfl, hb1⟩
  have HB1 := hide (HB.out.below hb1)
  have HA1 := hide (HA.out.below hb1)
  go_wp2_with fail
  refine (seo_eq HO hn hc HB1 HQ).mono ?_
  rintro e w2 ⟨rfl, hw2⟩
  obtain rfl : w1 = w2 := hw2.symm
  go_wp2_with fail
  refine (sml_any HX HO HA1 HB1 HG HQ).mono ?_
  rintro e w3 ⟨rfl, rfl⟩
  go_wp2_with fail
  go_ret2
  exact ⟨rfl, hb1⟩
theorem ssc_w {a b : Option Addr} {n m c d : Nat} {L : List (Int × Int)} {os : List Int} {w : World} (hn : n ≤ 1048576) (hc : m ≤ d) (hx : L.length = n) (ho : os.length = m) (ha : FRow w a L) (hb : ARow w b os) :
    Calls Try.prog 21 #[.slice a n c, .slice b m d] w fun e w' => e = .returned (.tuple #[.int .i64 (Fm.scI L os), .bool (Fm.scB L os)]) ∧ Below w.heap.size w w' := by
  unfold Fm.scI
  cases hg : Fm.famB L
  · have e : Fm.scB L os = false := by simp [Fm.scB, hg]
    rw [e]; exact ssc_no1 hn (hide hx) (hide ha) (hide hg)
  · have h6 := Fm.famB_len hg
    have e : Fm.scB L os = Od.ordB os n := by simp [Fm.scB, hg, hx]
    rw [e]
    cases hq : Od.ordB os n
    · exact ssc_no2 (by omega) hc (hide hx) (hide ho) (hide ha) (hide hb) (hide hg) (hide hq)
    · obtain rfl : m = n := by rw [← ho]; exact Od.ordB_len hq
      exact ssc_yes (by omega) hc (hide hx) (hide ho) (hide ha) (hide hb) (hide hg) (hide hq)
end Go.Proofs.Ythhahfcdnpegfaa
