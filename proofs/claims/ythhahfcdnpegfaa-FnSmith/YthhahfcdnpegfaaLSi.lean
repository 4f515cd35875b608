/-
  FnSmith: the law's own walk.
-/
import Derived.Test.YthhahfcdnpegfaaHx
import Derived.Deep.DeepCutAuto
import Derived.BigQuiet
namespace Go.Proofs.Ythhahfcdnpegfaa
open Go.RowKit

theorem si_len (L : List (Int × Int)) : (soR L).length ≤ L.length := by
  cases h : Fm.famB L
  · rw [soR_no h]; simp
  · rw [soR_yes h, Fm.soL_len]; exact Nat.le_refl _
/-- What holds of SmithOrder's order. -/
theorem si_facts {L : List (Int × Int)} (h : Fm.famB L = true) : Fm.scB L (soR L) = true ∧ ∀ os, Fm.scB L os = true → ¬ Fm.scI L os < Fm.scI L (soR L) := by
  have ho := Fm.so_ord L
  have hs : Fm.scB L (soR L) = true := by simp [Fm.scB, h, soR_yes h, ho]
  refine ⟨hs, fun os hos => ?_⟩
  have h2 : Od.ordB os L.length = true := by
    simp only [Fm.scB, Bool.and_eq_true] at hos; exact hos.2
  have := Fm.so_least h h2
  simp only [Fm.scI, hos, hs, if_true]
  rw [soR_yes h]; omega
/-- Two that change places. -/
theorem ci_facts {ys : List Int} {n : Nat} (hy : ys.length = n) (h : cyB ys = true) (h1 : 1 < n) : n ≤ 10 ∧ cyB (Od.swap ys 0 1) = true ∧ 0 ≤ cyI ys ∧ cyI ys ≤ 10 ∧ (cyI (Od.swap ys 0 1) = cyI ys + 1 ∨ cyI (Od.swap ys 0 1) = cyI ys - 1) := by
  obtain ⟨h10, ho⟩ := cyB_yes h
  rw [hy] at h10 ho
  have hz := Od.swap_ord ho (show 0 < n by omega) h1
  have hl : (Od.swap ys 0 1).length = n := by rw [Od.swap_len, hy]
  have hb : cyB (Od.swap ys 0 1) = true := by simp [cyB, hl, h10, hz]
  have hr := Od.rings_swap ho h1
  have hle := Od.ringsTo_le ys n n
  have e : Od.rings ys = (Od.ringsTo ys n n).2 := by rw [Od.rings, hy]
  refine ⟨h10, hb, ?_, ?_, ?_⟩
  · simp only [cyI, h, if_true]; omega
  · simp only [cyI, h, if_true]; omega
  · simp only [cyI, h, hb, if_true]; omega
set_option maxRecDepth 100000 in
set_option maxHeartbeats 1000000 in
theorem lSi_long {a1 a2 : Option Addr} {len1 cap1 len2 cap2 : Nat} {w : World} (h1 : (1048576 : Int) < wrap64 ((len1 : Int) + (len2 : Int))) :
    Calls Try.prog 4 #[.slice a1 len1 cap1, .slice a2 len2 cap2] w fun e w' => e = .returned (.bool true) ∧ Below w.heap.size w w' := by
  go_enter Try.func4, Try.ntmps4
  go_wp2_with fail
  go_ret
  exact ⟨rfl, Below.refl _ _⟩
set_option maxRecDepth 100000 in
set_option maxHeartbeats 8000000 in
theorem lSi_main {a1 a2 : Option Addr} {len1 cap1 len2 cap2 : Nat} {w : World} (hs1 : Hid (Src w a1 len1)) (hs2 : Hid (Src w a2 len2)) (h1 : ¬ (1048576 : Int) < wrap64 ((len1 : Int) + (len2 : Int))) :
    Calls Try.prog 4 #[.slice a1 len1 cap1, .slice a2 len2 cap2] w fun e w' => e = .returned (.bool true) ∧ Below w.heap.size w w' := by
  go_enter Try.func4, Try.ntmps4
  go_wp2_with fail
  refine (drawSC_any hs1).mono ?_
  rintro e w1 ⟨al, cl, ao, co, L, os, n, rfl, hll, hol, hn, hco, rl, ro, hb1⟩
  have HF := hide fun (h : Fm.famB L = true) => (si_facts h).1
  have HOS := hide fun (h : Fm.famB L = true) (h2 : Fm.scB L os = true) => (si_facts h).2 os h2
  have hrl : (soR L).length ≤ 7 := by have := si_len L; omega
  have HI := hide (fun (w' : World) (hu : FRow w' al L) (ho : ARow w' ao os) => sc_w (c := cl) (d := co) hll hol hu ho)
  have HS := hide (fun (w' : World) (hu : FRow w' al L) (ho : ARow w' ao os) => ssc_w (c := cl) (d := co) (by omega) hco hll hol hu ho)
  have HO := hide (fun (w' : World) (hu : FRow w' al L) => so_q (c := cl) hll hu)
  have HSO := hide (fun (w' : World) (hu : FRow w' al L) => sso_q (c := cl) (by omega) hll hu)
  have HIR := hide (fun (w' : World) (v : Option Addr) (cv : Nat) (hu : FRow w' al L) (ho : ARow w' v (soR L)) => sc_w (c := cl) (d := cv) hll rfl hu ho)
  have R1 := hide (show FRow w1 al L ∧ ARow w1 ao os ∧ Below w.heap.size w w1 from ⟨rl, ro, hb1⟩)
  clear rl ro hb1 hll hol hco
  generalize Fm.scB L os = ok at *
  generalize Fm.scI L os = N at *
  generalize Fm.famB L = one at *
  generalize Fm.scI L (soR L) = M at *
  generalize Fm.scB L (soR L) = two at *
  generalize soR L = rs at *
  have h01 : (ok != ok) = false := by simp
  have h02 : (N != N) = false := by simp
  have h03 : (one != one) = false := by simp
  go_wp2_with fail
  refine (HI.out _ R1.out.1 R1.out.2.1).mono ?_
  rintro e w2 ⟨rfl, hb2⟩
  have R2 := hide (show FRow w2 al L ∧ ARow w2 ao os ∧ Below w.heap.size w w2 from ⟨R1.out.1.below hb2, R1.out.2.1.below hb2, R1.out.2.2.trans (hb2.mono R1.out.2.2.size)⟩)
  clear hb2 R1 HI
  go_wp2_with fail
  refine (HS.out _ R2.out.1 R2.out.2.1).mono ?_
  rintro e w3 ⟨rfl, hb3⟩
  have R3 := hide (show FRow w3 al L ∧ Below w.heap.size w w3 from ⟨R2.out.1.below hb3, R2.out.2.2.trans (hb3.mono R2.out.2.2.size)⟩)
  clear hb3 R2 HS
  go_wp2_with fail
  refine (HO.out _ R3.out.1).mono ?_
  rintro e w4 ⟨v4, c4, rfl, r4, hb4⟩
  have R4 := hide (show FRow w4 al L ∧ ARow w4 v4 rs ∧ Below w.heap.size w w4 from ⟨R3.out.1.below hb4, r4, R3.out.2.trans (hb4.mono R3.out.2.size)⟩)
  clear hb4 r4 R3 HO
  go_wp2_with fail
  refine (HSO.out _ R4.out.1).mono ?_
  rintro e w5 ⟨v5, c5, rfl, r5, hb5⟩
  have R5 := hide (show FRow w5 al L ∧ ARow w5 v4 rs ∧ Below w.heap.size w w5 from ⟨R4.out.1.below hb5, R4.out.2.1.below hb5, R4.out.2.2.trans (hb5.mono R4.out.2.2.size)⟩)
  have R5' := hide r5
  clear hb5 r5 R4 HSO
  go_wp2_with fail
  refine (sameI_b rfl (by omega) R5.out.2.1 R5'.out).mono ?_
  rintro e w6 ⟨rfl, hb6⟩
  have R6 := hide (show FRow w6 al L ∧ ARow w6 v4 rs ∧ Below w.heap.size w w6 from ⟨R5.out.1.below hb6, R5.out.2.1.below hb6, R5.out.2.2.trans (hb6.mono R5.out.2.2.size)⟩)
  clear hb6 R5 R5'
  go_upto_if 83 with fail
  clear h01 h02 h03
  go_cut [4, 15, 16] (fun s4 _ _ wd => s4 = .bool false ∧ Hid (Below w.heap.size w wd))
  case first =>
    cases one
    · go_wp2_with fail
      go_meet
      case rel => exact ⟨rfl, hide R6.out.2.2⟩
    · have h2 := HF.out rfl
      subst h2
      have HNO := hide (HOS.out rfl)
      clear HF HOS
      go_wp2_with fail
      refine (HIR.out _ _ _ R6.out.1 R6.out.2.1).mono ?_
      rintro e w7 ⟨rfl, hb7⟩
      have B7 := hide (R6.out.2.2.trans (hb7.mono R6.out.2.2.size))
      clear hb7 R6 HIR
      cases ok
      · clear HNO
        go_wp2_with fail
        go_meet
        case rel => exact ⟨rfl, B7⟩
      · have hnm : ¬ N < M := by have := HNO.out rfl; omega
        clear HNO
        go_wp2_with fail
        go_meet
        case rel => exact ⟨rfl, B7⟩
  case rest =>
    obtain ⟨rfl, HB9⟩ := hcut
    clear R6 HF HOS HIR hrl
    have S9 := hide (hs2.out.below HB9.out)
    go_wp2_with fail
    refine (drawIO_any S9).mono ?_
    rintro e w10 ⟨pu, cpu, pus, k, pn, rfl, hpu, hpn, hpc, rpu, hb10⟩
    have HP := hide (fun (w' : World) (hu : ARow w' pu pus) => io_w (c := cpu) (k := k) hpu hu)
    have HQ := hide (fun (w' : World) (hu : ARow w' pu pus) => sio_w (c := cpu) (k := k) hpu hpc hu)
    have R10 := hide rpu
    have B10 := hide (HB9.out.trans (hb10.mono HB9.out.size))
    have S10 := hide (S9.out.below hb10)
    clear rpu hb10 HB9 S9 hpu hpc
    generalize ioI pus k = is at *
    generalize ioB k = two2 at *
    go_wp2_with fail
    refine (HP.out _ R10.out).mono ?_
    rintro e w11 ⟨rfl, hb11⟩
    have R11 := hide (R10.out.below hb11)
    have B11 := hide (B10.out.trans (hb11.mono B10.out.size))
    have S11 := hide (S10.out.below hb11)
    clear hb11 R10 B10 S10 HP
    go_wp2_with fail
    refine (HQ.out _ R11.out).mono ?_
    rintro e w12 ⟨rfl, hb12⟩
    have B12 := hide (B11.out.trans (hb12.mono B11.out.size))
    have S12 := hide (S11.out.below hb12)
    clear hb12 R11 B11 S11 HQ
    go_wp2_with fail
    refine (drawCI_any S12).mono ?_
    rintro e w13 ⟨ya, yc, ys, yn, rfl, hyl, hyn, hyc, ry, hb13⟩
    have HP := hide (fun (w' : World) (hu : ARow w' ya ys) => cy_w (c := yc) hyl hu)
    have HQ := hide (fun (w' : World) (hu : ARow w' ya ys) => scy_w (c := yc) hyl hyc hu)
    have HC := hide fun (h : cyB ys = true) (h1 : 1 < yn) => ci_facts hyl h h1
    have HZ := hide (fun (w' : World) (g cg : Nat) (hu : ARow w' (some ⟨g, 0, none⟩) (Od.swap ys 0 1)) => cy_w (n := yn) (c := cg) (by rw [Od.swap_len, hyl]) hu)
    have HYL := hide hyl
    have R13 := hide ry
    have B13 := hide (B12.out.trans (hb13.mono B12.out.size))
    clear ry hb13 B12 S12 hyl
    generalize cyB ys = four at *
    generalize cyI ys = C at *
    generalize cyB (Od.swap ys 0 1) = six at *
    generalize cyI (Od.swap ys 0 1) = D at *
    go_wp2_with fail
    refine (HP.out _ R13.out).mono ?_
    rintro e w14 ⟨rfl, hb14⟩
    have R14 := hide (R13.out.below hb14)
    have B14 := hide (B13.out.trans (hb14.mono B13.out.size))
    clear hb14 R13 B13 HP
    go_wp2_with fail
    refine (HQ.out _ R14.out).mono ?_
    rintro e w15 ⟨rfl, hb15⟩
    have R15 := hide (R14.out.below hb15)
    have B15 := hide (B14.out.trans (hb15.mono B14.out.size))
    clear hb15 R14 B14 HQ
    have h01 : (two2 != two2) = false := by simp
    have h02 : (is != is) = false := by simp
    have h03 : (four != four) = false := by simp
    have h04 : (C != C) = false := by simp
    cases four
    · clear HC HZ
      go_wp2_with fail
      go_ret
      exact ⟨rfl, B15.out⟩
    · by_cases hn1 : 1 < yn
      · have n1 : (1 : Int) < (yn : Int) := by omega
        obtain ⟨hn10, h6, c0, c1, hd⟩ := HC.out rfl hn1
        subst h6
        obtain ⟨bo, oo, rfl, hbo, hco⟩ : ∃ b off, ya = some ⟨b, off, none⟩ ∧ b < w15.heap.size ∧ ∀ k, k < ys.length → w15.cell? ⟨b, off + k, none⟩ = some (.int .i64 (ys.getD k 0)) := by
          rcases R15.out with h | h
          · have := HYL.out; rw [h] at this; simp at this; omega
          · exact h
        obtain ⟨i0', hi', hz0, hz1, hz2⟩ := infoI
        obtain ⟨v, w3, hr3, own3, hg3⟩ : ∃ v' w', (∀ ty, (Builtin.append_ #[23, 23] ty #[.slice (some ⟨w15.heap.size, 0, none⟩) 0 0, .slice (some ⟨bo, oo, none⟩) yn yc]).run Try.prog (w15.alloc (.cells #[] 3)) = .ok v' w') ∧ w'.ownsRow w15.heap.size 3 1 v' yn (ints ys) ∧ (w15.alloc (.cells #[] 3)).grownBy w' (some w15.heap.size) := by
          obtain ⟨v', w', h1, h2, h3⟩ := run_append_v (P := Try.prog) (w15.alloc (.cells #[] 3)) w15.heap.size 23 0 3 i0' _ 8 Try.underlying23 hi' hz0 hz1 hz2 rfl _ 0 _ (none_row w15) (some ⟨bo, oo, none⟩) yn yc (ints ys) (by rw [ints_len, HYL.out]) (R15.out.alloc _).vrow (c_ints ys) (by unfold maxLen; omega) (by omega) (by simp)
          rw [Nat.zero_add] at h2
          exact ⟨v', w', fun _ => h1, h2, h3⟩
        have hbw : Below w15.heap.size w15 w3 := ((Below.refl _ _).alloc (Nat.le_refl _) (.cells #[] 3)).trans (grown_below' hg3 (Nat.le_refl _) (by simp))
        obtain ⟨g, cap, rfl, hg0, hgl⟩ := own3.form (by omega)
        have r1 : w3.cell? ⟨bo, oo, none⟩ = some (.int .i64 (ys.getD 0 0)) := (hbw.cell (p := ⟨bo, oo, none⟩) hbo).trans (hco 0 (by rw [HYL.out]; omega))
        have r2 : w3.cell? ⟨bo, oo + 1, none⟩ = some (.int .i64 (ys.getD 1 0)) := (hbw.cell (p := ⟨bo, oo + 1, none⟩) hbo).trans (hco 1 (by rw [HYL.out]; exact hn1))
        have f1 := own3.frozenAt 0
        obtain ⟨s1, s2⟩ := own3.stored 0 (.int .i64 (ys.getD 1 0))
        obtain ⟨s3, s4⟩ := s1.stored 1 (.int .i64 (ys.getD 0 0))
        have f3 := s1.frozenAt 1
        obtain ⟨z, c3⟩ : ∃ z, (w3.setCell ⟨g, 0, none⟩ (.int .i64 (ys.getD 1 0))).cell? ⟨g, 1, none⟩ = some (.int .i64 z) := by
          refine ⟨(ys.set 0 (ys.getD 1 0)).getD 1 0, ?_⟩
          rw [s1.cellAt 1 (by omega), ints_set, ints_get _ 1 (by rw [List.length_set, HYL.out]; exact hn1)]
        rw [ints_set, ints_set] at s3
        have HB4 := hide (B15.out.trans (((hbw.trans (grown_below' s2 (by omega) hbw.size)).trans (grown_below' s4 (by omega) (by simpa using hbw.size))).mono B15.out.size))
        have cc1 : w3.cell? ⟨g, 0, none⟩ = some (.int .i64 (ys.getD 0 0)) := by rw [own3.cellAt 0 (by omega), ints_get ys 0 (by rw [HYL.out]; omega)]
        have hne : ¬ bo = g := by omega
        have hne2 : ¬ g = bo := by omega
        rw [show (ys.set 0 (ys.getD 1 0)).set 1 (ys.getD 0 0) = Od.swap ys 0 1 from rfl] at s3
        have HR := hide (arow_owns (by rw [Od.swap_len, HYL.out]) s3)
        generalize ys.getD 0 0 = x0 at *
        generalize ys.getD 1 0 = x1 at *
        have y0 : (0 : Int) < (yn : Int) := by omega
        have y1 : wrap64 (C + 1) = C + 1 := by unfold wrap64; omega
        have y2 : wrap64 (C - 1) = C - 1 := by unfold wrap64; omega
        clear s1 s2 s3 s4 own3 hg3 hbw hco HC R15 B15
        rcases hd with hd | hd
        · have d1 : (D == C + 1) = true := by simpa using hd
          clear hd
          go_wp2_with (first | (at_builtin; refine Lib.wpList_append_run _ rfl _ _ _ _ rfl _ _ rfl rfl _ _ (hr3 _) ?_))
          clear hr3 cc1 c3 f1 f3 r1 r2
          generalize ((w3.setCell ⟨g, 0, none⟩ (.int .i64 x1)).setCell ⟨g, 1, none⟩ (.int .i64 x0)) = W5 at *
          refine (HZ.out W5 g cap HR.out).mono ?_
          rintro e w6 ⟨rfl, hb6⟩
          have HBZ := hide (HB4.out.trans (hb6.mono HB4.out.size))
          go_wp2_with fail
          go_ret
          exact ⟨rfl, HBZ.out⟩
        · have d1 : (D == C + 1) = false := beq_eq_false_iff_ne.2 (by omega)
          have d2 : (D == C - 1) = true := by simpa using hd
          clear hd
          go_wp2_with (first | (at_builtin; refine Lib.wpList_append_run _ rfl _ _ _ _ rfl _ _ rfl rfl _ _ (hr3 _) ?_))
          clear hr3 cc1 c3 f1 f3 r1 r2
          generalize ((w3.setCell ⟨g, 0, none⟩ (.int .i64 x1)).setCell ⟨g, 1, none⟩ (.int .i64 x0)) = W5 at *
          refine (HZ.out W5 g cap HR.out).mono ?_
          rintro e w6 ⟨rfl, hb6⟩
          have HBZ := hide (HB4.out.trans (hb6.mono HB4.out.size))
          go_wp2_with fail
          go_ret
          exact ⟨rfl, HBZ.out⟩
      · have n1 : ¬ (1 : Int) < (yn : Int) := by omega
        clear HC HZ hn1
        go_wp2_with fail
        go_ret
        exact ⟨rfl, B15.out⟩
theorem lSi_walk {a1 a2 : Option Addr} {len1 cap1 len2 cap2 : Nat} {w : World} (hs1 : Src w a1 len1) (hs2 : Src w a2 len2) :
    Calls Try.prog 4 #[.slice a1 len1 cap1, .slice a2 len2 cap2] w fun e w' => e = .returned (.bool true) ∧ Below w.heap.size w w' := by
  by_cases h1 : (1048576 : Int) < wrap64 ((len1 : Int) + (len2 : Int))
  · exact lSi_long h1
  · exact lSi_main (hide hs1) (hide hs2) h1
end Go.Proofs.Ythhahfcdnpegfaa
