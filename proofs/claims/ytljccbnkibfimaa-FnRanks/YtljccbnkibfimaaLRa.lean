/-
  FnRanks: the law's own walk.
-/
import Derived.Test.YtljccbnkibfimaaHx
import Derived.Deep.DeepCutAuto
import Derived.Deep.RegionHeld3
import Derived.BigQuiet
namespace Go.Proofs.Ytljccbnkibfimaa
open Go.RowKit

theorem numUp_bd7 {zs : List Int} {n : Nat} : 0 ≤ numUp zs n ∧ numUp zs n < 1000003 := by
  cases n with
  | zero => exact ⟨by unfold numUp; omega, by unfold numUp; omega⟩
  | succ k => unfold numUp; omega
theorem ofR_ord {us ws : List Int} (h : Od.waysB us ws = true) : Od.ordB (ofR us ws) us.length = true := by
  rw [ofR_yes h]; exact Od.of_ord (Od.waysB_yes h).1
theorem ra_len (us ws : List Int) : (ofR us ws).length ≤ us.length := by
  cases h : Od.waysB us ws
  · rw [ofR_no h]; simp
  · rw [ofR_yes h, ofL_len]; exact Nat.le_refl _
/-- What holds of OrderFor's order. -/
theorem ra_facts {us ws : List Int} {n : Nat} (hu : us.length = n) (h : Od.waysB us ws = true) : (ofR us ws).length = n ∧ n ≤ 10 ∧ ocB us ws (ofR us ws) = true ∧ ioB (n : Int) = true ∧ ioI (ofR us ws) (n : Int) = true ∧
    (∀ os, ocB us ws os = true → ¬ ocI us ws os < ocI us ws (ofR us ws)) ∧ ∀ i j : Nat, i < n → j < n → swB us ws (ofR us ws) i j = true ∧ ¬ 0 < swI us ws (ofR us ws) i j := by
  obtain ⟨g1, g2, g3, g4⟩ := Od.waysB_yes h
  have ho := ofR_ord h
  have hl : (ofR us ws).length = n := by rw [ofR_yes h, ofL_len, hu]
  have hoc : ocB us ws (ofR us ws) = true := by simp [ocB, h, ho]
  have hio : ioB (n : Int) = true := Pf.inB_of (by omega) (by omega)
  have hle : ∀ os, Od.ordB os us.length = true → Od.cost us ws (ofR us ws) ≤ Od.cost us ws os := fun os hos => by rw [ofR_yes h]; exact Od.of_least g1 hos
  refine ⟨hl, by omega, hoc, hio, ?_, fun os hos => ?_, fun i j hi hj => ?_⟩
  · simp only [ioI, hio, if_true, Int.toNat_natCast]; rw [← hu]; exact ho
  · obtain ⟨_, h2⟩ := ocB_yes hos
    have := hle os h2
    simp only [ocI, hos, hoc, if_true]; omega
  · have hs : swB us ws (ofR us ws) i j = true := by
      simp only [swB, hoc, Bool.true_and, Bool.and_eq_true]
      exact ⟨Pf.inB_of (by omega) (by omega), Pf.inB_of (by omega) (by omega)⟩
    refine ⟨hs, ?_⟩
    have := hle (Od.swap (ofR us ws) i j) (Od.swap_ord ho (by omega) (by omega))
    simp only [swI, hs, if_true, Int.toNat_natCast]; omega
set_option maxRecDepth 100000 in
set_option maxHeartbeats 1000000 in
theorem lRa_long {a1 a2 : Option Addr} {len1 cap1 len2 cap2 : Nat} {w : World} (h1 : (1048576 : Int) < wrap64 ((len1 : Int) + (len2 : Int))) :
    Calls Try.prog 5 #[.slice a1 len1 cap1, .slice a2 len2 cap2] w fun e w' => e = .returned (.bool true) ∧ Below w.heap.size w w' := by
  go_enter Try.func5, Try.ntmps5
  go_wp2_with fail
  go_ret
  exact ⟨rfl, Below.refl _ _⟩
/-- What SwapGain answers where it tells true. -/
theorem sg_facts {us ws os : List Int} {x y : Int} {n : Nat} (hu : us.length = n) (hw : ws.length = n) (ho : os.length = n) (h : swB us ws os x y = true) :
    ∃ i j p q : Nat, x = (i : Int) ∧ y = (j : Int) ∧ i < n ∧ j < n ∧ p < n ∧ q < n ∧ os.getD i 0 = (p : Int) ∧ os.getD j 0 = (q : Int) ∧
      swI us ws os x y = (us.getD p 0 - us.getD q 0) * (ws.getD i 0 - ws.getD j 0) ∧ -10000000 ≤ swI us ws os x y ∧ swI us ws os x y ≤ 10000000 ∧
      (0 ≤ us.getD p 0 ∧ us.getD p 0 ≤ 1000) ∧ (0 ≤ us.getD q 0 ∧ us.getD q 0 ≤ 1000) ∧ (0 ≤ ws.getD i 0 ∧ ws.getD i 0 ≤ 1000) ∧ 0 ≤ ws.getD j 0 ∧ ws.getD j 0 ≤ 1000 := by
  obtain ⟨h1, h2, h3, h4⟩ := swB_parts h
  obtain ⟨g1, g2, g3, g4⟩ := Od.waysB_yes h1
  have k3 := Pf.inB_yes h3
  have k4 := Pf.inB_yes h4
  obtain ⟨i, rfl⟩ : ∃ i : Nat, x = (i : Int) := ⟨x.toNat, by omega⟩
  obtain ⟨j, rfl⟩ : ∃ j : Nat, y = (j : Int) := ⟨y.toNat, by omega⟩
  have hi : i < us.length := by omega
  have hj : j < us.length := by omega
  have e := Od.swap_gain (us := us) (ws := ws) (os := os) (i := i) (j := j) (by omega) (by omega)
  have b1 := cost_bd rfl g2 g3 g4 g1 h2
  have b2 := cost_bd rfl g2 g3 g4 g1 (Od.swap_ord h2 hi hj)
  have e2 : swI us ws os i j = Od.cost us ws os - Od.cost us ws (Od.swap os i j) := by simp [swI, h]
  refine ⟨i, j, Od.nth os i, Od.nth os j, rfl, rfl, by omega, by omega, by have := Od.nth_lt h2 hi; omega, by have := Od.nth_lt h2 hj; omega, Od.nth_cast h2 hi, Od.nth_cast h2 hj, by rw [e2]; exact e, by omega, by omega, ?_, ?_, ?_, ?_⟩
  · exact Pf.inB_yes (Pf.allB_get g3 (Od.nth_lt h2 hi))
  · exact Pf.inB_yes (Pf.allB_get g3 (Od.nth_lt h2 hj))
  · exact Pf.inB_yes (Pf.allB_get g4 (show i < ws.length by omega))
  · exact Pf.inB_yes (Pf.allB_get g4 (show j < ws.length by omega))
/-- The lists that the region reads, and what was there. -/
structure RaS (w0 w : World) (au aw ao a2 : Option Addr) (us ws os zs : List Int) : Prop where
  u : ARow w au us
  y : ARow w aw ws
  o : ARow w ao os
  z : BRow w a2 zs
  b : Below w0.heap.size w0 w
theorem RaS.below {w0 w w' : World} {au aw ao a2 : Option Addr} {us ws os zs : List Int} (h : RaS w0 w au aw ao a2 us ws os zs) (hb : Below w.heap.size w w') : RaS w0 w' au aw ao a2 us ws os zs :=
  ⟨h.u.below hb, h.y.below hb, h.o.below hb, h.z.below hb, h.b.trans (hb.mono h.b.size)⟩
theorem RaS.drew {w0 w : World} {au aw ao a2 : Option Addr} {us ws os zs : List Int} (h : RaS w0 w au aw ao a2 us ws os zs) : RaS w0 w.drew au aw ao a2 us ws os zs := h.below (below_drewN (Below.refl _ _) 1)
set_option maxRecDepth 100000 in
set_option maxHeartbeats 8000000 in
theorem lRa_main {a1 a2 : Option Addr} {len1 cap1 len2 cap2 : Nat} {w : World} (hs1 : Hid (Src w a1 len1)) (hs2 : Hid (Src w a2 len2)) (h1 : ¬ (1048576 : Int) < wrap64 ((len1 : Int) + (len2 : Int))) (hl2 : len2 ≤ 1048576) :
    Calls Try.prog 5 #[.slice a1 len1 cap1, .slice a2 len2 cap2] w fun e w' => e = .returned (.bool true) ∧ Below w.heap.size w w' := by
  go_enter Try.func5, Try.ntmps5
  go_wp2_with fail
  refine (drawOC_any hs1).mono ?_
  rintro e w1 ⟨au, cu, aw, cw, ao, co, us, ws, os, n, rfl, hul, hwl, hol, hn, hco, ru, rw', ro, hb1⟩
  have HF := hide fun (h : Od.waysB us ws = true) => ra_facts hul h
  have hrl : (ofR us ws).length ≤ 11 := by have := ra_len us ws; omega
  have HI := hide (fun (w' : World) (hu : ARow w' au us) (hw : ARow w' aw ws) (ho : ARow w' ao os) => oc_w (c := cu) (d := cw) (e' := co) hul hwl hol hu hw ho)
  have HS := hide (fun (w' : World) (hu : ARow w' au us) (hw : ARow w' aw ws) (ho : ARow w' ao os) => soc_w (c := cu) (d := cw) (e' := co) hul hwl hol hco hu hw ho)
  have HO := hide (fun (w' : World) (hu : ARow w' au us) (hw : ARow w' aw ws) => of_q (c := cu) (d := cw) hul hwl hu hw)
  have HSO := hide (fun (w' : World) (hu : ARow w' au us) (hw : ARow w' aw ws) => sof_q (c := cu) (d := cw) hul hwl hu hw)
  have HIR := hide (fun (w' : World) (v : Option Addr) (cv : Nat) (hu : ARow w' au us) (hw : ARow w' aw ws) (ho : ARow w' v (ofR us ws)) => oc_w (c := cu) (d := cw) (e' := cv) hul hwl rfl hu hw ho)
  have HIO := hide (fun (w' : World) (v : Option Addr) (cv : Nat) (ho : ARow w' v (ofR us ws)) => io_w (c := cv) (k := (n : Int)) rfl ho)
  have HSW := hide (fun (w' : World) (v : Option Addr) (cv i j : Nat) (hu : ARow w' au us) (hw : ARow w' aw ws) (ho : ARow w' v (ofR us ws)) => sw_w (c := cu) (d := cw) (e' := cv) (a := (i : Int)) (b := (j : Int)) hul hwl rfl hu hw ho)
  have R1 := hide (show ARow w1 au us ∧ ARow w1 aw ws ∧ ARow w1 ao os ∧ Below w.heap.size w w1 from ⟨ru, rw', ro, hb1⟩)
  have HOS := hide fun (h : Od.waysB us ws = true) (h2 : ocB us ws os = true) => (ra_facts hul h).2.2.2.2.2.1 os h2
  clear ru rw' ro hb1 hul hwl hol hco
  generalize ocB us ws os = ok at *
  generalize ocI us ws os = N at *
  generalize Od.waysB us ws = one at *
  generalize ocI us ws (ofR us ws) = M at *
  generalize ocB us ws (ofR us ws) = two at *
  generalize ofR us ws = rs at *
  have h01 : (ok != ok) = false := by simp
  have h02 : (N != N) = false := by simp
  have h03 : (one != one) = false := by simp
  go_wp2_with fail
  refine (HI.out _ R1.out.1 R1.out.2.1 R1.out.2.2.1).mono ?_
  rintro e w2 ⟨rfl, hb2⟩
  have R2 := hide (show ARow w2 au us ∧ ARow w2 aw ws ∧ ARow w2 ao os ∧ Below w.heap.size w w2 from ⟨R1.out.1.below hb2, R1.out.2.1.below hb2, R1.out.2.2.1.below hb2, R1.out.2.2.2.trans (hb2.mono R1.out.2.2.2.size)⟩)
  clear hb2 R1 HI
  go_wp2_with fail
  refine (HS.out _ R2.out.1 R2.out.2.1 R2.out.2.2.1).mono ?_
  rintro e w3 ⟨rfl, hb3⟩
  have R3 := hide (show ARow w3 au us ∧ ARow w3 aw ws ∧ Below w.heap.size w w3 from ⟨R2.out.1.below hb3, R2.out.2.1.below hb3, R2.out.2.2.2.trans (hb3.mono R2.out.2.2.2.size)⟩)
  clear hb3 R2 HS
  go_wp2_with fail
  refine (HO.out _ R3.out.1 R3.out.2.1).mono ?_
  rintro e w4 ⟨v4, c4, rfl, r4, hb4⟩
  have R4 := hide (show ARow w4 au us ∧ ARow w4 aw ws ∧ ARow w4 v4 rs ∧ Below w.heap.size w w4 from ⟨R3.out.1.below hb4, R3.out.2.1.below hb4, r4, R3.out.2.2.trans (hb4.mono R3.out.2.2.size)⟩)
  clear hb4 r4 R3 HO
  go_wp2_with fail
  refine (HSO.out _ R4.out.1 R4.out.2.1).mono ?_
  rintro e w5 ⟨v5, c5, rfl, r5, hb5⟩
  have R5 := hide (show ARow w5 au us ∧ ARow w5 aw ws ∧ ARow w5 v4 rs ∧ Below w.heap.size w w5 from ⟨R4.out.1.below hb5, R4.out.2.1.below hb5, R4.out.2.2.1.below hb5, R4.out.2.2.2.trans (hb5.mono R4.out.2.2.2.size)⟩)
  have R5' := hide r5
  clear hb5 r5 R4 HSO
  go_wp2_with fail
  refine (sameI_b rfl (by omega) R5.out.2.2.1 R5'.out).mono ?_
  rintro e w6 ⟨rfl, hb6⟩
  have R6 := hide (show ARow w6 au us ∧ ARow w6 aw ws ∧ ARow w6 v4 rs ∧ Below w.heap.size w w6 from ⟨R5.out.1.below hb6, R5.out.2.1.below hb6, R5.out.2.2.1.below hb6, R5.out.2.2.2.trans (hb6.mono R5.out.2.2.2.size)⟩)
  clear hb6 R5 R5'
  go_upto_if 94 with fail
  clear h01 h02 h03
  go_cut [4, 16, 17, 18, 19, 20, 21] (fun s4 _ _ _ _ _ _ wd => s4 = .bool false ∧ Hid (Below w.heap.size w wd))
  case first =>
    cases one
    · go_wp2_with fail
      go_meet
      case rel => exact ⟨rfl, hide R6.out.2.2.2⟩
    · obtain ⟨hrn, hn10, rfl, hb10, hi10, _, hsw⟩ := HF.out rfl
      have HNO := hide (HOS.out rfl)
      have HSWF := hide hsw
      rw [hb10, hi10] at HIO
      obtain ⟨zs, hz, hrow⟩ := src_row7 (hs2.out.below R6.out.2.2.2)
      have nb := @numUp_bd7 zs len2
      have HNU := hide (fun (w' : World) (hb : BRow w' a2 zs) => num_of (c := cap2) hz hb hl2)
      have HZ := hide hrow
      generalize numUp zs len2 = NU at *
      clear HF HOS hrn hsw hz hrow hb10 hi10
      go_wp2_with fail
      refine (HIR.out _ _ _ R6.out.1 R6.out.2.1 R6.out.2.2.1).mono ?_
      rintro e w7 ⟨rfl, hb7⟩
      have S7 : Hid (RaS w w7 au aw v4 a2 us ws rs zs) := hide ⟨R6.out.1.below hb7, R6.out.2.1.below hb7, R6.out.2.2.1.below hb7, HZ.out.below hb7, R6.out.2.2.2.trans (hb7.mono R6.out.2.2.2.size)⟩
      clear hb7 R6 HZ HIR
      go_wp2_with fail
      refine (HIO.out _ _ _ S7.out.o).mono ?_
      rintro e w8 ⟨rfl, hb8⟩
      have S8 := hide (S7.out.below hb8)
      clear hb8 S7 HIO
      have HT := HNO
      clear HNO
      by_cases hn0 : 0 < n
      · have n0 : (0 : Int) < (n : Int) := by omega
        obtain ⟨Q, hQ⟩ : ∃ Q, Q = NU / 11 := ⟨_, rfl⟩
        obtain ⟨i, hi⟩ : ∃ i : Nat, (i : Int) = NU % (n : Int) := ⟨(NU % (n : Int)).toNat, Int.toNat_of_nonneg (Int.emod_nonneg _ (by omega))⟩
        obtain ⟨j, hj⟩ : ∃ j : Nat, (j : Int) = Q % (n : Int) := ⟨(Q % (n : Int)).toNat, Int.toNat_of_nonneg (Int.emod_nonneg _ (by omega))⟩
        have hin : i < n := by have := Int.emod_lt_of_pos NU n0; omega
        have hjn : j < n := by have := Int.emod_lt_of_pos Q n0; omega
        have m1 : NU.tmod (n : Int) = (i : Int) := by rw [Int.tmod_eq_emod_of_nonneg (by omega), hi]
        have m2 : NU.tdiv 11 = Q := by rw [Int.tdiv_eq_ediv_of_nonneg (by omega), hQ]
        have m3 : Q.tmod (n : Int) = (j : Int) := by rw [Int.tmod_eq_emod_of_nonneg (by omega), hj]
        have q1 : 0 ≤ Q ∧ Q ≤ 1000003 := by omega
        have p1 : IntKind.i64.wrap Q = Q := by rw [IntKind.wrap_i64]; omega
        have p1' : wrap64 Q = Q := by unfold wrap64; omega
        have z3 : ¬ n = 0 := by omega
        have z4 : (n == 0) = false := by simpa using z3
        have p2 : IntKind.i64.wrap (i : Int) = (i : Int) := by rw [IntKind.wrap_i64]; omega
        have p3 : IntKind.i64.wrap (j : Int) = (j : Int) := by rw [IntKind.wrap_i64]; omega
        have z1 : (n : Int) ≠ 0 := by omega
        have z2 : ((n : Int) == 0) = false := beq_eq_false_iff_ne.2 z1
        obtain ⟨hsb, hsi⟩ := HSWF.out i j hin hjn
        have HSX := hide (fun (w' : World) (hu : ARow w' au us) (hw : ARow w' aw ws) (ho : ARow w' v4 rs) => HSW.out w' v4 c4 i j hu hw ho)
        rw [hsb] at HSX
        generalize swI us ws rs i j = GV at *
        clear hi hQ hj HSWF HSW hsb nb hin hjn q1
        cases ok
        · clear HT
          go_wp2_with fail
          go_region_held3 (fun w' => RaS w w' au aw v4 a2 us ws rs zs)
            (first | exact S8.out.drew | assumption | exact RaS.below ‹_› (by assumption))
            (first
            | (go_at_call 33; refine (HNU.out _ (RaS.z ‹_›)).mono ?_; rintro e wq ⟨rfl, rfl⟩)
            | (go_at_call 32; refine (HSX.out _ (RaS.u ‹_›) (RaS.y ‹_›) (RaS.o ‹_›)).mono ?_; rintro e wq ⟨rfl, hbq⟩))
          go_wp2_with fail
          go_meet
          case rel => exact ⟨rfl, hide (RaS.b ‹_›)⟩
        · have hnm : ¬ N < M := by have := HT.out rfl; omega
          clear HT
          go_wp2_with fail
          go_region_held3 (fun w' => RaS w w' au aw v4 a2 us ws rs zs)
            (first | exact S8.out.drew | assumption | exact RaS.below ‹_› (by assumption))
            (first
            | (go_at_call 33; refine (HNU.out _ (RaS.z ‹_›)).mono ?_; rintro e wq ⟨rfl, rfl⟩)
            | (go_at_call 32; refine (HSX.out _ (RaS.u ‹_›) (RaS.y ‹_›) (RaS.o ‹_›)).mono ?_; rintro e wq ⟨rfl, hbq⟩))
          go_wp2_with fail
          go_meet
          case rel => exact ⟨rfl, hide (RaS.b ‹_›)⟩
      · have n0 : ¬ (0 : Int) < (n : Int) := by omega
        clear hn0 HSW HSWF HNU nb
        cases ok
        · clear HT
          go_wp2_with fail
          go_meet
          case rel => exact ⟨rfl, hide S8.out.b⟩
        · have hnm : ¬ N < M := by have := HT.out rfl; omega
          clear HT
          go_wp2_with fail
          go_meet
          case rel => exact ⟨rfl, hide S8.out.b⟩
  case rest =>
    obtain ⟨rfl, HB9⟩ := hcut
    clear R6 HF HOS HIR HIO HSW hrl
    have S9 := hide (hs2.out.below HB9.out)
    go_wp2_with fail
    refine (drawPC_any S9).mono ?_
    rintro e w10 ⟨pu, cpu, pw, cpw, pus, pws, pn, rfl, hpu, hpw, hpn, rpu, rpw, hb10⟩
    have HP := hide (fun (w' : World) (hu : ARow w' pu pus) (hw : ARow w' pw pws) => pc_w (c := cpu) (d := cpw) hpu hpw hu hw)
    have HQ := hide (fun (w' : World) (hu : ARow w' pu pus) (hw : ARow w' pw pws) => spc_w (c := cpu) (d := cpw) hpu hpw hu hw)
    have R10 := hide rpu
    have Q10 := hide rpw
    have B10 := hide (HB9.out.trans (hb10.mono HB9.out.size))
    have S10 := hide (S9.out.below hb10)
    clear rpu rpw hb10 HB9 S9 hpu hpw
    generalize pcI pus pws = PV at *
    generalize Od.waysB pus pws = pok at *
    go_wp2_with fail
    refine (HP.out _ R10.out Q10.out).mono ?_
    rintro e w11 ⟨rfl, hb11⟩
    have R11 := hide (R10.out.below hb11)
    have Q11 := hide (Q10.out.below hb11)
    have B11 := hide (B10.out.trans (hb11.mono B10.out.size))
    have S11 := hide (S10.out.below hb11)
    clear hb11 R10 Q10 B10 S10 HP
    go_wp2_with fail
    refine (HQ.out _ R11.out Q11.out).mono ?_
    rintro e w12 ⟨rfl, hb12⟩
    have B12 := hide (B11.out.trans (hb12.mono B11.out.size))
    have S12 := hide (S11.out.below hb12)
    clear hb12 R11 Q11 B11 S11 HQ
    go_wp2_with fail
    refine (drawSG_any S12).mono ?_
    rintro e w13 ⟨gu, cgu, gw, cgw, gl, cgl, gus, gws, gos, x, y, gn, rfl, hgu, hgw, hgo, hgn, hgc, r1, r2, r3, hb13⟩
    have HP := hide (fun (w' : World) (hu : ARow w' gu gus) (hw : ARow w' gw gws) (ho : ARow w' gl gos) => sw_w (c := cgu) (d := cgw) (e' := cgl) (a := x) (b := y) hgu hgw hgo hu hw ho)
    have HQ := hide (fun (w' : World) (hu : ARow w' gu gus) (hw : ARow w' gw gws) (ho : ARow w' gl gos) => ssw_w (c := cgu) (d := cgw) (e' := cgl) (a := x) (b := y) hgu hgw hgo hgc hu hw ho)
    have HF := hide fun (h : swB gus gws gos x y = true) => sg_facts hgu hgw hgo h
    have HGU := hide hgu
    have HGW := hide hgw
    have HGO := hide hgo
    have R13 := hide (show ARow w13 gu gus ∧ ARow w13 gw gws ∧ ARow w13 gl gos ∧ Below w.heap.size w w13 from ⟨r1, r2, r3, B12.out.trans (hb13.mono B12.out.size)⟩)
    clear r1 r2 r3 hb13 B12 S12 hgu hgw hgo
    generalize swB gus gws gos x y = four at *
    generalize swI gus gws gos x y = GG at *
    go_wp2_with fail
    refine (HP.out _ R13.out.1 R13.out.2.1 R13.out.2.2.1).mono ?_
    rintro e w14 ⟨rfl, hb14⟩
    have R14 := hide (show ARow w14 gu gus ∧ ARow w14 gw gws ∧ ARow w14 gl gos ∧ Below w.heap.size w w14 from ⟨R13.out.1.below hb14, R13.out.2.1.below hb14, R13.out.2.2.1.below hb14, R13.out.2.2.2.trans (hb14.mono R13.out.2.2.2.size)⟩)
    clear hb14 R13 HP
    go_wp2_with fail
    refine (HQ.out _ R14.out.1 R14.out.2.1 R14.out.2.2.1).mono ?_
    rintro e w15 ⟨rfl, hb15⟩
    have R15 := hide (show ARow w15 gu gus ∧ ARow w15 gw gws ∧ ARow w15 gl gos ∧ Below w.heap.size w w15 from ⟨R14.out.1.below hb15, R14.out.2.1.below hb15, R14.out.2.2.1.below hb15, R14.out.2.2.2.trans (hb15.mono R14.out.2.2.2.size)⟩)
    clear hb15 R14 HQ
    have h01 : (pok != pok) = false := by simp
    have h02 : (PV != PV) = false := by simp
    have h03 : (four != four) = false := by simp
    have h04 : (GG != GG) = false := by simp
    cases four
    · clear HF
      go_wp2_with fail
      go_ret
      exact ⟨rfl, R15.out.2.2.2⟩
    · obtain ⟨i, j, p, q, rfl, rfl, hi, hj, hp, hq, e1, e2, e3, e4, e5, ⟨b1, b2⟩, ⟨b3, b4⟩, ⟨b5, b6⟩, b7, b8⟩ := HF.out rfl
      obtain ⟨bl, ol, rfl, c1⟩ := R15.out.2.2.1.at (i := i) (by rw [HGO.out]; exact hi)
      obtain ⟨_, _, ee, c2⟩ := R15.out.2.2.1.at (i := j) (by rw [HGO.out]; exact hj)
      cases ee
      obtain ⟨bu, ou, rfl, c3⟩ := R15.out.1.at (i := p) (by rw [HGU.out]; exact hp)
      obtain ⟨_, _, ee, c4⟩ := R15.out.1.at (i := q) (by rw [HGU.out]; exact hq)
      cases ee
      obtain ⟨bw, ow, rfl, c5⟩ := R15.out.2.1.at (i := i) (by rw [HGW.out]; exact hi)
      obtain ⟨_, _, ee, c6⟩ := R15.out.2.1.at (i := j) (by rw [HGW.out]; exact hj)
      cases ee
      rw [e1] at c1
      rw [e2] at c2
      generalize gus.getD p 0 = A at *
      generalize gus.getD q 0 = B at *
      generalize gws.getD i 0 = X at *
      generalize gws.getD j 0 = Y at *
      have i0 : (0 : Int) ≤ (i : Int) := by omega
      have i1 : (i : Int) < (gn : Int) := by omega
      have j0 : (0 : Int) ≤ (j : Int) := by omega
      have j1 : (j : Int) < (gn : Int) := by omega
      have p0 : (0 : Int) ≤ (p : Int) := by omega
      have p1 : (p : Int) < (gn : Int) := by omega
      have q0 : (0 : Int) ≤ (q : Int) := by omega
      have q1 : (q : Int) < (gn : Int) := by omega
      have s1 : IntKind.i64.wrap (A - B) = A - B := by rw [IntKind.wrap_i64]; omega
      have s2 : IntKind.i64.wrap (X - Y) = X - Y := by rw [IntKind.wrap_i64]; omega
      have s3 : IntKind.i64.wrap ((A - B) * (X - Y)) = GG := by rw [← e3, IntKind.wrap_i64]; omega
      have s4 : (GG == GG) = true := by simp
      have HBZ := hide R15.out.2.2.2
      clear e1 e2 e3 e4 e5 b1 b2 b3 b4 b5 b6 b7 b8 R15 HF HGU HGW HGO
      go_wp2_with fail
      go_quiet (fail)
      go_wp2_with fail
      go_ret
      exact ⟨rfl, below_drewN HBZ.out _⟩
theorem lRa_walk {a1 a2 : Option Addr} {len1 cap1 len2 cap2 : Nat} {w : World} (hs1 : Src w a1 len1) (hs2 : Src w a2 len2) (m1 : len1 ≤ 140737488351232) (m2 : len2 ≤ 140737488351232) :
    Calls Try.prog 5 #[.slice a1 len1 cap1, .slice a2 len2 cap2] w fun e w' => e = .returned (.bool true) ∧ Below w.heap.size w w' := by
  by_cases h1 : (1048576 : Int) < wrap64 ((len1 : Int) + (len2 : Int))
  · exact lRa_long h1
  · refine lRa_main (hide hs1) (hide hs2) h1 ?_
    rw [wrap_id _ (by omega) (by omega)] at h1
    omega
end Go.Proofs.Ytljccbnkibfimaa
