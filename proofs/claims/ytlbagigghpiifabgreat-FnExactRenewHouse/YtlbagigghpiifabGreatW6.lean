/-
  In one: LDc17, LHf17, Og, Ol, Os15, Op, Oh17.
-/
import Derived.Test.YtlbagigghpiifabGreatW5
import Derived.Deep.DeepCutAuto
import Derived.Deep.RegionHeld3
import Derived.Test.YtlbagigghpiifabGreatW3
import Derived.ChangeSlices
import Derived.ProofKit
import Derived.OpenShut
import Derived.ChangeOld
import Derived.Below
import Derived.Deep.SlicePairs
import Derived.Test.YtlbagigghpiifabGreatW1
import Derived.Deep.Strs
namespace Go.Proofs.YtlbagigghpiifabGreat
open Go.RowKit

/-- What was handed in lies in two variables. -/
structure DL (w : World) (v0 v1 va vb vc : Value) (W : World) : Prop where
  s : PBox W w.heap.size v0 v1
  h : HBox W (w.heap.size + 1) va vb vc
  b : Below w.heap.size w W
theorem DL.below {w W W' : World} {v0 v1 va vb vc : Value} (h : DL w v0 v1 va vb vc W) (hb : Below W.heap.size W W') : DL w v0 v1 va vb vc W' := ⟨h.s.below hb, h.h.below hb, h.b.trans (hb.mono h.b.size)⟩
theorem DL.new (w : World) (v0 v1 va vb vc : Value) (t u : TypeId) : DL w v0 v1 va vb vc ((w.alloc (.cells #[v0, v1] t)).alloc (.cells #[va, vb, vc] u)) := by
  have b0 := below_new w (.cells #[v0, v1] t)
  have b1 := below_new (w.alloc (.cells #[v0, v1] t)) (.cells #[va, vb, vc] u)
  have h1 := HBox.new (w.alloc (.cells #[v0, v1] t)) va vb vc u
  rw [World.size_alloc] at h1
  exact ⟨(PBox.new w v0 v1 t).below b1, h1, b0.trans (b1.mono (by simp))⟩
/-- A variable that is not written yet. -/
structure VF17 (lo D : Nat) (W : World) : Prop where
  c0 : W.cell? ⟨D, 0, none⟩ = some (.int .i64 0)
  c1 : W.cell? ⟨D, 1, none⟩ = some (.int .i64 0)
  f0 : W.frozen? ⟨D, 0, none⟩ = false
  f1 : W.frozen? ⟨D, 1, none⟩ = false
  lo : lo ≤ D
  lt : D < W.heap.size
theorem VF17.new (W : World) {lo : Nat} (h : lo ≤ W.heap.size) (t : TypeId) : VF17 lo W.heap.size (W.alloc (.cells #[.int .i64 0, .int .i64 0] t)) := ⟨by simp [go_sem], by simp [go_sem], by simp [go_sem], by simp [go_sem], h, by simp⟩
theorem VF17.below {lo D : Nat} {W W' : World} (h : VF17 lo D W) (hb : Below W.heap.size W W') : VF17 lo D W' :=
  ⟨(hb.cell (p := ⟨D, 0, none⟩) h.lt).trans h.c0, (hb.cell (p := ⟨D, 1, none⟩) h.lt).trans h.c1, (hb.frozen (p := ⟨D, 0, none⟩) h.lt).trans h.f0, (hb.frozen (p := ⟨D, 1, none⟩) h.lt).trans h.f1, h.lo, Nat.lt_of_lt_of_le h.lt hb.size⟩
theorem VF17.put {lo D : Nat} {W : World} (h : VF17 lo D W) (x y : Int) : PBox ((W.setCell ⟨D, 0, none⟩ (.int .i64 x)).setCell ⟨D, 1, none⟩ (.int .i64 y)) D (.int .i64 x) (.int .i64 y) := by
  obtain ⟨p0, p1, _, _⟩ := putFr2 (W := W) (B := D) (i := 0) (x := .int .i64 x) (y := .int .i64 y) (by rw [h.c0]; rfl) (by rw [h.c1]; rfl)
  exact ⟨p0, p1, by simpa using h.lt⟩
set_option maxRecDepth 100000 in
set_option maxHeartbeats 8000000 in
theorem lDc17_main {a a' : Option Addr} {n c n' c' r : Nat} {ok : Bool} {gs : List Gd} {ls : List (Int × Int)} {R1 R2 : List Int} {ha hb ho : Option Addr} {hn hm hq hc hd he : Nat} {ws cs os : List Int} {w : World} (HN : Hid (gs.length = n)) (HM : Hid (n ≤ maxLen)) (HF : Hid (Fits gs)) (HA : Hid (GRow w a gs)) (HN' : Hid (ls.length = n')) (HM' : Hid (n' ≤ maxLen)) (HA' : Hid (LRow w a' ls))
    (HR1 : Hid (R1.length = r)) (HOK : Hid (ok = false → R1 = [])) (HSs : Hid (n ≤ 1048576 → n' ≤ 1048576 → SpAns 42 n n' r ok gs ls R1 R2)) (HIs : Hid (n ≤ 1048576 → n' ≤ 1048576 → SpAns 28 n n' r ok gs ls R1 R2))
    (HHN : Hid (ws.length = hn)) (HHM : Hid (cs.length = hm)) (HHQ : Hid (os.length = hq)) (hl : hn ≤ maxLen ∧ hm ≤ maxLen ∧ hq ≤ maxLen) (HWR : Hid (ARow w ha ws)) (HCR : Hid (ARow w hb cs)) (HOR : Hid (ARow w ho os)) :
    Calls Tryz.prog 3 #[.agg #[.slice a n c, .slice a' n' c'], .agg #[.slice ha hn hc, .slice hb hm hd, .slice ho hq he]] w fun e w' => e = .returned (.bool true) ∧ Below w.heap.size w w' := by
  have HD := hide (DL.new w (.slice a n c) (.slice a' n' c') (.slice ha hn hc) (.slice hb hm hd) (.slice ho hq he) 25 28)
  have HTS := hide fun (W : World) (h1 : n ≤ 1048576) (h2 : n' ≤ 1048576) (hb : Below w.heap.size w W) => toSh_any (c := c) (c' := c') HN h1 (hide (HA.out.below hb)) HN' h2 (hide (HA'.out.below hb))
  have HTH := hide fun (W : World) (h1 : hn ≤ 1048576) (h2 : hm ≤ 1048576) (h3 : hq ≤ 1048576) (hb' : Below w.heap.size w W) => toH_any (c := hc) (d := hd) (e' := he) HHN HHM HHQ h1 h2 h3 (hide (HWR.out.below hb')) (hide (HCR.out.below hb')) (hide (HOR.out.below hb'))
  have HSZ := hide fun (W : World) (hb : Below w.heap.size w W) => szSh_any (a' := a') (c := c) (c' := c') (left := 1048576) HN HM HF (hide (HA.out.below hb)) HM' (by omega) (by omega)
  obtain ⟨q1, q2, hpq⟩ : ∃ q1 q2, Hs.trF R1 cs ws os = (q1, q2) := ⟨_, _, rfl⟩
  have HSD := hide fun (W : World) (X Y x y z : Nat) (hS : SpAns 42 n n' r ok gs ls R1 R2) (hsh : Short gs) (ht : TS W X Y n n' gs ls) (h1 : hn ≤ 1048576) (h3 : hq ≤ 1048576) (r1 : ARow W (some ⟨x, 0, none⟩) ws) (r2 : ARow W (some ⟨y, 0, none⟩) cs) (r3 : ARow W (some ⟨z, 0, none⟩) os) => sdc_any (c := hn) (d := hm) (e := hq) (hide hS) HOK (hide hsh) (hide ht) HR1 HHN h1 HHM HHQ h3 (hide r1) (hide r2) (hide r3)
  have HID := hide fun (W : World) (X Y x y z : Nat) (hS : SpAns 28 n n' r ok gs ls R1 R2) (hsh : Short gs) (ht : TS W X Y n n' gs ls) (h3 : hq ≤ 1048576) (r1 : ARow W (some ⟨x, 0, none⟩) ws) (r2 : ARow W (some ⟨y, 0, none⟩) cs) (r3 : ARow W (some ⟨z, 0, none⟩) os) => dc_any (c := hn) (d := hm) (e := hq) (hide hS) (hide hsh) (hide ht) HR1 HHN HHM HHQ h3 (hide r1) (hide r2) (hide r3)
  simp only [fb_eq, hpq] at HSD HID
  generalize Hs.trG R1 cs ws os = qb at *
  have hne : (qb != qb) = false := by simp
  clear hpq
  go_enter Tryz.func3, Tryz.ntmps3
  go_wp2_with fail
  generalize ((w.alloc (.cells #[.slice a n c, .slice a' n' c'] 25)).alloc (.cells #[.slice ha hn hc, .slice hb hm hd, .slice ho hq he] 28)) = W0 at *
  refine (HSZ.out _ HD.out.b).mono ?_
  rintro _ w1 ⟨left, rfl, hl1, hl2, hb1⟩
  have HD1 := hide (HD.out.below hb1)
  clear hb1 HD HSZ
  obtain ⟨h0, h1, h2, _⟩ := HD1.out.h
  rcases hl2 with rfl | ⟨hl0, hng, hnl, hsh⟩
  · go_wp2_with fail
    go_ret
    exact ⟨rfl, HD1.out.b⟩
  have HSh := hide hsh
  have hl3 : ¬ left < 0 := by omega
  clear hsh
  by_cases htot : (hn : Int) + hm + hq ≤ left
  rotate_left
  · go_wp2_with fail
    refine (szH_no (by omega) hl1 hl.1 hl.2.1 hl.2.2 (by omega)).mono ?_
    rintro _ w2 ⟨rfl, hb2⟩
    have HD2 := hide (HD1.out.below hb2)
    clear h0 h1 h2 hb2
    go_wp2_with fail
    go_ret
    exact ⟨rfl, HD2.out.b⟩
  have hleft : ¬ left - (hn : Int) - (hm : Int) - (hq : Int) < 0 := by omega
  go_wp2_with fail
  refine (szH_yes (by omega) hl1 (by omega)).mono ?_
  rintro _ w2 ⟨rfl, hb2⟩
  have HD2 := hide (HD1.out.below hb2)
  have g1 : hn ≤ 1048576 := by omega
  have g2 : hm ≤ 1048576 := by omega
  have g3 : hq ≤ 1048576 := by omega
  clear h0 h1 h2 hb2 HD1
  go_upto_region 8 with fail
  go_cut [6, 7] (fun s6 s7 wc => ∃ D : Nat, s6 = .pointer (some ⟨D, 0, none⟩) ∧ s7 = .bool qb ∧ Hid (PBox wc D (.int .i64 q1) (.int .i64 q2)) ∧ Hid (DL w (.slice a n c) (.slice a' n' c') (.slice ha hn hc) (.slice hb hm hd) (.slice ho hq he) wc))
  case first =>
    refine wp_region_noPanic ?_
    refine wp_region_held_drew (S := fun w' => Below w2.heap.size w2 w') (by kernel_rfl) ((Below.refl _ _).drew) (fun hHeld => ?_)
    refine wpAnyH_take (i := 0) (oi := ⟨some 23, _, _, _, _, none⟩) (v := .agg #[.slice a n c, .slice a' n' c']) rfl (by kernel_rfl) (by kernel_rfl) (by kernel_rfl) (fun _ _ _ h => h) (Or.inl ⟨by rfl, fun w' hSw => by obtain ⟨p0, p1, _⟩ := (HD2.out.below hSw).s; clear hSw; go_simp⟩) hHeld ?_
    simp only [Act.put, List.setIfInBounds_toArray, List.set_cons_zero, List.set_cons_succ]
    refine wpAnyH_take (i := 2) (oi := ⟨some 25, _, _, _, _, none⟩) (v := .agg #[.slice ha hn hc, .slice hb hm hd, .slice ho hq he]) rfl (by kernel_rfl) (by kernel_rfl) (by kernel_rfl) (fun _ _ _ h => h) (Or.inl ⟨by rfl, fun w' hSw => by obtain ⟨x0, x1, x2, _⟩ := (HD2.out.below hSw).h; clear hSw; go_simp⟩) hHeld ?_
    simp only [Act.put, List.setIfInBounds_toArray, List.set_cons_zero, List.set_cons_succ]
    refine wpAnyH_ready (rs := [1, 8]) (by kernel_rfl) (by simp) ?_
    refine AllReadyH.cons (o := ⟨some 24, _, _, _, _, none⟩) rfl (fun K hK => ?_) (AllReadyH.cons (o := ⟨some 6, _, _, _, _, none⟩) rfl (fun K hK => ?_) AllReadyH.nil)
    · go_simp
      refine (HTS.out _ hng hnl (HD2.out.below hHeld).b).mono ?_
      rintro _ w3 ⟨X3, Y3, rfl, hb3, _, _, t3⟩
      have T3 := hide t3
      refine hK.out _ _ (hHeld.trans (hb3.mono hHeld.size)) (fun hHeld' => ?_)
      clear hK K hb3 t3 hHeld
      have hHeld := hHeld'
      clear hHeld'
      refine wpAnyH_ready (rs := [3, 8]) (by kernel_rfl) (by simp) ?_
      refine AllReadyH.cons (o := ⟨some 26, _, _, _, _, none⟩) rfl (fun K hK => ?_) (AllReadyH.cons (o := ⟨some 6, _, _, _, _, none⟩) rfl (fun K hK => ?_) AllReadyH.nil)
      · go_simp
        refine (HTH.out _ g1 g2 g3 (HD2.out.below hHeld).b).mono ?_
        rintro _ w4 ⟨x4, y4, z4, rfl, hb4, _, o1, o2, o3⟩
        have r1 := hide (arow_owns HHN.out.symm o1)
        have r2 := hide (arow_owns HHM.out.symm o2)
        have r3 := hide (arow_owns HHQ.out.symm o3)
        refine hK.out _ _ (hHeld.trans (hb4.mono hHeld.size)) (fun hHeld' => ?_)
        have T3' := hide (T3.out.below hb4)
        clear T3
        have T3 := T3'
        clear T3'
        clear hK K hb4 o1 o2 o3 hHeld
        have hHeld := hHeld'
        clear hHeld'
        refine wpAnyH_ready (rs := [4, 8]) (by kernel_rfl) (by simp) ?_
        refine AllReadyH.cons (o := ⟨some 27, _, _, _, _, none⟩) rfl (fun K hK => ?_) (AllReadyH.cons (o := ⟨some 6, _, _, _, _, none⟩) rfl (fun K hK => ?_) AllReadyH.nil)
        · go_simp
          refine (HSD.out _ _ _ _ _ _ (HSs.out hng hnl) HSh.out T3.out g1 g3 r1.out r2.out r3.out).mono ?_
          rintro _ w5 ⟨rfl, hb5⟩
          refine hK.out _ _ (hHeld.trans (hb5.mono hHeld.size)) (fun hHeld' => ?_)
          clear T3 r1 r2 r3
          clear hK K hb5  hHeld
          have hHeld := hHeld'
          clear hHeld'
          refine wpAnyH_take (i := 5) (oi := ⟨some 22, _, _, _, _, none⟩) (v := .tuple #[.agg #[.int .i64 q1, .int .i64 q2], .bool qb]) rfl (by kernel_rfl) (by kernel_rfl) (by kernel_rfl) (fun _ _ _ h => h) (Or.inl ⟨by rfl, fun w' hSw => by clear hSw; go_simp⟩) hHeld ?_
          simp only [Act.put, List.setIfInBounds_toArray, List.set_cons_zero, List.set_cons_succ]
          refine wpAnyH_take (i := 6) (oi := ⟨some 28, _, _, _, _, none⟩) (v := .agg #[.int .i64 q1, .int .i64 q2]) rfl (by kernel_rfl) (by kernel_rfl) (by kernel_rfl) (fun _ _ _ h => h) (Or.inl ⟨by rfl, fun w' hSw => by clear hSw; go_simp⟩) hHeld ?_
          simp only [Act.put, List.setIfInBounds_toArray, List.set_cons_zero, List.set_cons_succ]
          refine wpAnyH_take (i := 7) (oi := ⟨some 29, _, _, _, _, none⟩) (v := .bool qb) rfl (by kernel_rfl) (by kernel_rfl) (by kernel_rfl) (fun _ _ _ h => h) (Or.inl ⟨by rfl, fun w' hSw => by clear hSw; go_simp⟩) hHeld ?_
          simp only [Act.put, List.setIfInBounds_toArray, List.set_cons_zero, List.set_cons_succ]
          refine wpAnyH_ready (rs := [8]) (by kernel_rfl) (by simp) ?_
          refine AllReadyH.cons (o := ⟨some 6, _, _, _, _, none⟩) rfl (fun K hK => ?_) AllReadyH.nil
          go_simp
          refine hK.out _ _ (hHeld.trans ((below_new _ _).mono hHeld.size)) (fun hHeld' => ?_)
          have VF : Hid (VF17 w2.heap.size w5.heap.size (w5.alloc (.cells #[.int .i64 0, .int .i64 0] 32))) := hide (VF17.new _ hHeld.size _)
          clear hK K hHeld
          have hHeld := hHeld'
          clear hHeld'
          generalize w5.alloc (.cells #[.int .i64 0, .int .i64 0] 32) = WA at *
          generalize w5.heap.size = D at VF ⊢
          have c0 := VF.out.c0
          have c1 := VF.out.c1
          have f0 := VF.out.f0
          have f1 := VF.out.f1
          refine wpAnyH_ready (rs := [9]) (by kernel_rfl) (by simp) ?_
          refine AllReadyH.cons (o := ⟨none, _, _, _, _, none⟩) rfl (fun K hK => ?_) AllReadyH.nil
          go_simp
          refine hK.out _ _ ((hHeld.setCell (p := ⟨_, 0, none⟩) VF.out.lo _).setCell (p := ⟨_, 1, none⟩) VF.out.lo _) (fun hHeld' => ?_)
          have PP := hide (VF.out.put q1 q2)
          clear hK K c0 c1 f0 f1 hHeld
          have hHeld := hHeld'
          clear hHeld'
          refine wpAnyH_take (i := 10) (oi := ⟨some 7, _, _, _, _, none⟩) (v := .bool qb) rfl (by kernel_rfl) (by kernel_rfl) (by kernel_rfl) (fun _ _ _ h => h) (Or.inl ⟨by rfl, fun w' hSw => by clear hSw; go_simp⟩) hHeld ?_
          simp only [Act.put, List.setIfInBounds_toArray, List.set_cons_zero, List.set_cons_succ]
          refine wpAnyH_done (by kernel_rfl) ?_ _
          refine NoPanic.normal ?_
          have HDE := hide (HD2.out.below hHeld)
          clear hHeld VF
          go_wp2_with fail
          go_meet
          case rel => exact ⟨_, rfl, rfl, PP, HDE⟩
        · go_simp
          refine hK.out _ _ (hHeld.trans ((below_new _ _).mono hHeld.size)) (fun hHeld' => ?_)
          have VF : Hid (VF17 w2.heap.size w4.heap.size (w4.alloc (.cells #[.int .i64 0, .int .i64 0] 32))) := hide (VF17.new _ hHeld.size _)
          have T3' := hide (T3.out.below (below_new _ (.cells #[.int .i64 0, .int .i64 0] 32)))
          clear T3
          have T3 := T3'
          clear T3'
          have r1' := hide (r1.out.below (below_new _ (.cells #[.int .i64 0, .int .i64 0] 32)))
          clear r1
          have r1 := r1'
          clear r1'
          have r2' := hide (r2.out.below (below_new _ (.cells #[.int .i64 0, .int .i64 0] 32)))
          clear r2
          have r2 := r2'
          clear r2'
          have r3' := hide (r3.out.below (below_new _ (.cells #[.int .i64 0, .int .i64 0] 32)))
          clear r3
          have r3 := r3'
          clear r3'
          clear hK K hHeld
          have hHeld := hHeld'
          clear hHeld'
          generalize w4.alloc (.cells #[.int .i64 0, .int .i64 0] 32) = WA at *
          generalize w4.heap.size = D at VF ⊢
          refine wpAnyH_ready (rs := [4]) (by kernel_rfl) (by simp) ?_
          refine AllReadyH.cons (o := ⟨some 27, _, _, _, _, none⟩) rfl (fun K hK => ?_) AllReadyH.nil
          go_simp
          refine (HSD.out _ _ _ _ _ _ (HSs.out hng hnl) HSh.out T3.out g1 g3 r1.out r2.out r3.out).mono ?_
          rintro _ w5 ⟨rfl, hb5⟩
          refine hK.out _ _ (hHeld.trans (hb5.mono hHeld.size)) (fun hHeld' => ?_)
          have VF' := hide (VF.out.below hb5)
          clear VF
          have VF := VF'
          clear VF'
          clear T3 r1 r2 r3
          clear hK K hb5  hHeld
          have hHeld := hHeld'
          clear hHeld'
          refine wpAnyH_take (i := 5) (oi := ⟨some 22, _, _, _, _, none⟩) (v := .tuple #[.agg #[.int .i64 q1, .int .i64 q2], .bool qb]) rfl (by kernel_rfl) (by kernel_rfl) (by kernel_rfl) (fun _ _ _ h => h) (Or.inl ⟨by rfl, fun w' hSw => by clear hSw; go_simp⟩) hHeld ?_
          simp only [Act.put, List.setIfInBounds_toArray, List.set_cons_zero, List.set_cons_succ]
          refine wpAnyH_take (i := 6) (oi := ⟨some 28, _, _, _, _, none⟩) (v := .agg #[.int .i64 q1, .int .i64 q2]) rfl (by kernel_rfl) (by kernel_rfl) (by kernel_rfl) (fun _ _ _ h => h) (Or.inl ⟨by rfl, fun w' hSw => by clear hSw; go_simp⟩) hHeld ?_
          simp only [Act.put, List.setIfInBounds_toArray, List.set_cons_zero, List.set_cons_succ]
          refine wpAnyH_take (i := 7) (oi := ⟨some 29, _, _, _, _, none⟩) (v := .bool qb) rfl (by kernel_rfl) (by kernel_rfl) (by kernel_rfl) (fun _ _ _ h => h) (Or.inl ⟨by rfl, fun w' hSw => by clear hSw; go_simp⟩) hHeld ?_
          simp only [Act.put, List.setIfInBounds_toArray, List.set_cons_zero, List.set_cons_succ]
          have c0 := VF.out.c0
          have c1 := VF.out.c1
          have f0 := VF.out.f0
          have f1 := VF.out.f1
          refine wpAnyH_ready (rs := [9]) (by kernel_rfl) (by simp) ?_
          refine AllReadyH.cons (o := ⟨none, _, _, _, _, none⟩) rfl (fun K hK => ?_) AllReadyH.nil
          go_simp
          refine hK.out _ _ ((hHeld.setCell (p := ⟨_, 0, none⟩) VF.out.lo _).setCell (p := ⟨_, 1, none⟩) VF.out.lo _) (fun hHeld' => ?_)
          have PP := hide (VF.out.put q1 q2)
          clear hK K c0 c1 f0 f1 hHeld
          have hHeld := hHeld'
          clear hHeld'
          refine wpAnyH_take (i := 10) (oi := ⟨some 7, _, _, _, _, none⟩) (v := .bool qb) rfl (by kernel_rfl) (by kernel_rfl) (by kernel_rfl) (fun _ _ _ h => h) (Or.inl ⟨by rfl, fun w' hSw => by clear hSw; go_simp⟩) hHeld ?_
          simp only [Act.put, List.setIfInBounds_toArray, List.set_cons_zero, List.set_cons_succ]
          refine wpAnyH_done (by kernel_rfl) ?_ _
          refine NoPanic.normal ?_
          have HDE := hide (HD2.out.below hHeld)
          clear hHeld VF
          go_wp2_with fail
          go_meet
          case rel => exact ⟨_, rfl, rfl, PP, HDE⟩
      · go_simp
        refine hK.out _ _ (hHeld.trans ((below_new _ _).mono hHeld.size)) (fun hHeld' => ?_)
        have VF : Hid (VF17 w2.heap.size w3.heap.size (w3.alloc (.cells #[.int .i64 0, .int .i64 0] 32))) := hide (VF17.new _ hHeld.size _)
        have T3' := hide (T3.out.below (below_new _ (.cells #[.int .i64 0, .int .i64 0] 32)))
        clear T3
        have T3 := T3'
        clear T3'
        clear hK K hHeld
        have hHeld := hHeld'
        clear hHeld'
        generalize w3.alloc (.cells #[.int .i64 0, .int .i64 0] 32) = WA at *
        generalize w3.heap.size = D at VF ⊢
        refine wpAnyH_ready (rs := [3]) (by kernel_rfl) (by simp) ?_
        refine AllReadyH.cons (o := ⟨some 26, _, _, _, _, none⟩) rfl (fun K hK => ?_) AllReadyH.nil
        go_simp
        refine (HTH.out _ g1 g2 g3 (HD2.out.below hHeld).b).mono ?_
        rintro _ w4 ⟨x4, y4, z4, rfl, hb4, _, o1, o2, o3⟩
        have r1 := hide (arow_owns HHN.out.symm o1)
        have r2 := hide (arow_owns HHM.out.symm o2)
        have r3 := hide (arow_owns HHQ.out.symm o3)
        refine hK.out _ _ (hHeld.trans (hb4.mono hHeld.size)) (fun hHeld' => ?_)
        have VF' := hide (VF.out.below hb4)
        clear VF
        have VF := VF'
        clear VF'
        have T3' := hide (T3.out.below hb4)
        clear T3
        have T3 := T3'
        clear T3'
        clear hK K hb4 o1 o2 o3 hHeld
        have hHeld := hHeld'
        clear hHeld'
        refine wpAnyH_ready (rs := [4]) (by kernel_rfl) (by simp) ?_
        refine AllReadyH.cons (o := ⟨some 27, _, _, _, _, none⟩) rfl (fun K hK => ?_) AllReadyH.nil
        go_simp
        refine (HSD.out _ _ _ _ _ _ (HSs.out hng hnl) HSh.out T3.out g1 g3 r1.out r2.out r3.out).mono ?_
        rintro _ w5 ⟨rfl, hb5⟩
        refine hK.out _ _ (hHeld.trans (hb5.mono hHeld.size)) (fun hHeld' => ?_)
        have VF' := hide (VF.out.below hb5)
        clear VF
        have VF := VF'
        clear VF'
        clear T3 r1 r2 r3
        clear hK K hb5  hHeld
        have hHeld := hHeld'
        clear hHeld'
        refine wpAnyH_take (i := 5) (oi := ⟨some 22, _, _, _, _, none⟩) (v := .tuple #[.agg #[.int .i64 q1, .int .i64 q2], .bool qb]) rfl (by kernel_rfl) (by kernel_rfl) (by kernel_rfl) (fun _ _ _ h => h) (Or.inl ⟨by rfl, fun w' hSw => by clear hSw; go_simp⟩) hHeld ?_
        simp only [Act.put, List.setIfInBounds_toArray, List.set_cons_zero, List.set_cons_succ]
        refine wpAnyH_take (i := 6) (oi := ⟨some 28, _, _, _, _, none⟩) (v := .agg #[.int .i64 q1, .int .i64 q2]) rfl (by kernel_rfl) (by kernel_rfl) (by kernel_rfl) (fun _ _ _ h => h) (Or.inl ⟨by rfl, fun w' hSw => by clear hSw; go_simp⟩) hHeld ?_
        simp only [Act.put, List.setIfInBounds_toArray, List.set_cons_zero, List.set_cons_succ]
        refine wpAnyH_take (i := 7) (oi := ⟨some 29, _, _, _, _, none⟩) (v := .bool qb) rfl (by kernel_rfl) (by kernel_rfl) (by kernel_rfl) (fun _ _ _ h => h) (Or.inl ⟨by rfl, fun w' hSw => by clear hSw; go_simp⟩) hHeld ?_
        simp only [Act.put, List.setIfInBounds_toArray, List.set_cons_zero, List.set_cons_succ]
        have c0 := VF.out.c0
        have c1 := VF.out.c1
        have f0 := VF.out.f0
        have f1 := VF.out.f1
        refine wpAnyH_ready (rs := [9]) (by kernel_rfl) (by simp) ?_
        refine AllReadyH.cons (o := ⟨none, _, _, _, _, none⟩) rfl (fun K hK => ?_) AllReadyH.nil
        go_simp
        refine hK.out _ _ ((hHeld.setCell (p := ⟨_, 0, none⟩) VF.out.lo _).setCell (p := ⟨_, 1, none⟩) VF.out.lo _) (fun hHeld' => ?_)
        have PP := hide (VF.out.put q1 q2)
        clear hK K c0 c1 f0 f1 hHeld
        have hHeld := hHeld'
        clear hHeld'
        refine wpAnyH_take (i := 10) (oi := ⟨some 7, _, _, _, _, none⟩) (v := .bool qb) rfl (by kernel_rfl) (by kernel_rfl) (by kernel_rfl) (fun _ _ _ h => h) (Or.inl ⟨by rfl, fun w' hSw => by clear hSw; go_simp⟩) hHeld ?_
        simp only [Act.put, List.setIfInBounds_toArray, List.set_cons_zero, List.set_cons_succ]
        refine wpAnyH_done (by kernel_rfl) ?_ _
        refine NoPanic.normal ?_
        have HDE := hide (HD2.out.below hHeld)
        clear hHeld VF
        go_wp2_with fail
        go_meet
        case rel => exact ⟨_, rfl, rfl, PP, HDE⟩
    · go_simp
      refine hK.out _ _ (hHeld.trans ((below_new _ _).mono hHeld.size)) (fun hHeld' => ?_)
      have VF : Hid (VF17 w2.heap.size w2.heap.size ((w2.alloc (.cells #[.int .i64 0, .int .i64 0] 32)).drew)) := hide ((VF17.new w2 (Nat.le_refl _) _).below (Below.refl _ _).drew)
      clear hK K hHeld
      have hHeld := hHeld'
      clear hHeld'
      generalize (w2.alloc (.cells #[.int .i64 0, .int .i64 0] 32)).drew = WA at *
      refine wpAnyH_ready (rs := [1]) (by kernel_rfl) (by simp) ?_
      refine AllReadyH.cons (o := ⟨some 24, _, _, _, _, none⟩) rfl (fun K hK => ?_) AllReadyH.nil
      go_simp
      refine (HTS.out _ hng hnl (HD2.out.below hHeld).b).mono ?_
      rintro _ w3 ⟨X3, Y3, rfl, hb3, _, _, t3⟩
      have T3 := hide t3
      refine hK.out _ _ (hHeld.trans (hb3.mono hHeld.size)) (fun hHeld' => ?_)
      have VF' := hide (VF.out.below hb3)
      clear VF
      have VF := VF'
      clear VF'
      clear hK K hb3 t3 hHeld
      have hHeld := hHeld'
      clear hHeld'
      refine wpAnyH_ready (rs := [3]) (by kernel_rfl) (by simp) ?_
      refine AllReadyH.cons (o := ⟨some 26, _, _, _, _, none⟩) rfl (fun K hK => ?_) AllReadyH.nil
      go_simp
      refine (HTH.out _ g1 g2 g3 (HD2.out.below hHeld).b).mono ?_
      rintro _ w4 ⟨x4, y4, z4, rfl, hb4, _, o1, o2, o3⟩
      have r1 := hide (arow_owns HHN.out.symm o1)
      have r2 := hide (arow_owns HHM.out.symm o2)
      have r3 := hide (arow_owns HHQ.out.symm o3)
      refine hK.out _ _ (hHeld.trans (hb4.mono hHeld.size)) (fun hHeld' => ?_)
      have VF' := hide (VF.out.below hb4)
      clear VF
      have VF := VF'
      clear VF'
      have T3' := hide (T3.out.below hb4)
      clear T3
      have T3 := T3'
      clear T3'
      clear hK K hb4 o1 o2 o3 hHeld
      have hHeld := hHeld'
      clear hHeld'
      refine wpAnyH_ready (rs := [4]) (by kernel_rfl) (by simp) ?_
      refine AllReadyH.cons (o := ⟨some 27, _, _, _, _, none⟩) rfl (fun K hK => ?_) AllReadyH.nil
      go_simp
      refine (HSD.out _ _ _ _ _ _ (HSs.out hng hnl) HSh.out T3.out g1 g3 r1.out r2.out r3.out).mono ?_
      rintro _ w5 ⟨rfl, hb5⟩
      refine hK.out _ _ (hHeld.trans (hb5.mono hHeld.size)) (fun hHeld' => ?_)
      have VF' := hide (VF.out.below hb5)
      clear VF
      have VF := VF'
      clear VF'
      clear T3 r1 r2 r3
      clear hK K hb5  hHeld
      have hHeld := hHeld'
      clear hHeld'
      refine wpAnyH_take (i := 5) (oi := ⟨some 22, _, _, _, _, none⟩) (v := .tuple #[.agg #[.int .i64 q1, .int .i64 q2], .bool qb]) rfl (by kernel_rfl) (by kernel_rfl) (by kernel_rfl) (fun _ _ _ h => h) (Or.inl ⟨by rfl, fun w' hSw => by clear hSw; go_simp⟩) hHeld ?_
      simp only [Act.put, List.setIfInBounds_toArray, List.set_cons_zero, List.set_cons_succ]
      refine wpAnyH_take (i := 6) (oi := ⟨some 28, _, _, _, _, none⟩) (v := .agg #[.int .i64 q1, .int .i64 q2]) rfl (by kernel_rfl) (by kernel_rfl) (by kernel_rfl) (fun _ _ _ h => h) (Or.inl ⟨by rfl, fun w' hSw => by clear hSw; go_simp⟩) hHeld ?_
      simp only [Act.put, List.setIfInBounds_toArray, List.set_cons_zero, List.set_cons_succ]
      refine wpAnyH_take (i := 7) (oi := ⟨some 29, _, _, _, _, none⟩) (v := .bool qb) rfl (by kernel_rfl) (by kernel_rfl) (by kernel_rfl) (fun _ _ _ h => h) (Or.inl ⟨by rfl, fun w' hSw => by clear hSw; go_simp⟩) hHeld ?_
      simp only [Act.put, List.setIfInBounds_toArray, List.set_cons_zero, List.set_cons_succ]
      have c0 := VF.out.c0
      have c1 := VF.out.c1
      have f0 := VF.out.f0
      have f1 := VF.out.f1
      refine wpAnyH_ready (rs := [9]) (by kernel_rfl) (by simp) ?_
      refine AllReadyH.cons (o := ⟨none, _, _, _, _, none⟩) rfl (fun K hK => ?_) AllReadyH.nil
      go_simp
      refine hK.out _ _ ((hHeld.setCell (p := ⟨_, 0, none⟩) VF.out.lo _).setCell (p := ⟨_, 1, none⟩) VF.out.lo _) (fun hHeld' => ?_)
      have PP := hide (VF.out.put q1 q2)
      clear hK K c0 c1 f0 f1 hHeld
      have hHeld := hHeld'
      clear hHeld'
      refine wpAnyH_take (i := 10) (oi := ⟨some 7, _, _, _, _, none⟩) (v := .bool qb) rfl (by kernel_rfl) (by kernel_rfl) (by kernel_rfl) (fun _ _ _ h => h) (Or.inl ⟨by rfl, fun w' hSw => by clear hSw; go_simp⟩) hHeld ?_
      simp only [Act.put, List.setIfInBounds_toArray, List.set_cons_zero, List.set_cons_succ]
      refine wpAnyH_done (by kernel_rfl) ?_ _
      refine NoPanic.normal ?_
      have HDE := hide (HD2.out.below hHeld)
      clear hHeld VF
      go_wp2_with fail
      go_meet
      case rel => exact ⟨_, rfl, rfl, PP, HDE⟩
  case rest =>
    obtain ⟨D, rfl, rfl, PD, HD3⟩ := hcut
    clear HD2 HSD HSs
    obtain ⟨p0, p1, _⟩ := HD3.out.s
    go_wp2_with fail
    refine (HTS.out _ hng hnl HD3.out.b).mono ?_
    rintro _ w6 ⟨X6, Y6, rfl, hb6, _, _, t6⟩
    have bn6 := below_new w6 (.cells #[.slice (some ⟨X6, 0, none⟩) n n, .slice (some ⟨Y6, 0, none⟩) n' n'] 38)
    have HD6 := hide ((HD3.out.below hb6).below bn6)
    have PD6 := hide ((PD.out.below hb6).below bn6)
    have T6 := hide (t6.below bn6)
    have PX6 := hide (PBox.new w6 (.slice (some ⟨X6, 0, none⟩) n n) (.slice (some ⟨Y6, 0, none⟩) n' n') 38)
    clear hb6 bn6 t6 p0 p1 HD3 PD
    go_upto_region 10 with fail
    generalize w6.alloc (.cells #[.slice (some ⟨X6, 0, none⟩) n n, .slice (some ⟨Y6, 0, none⟩) n' n'] 38) = W6 at *
    generalize w6.heap.size = E at *
    obtain ⟨x0, x1, x2, _⟩ := HD6.out.h
    go_wp2_with fail
    refine (HTH.out _ g1 g2 g3 HD6.out.b).mono ?_
    rintro _ w7 ⟨x7, y7, z7, rfl, hb7, _, o1, o2, o3⟩
    have bn7 := below_new w7 (.cells #[.slice (some ⟨x7, 0, none⟩) hn hn, .slice (some ⟨y7, 0, none⟩) hm hm, .slice (some ⟨z7, 0, none⟩) hq hq] 40)
    have HD7 := hide ((HD6.out.below hb7).below bn7)
    have PD7 := hide ((PD6.out.below hb7).below bn7)
    have T7 := hide ((T6.out.below hb7).below bn7)
    have PX7 := hide ((PX6.out.below hb7).below bn7)
    have HX7 := hide (HBox.new w7 (.slice (some ⟨x7, 0, none⟩) hn hn) (.slice (some ⟨y7, 0, none⟩) hm hm) (.slice (some ⟨z7, 0, none⟩) hq hq) 40)
    have S1 := hide ((arow_owns HHN.out.symm o1).below bn7)
    have S2 := hide ((arow_owns HHM.out.symm o2).below bn7)
    have S3 := hide ((arow_owns HHQ.out.symm o3).below bn7)
    clear hb7 bn7 o1 o2 o3 x0 x1 x2 HD6 PD6 T6 PX6
    go_upto_region 11 with fail
    generalize w7.alloc (.cells #[.slice (some ⟨x7, 0, none⟩) hn hn, .slice (some ⟨y7, 0, none⟩) hm hm, .slice (some ⟨z7, 0, none⟩) hq hq] 40) = W7 at *
    generalize w7.heap.size = F at *
    obtain ⟨p0, p1, _⟩ := PX7.out
    obtain ⟨x0, x1, x2, _⟩ := HX7.out
    go_wp2_with fail
    refine (HID.out _ _ _ _ _ _ (HIs.out hng hnl) HSh.out T7.out g3 S1.out S2.out S3.out).mono ?_
    rintro _ w8 ⟨rfl, hb8⟩
    have bn8 := below_new w8 (.cells #[.int .i64 q1, .int .i64 q2] 32)
    have HD8 := hide ((HD7.out.below hb8).below bn8)
    have PD8 := hide ((PD7.out.below hb8).below bn8)
    have T8 := hide ((T7.out.below hb8).below bn8)
    have PX8 := hide ((PX7.out.below hb8).below bn8)
    have HX8 := hide ((HX7.out.below hb8).below bn8)
    have S18 := hide ((S1.out.below hb8).below bn8)
    have S28 := hide ((S2.out.below hb8).below bn8)
    have S38 := hide ((S3.out.below hb8).below bn8)
    have PG8 := hide (PBox.new w8 (.int .i64 q1) (.int .i64 q2) 32)
    clear hb8 bn8 p0 p1 x0 x1 x2 HD7 PD7 T7 PX7 HX7 S1 S2 S3 HID HIs
    go_upto_region 12 with fail
    generalize w8.alloc (.cells #[.int .i64 q1, .int .i64 q2] 32) = W8 at *
    generalize w8.heap.size = J at *
    obtain ⟨p0, p1, _⟩ := PD8.out
    obtain ⟨s0, s1, _⟩ := PG8.out
    go_wp2_with fail
    refine (eqFrac_same _ _ _).mono ?_
    rintro _ w9 ⟨rfl, hb9⟩
    have HD9 := hide (HD8.out.below hb9)
    have T9 := hide (T8.out.below hb9)
    have PX9 := hide (PX8.out.below hb9)
    have HX9 := hide (HX8.out.below hb9)
    have S19 := hide (S18.out.below hb9)
    have S29 := hide (S28.out.below hb9)
    have S39 := hide (S38.out.below hb9)
    clear hb9 p0 p1 s0 s1 HD8 PD8 T8 PX8 HX8 S18 S28 S38 PG8
    go_upto_region 14 with fail
    refine wp_region_noPanic ?_
    refine wp_region_held_drew (S := fun w' => Below w9.heap.size w9 w') (by kernel_rfl) ((Below.refl _ _).drew) (fun hHeld => ?_)
    refine wpAnyH_take (i := 0) (oi := ⟨some 49, _, _, _, _, none⟩) (v := .agg #[.slice (some ⟨X6, 0, none⟩) n n, .slice (some ⟨Y6, 0, none⟩) n' n']) rfl (by kernel_rfl) (by kernel_rfl) (by kernel_rfl) (fun _ _ _ h => h) (Or.inl ⟨by rfl, fun w' hSw => by obtain ⟨p0, p1, _⟩ := PX9.out.below hSw; clear hSw; go_simp⟩) hHeld ?_
    simp only [Act.put, List.setIfInBounds_toArray, List.set_cons_zero, List.set_cons_succ]
    refine wpAnyH_take (i := 1) (oi := ⟨some 50, _, _, _, _, none⟩) (v := .agg #[.slice a n c, .slice a' n' c']) rfl (by kernel_rfl) (by kernel_rfl) (by kernel_rfl) (fun _ _ _ h => h) (Or.inl ⟨by rfl, fun w' hSw => by obtain ⟨p0, p1, _⟩ := (HD9.out.below hSw).s; clear hSw; go_simp⟩) hHeld ?_
    simp only [Act.put, List.setIfInBounds_toArray, List.set_cons_zero, List.set_cons_succ]
    refine wpAnyH_ready (rs := [2]) (by kernel_rfl) (by simp) ?_
    refine AllReadyH.cons (o := ⟨some 51, _, _, _, _, none⟩) rfl (fun K hK => ?_) AllReadyH.nil
    go_simp
    refine (HTS.out _ hng hnl (HD9.out.below hHeld).b).mono ?_
    rintro _ wa ⟨Xa, Ya, rfl, hba, _, _, ta⟩
    refine hK.out _ _ (hHeld.trans (hba.mono hHeld.size)) (fun hHeld' => ?_)
    clear hK K hba hHeld
    have hHeld := hHeld'
    clear hHeld'
    refine wpAnyH_ready (rs := [3]) (by kernel_rfl) (by simp) ?_
    refine AllReadyH.cons (o := ⟨some 52, _, _, _, _, none⟩) rfl (fun K hK => ?_) AllReadyH.nil
    go_simp
    refine (eqSh15 HN hng HN' hnl (T9.out.below hHeld).g (T9.out.below hHeld).l ta.g ta.l).mono ?_
    rintro _ wb ⟨rfl, hbb⟩
    refine hK.out _ _ (hHeld.trans (hbb.mono hHeld.size)) (fun hHeld' => ?_)
    clear hK K hbb hHeld ta
    have hHeld := hHeld'
    clear hHeld'
    refine wpAnyH_take (i := 4) (oi := ⟨some 53, _, _, _, _, none⟩) (v := .bool false) rfl (by kernel_rfl) (by kernel_rfl) (by kernel_rfl) (fun _ _ _ h => h) (Or.inl ⟨by rfl, fun w' hSw => by clear hSw; go_simp⟩) hHeld ?_
    simp only [Act.put, List.setIfInBounds_toArray, List.set_cons_zero, List.set_cons_succ]
    refine wpAnyH_done (by kernel_rfl) ?_ _
    refine NoPanic.normal ?_
    have HDa := hide (HD9.out.below hHeld)
    have HXa := hide (HX9.out.below hHeld)
    have S1a := hide (S19.out.below hHeld)
    have S2a := hide (S29.out.below hHeld)
    have S3a := hide (S39.out.below hHeld)
    clear hHeld HD9 T9 PX9 HX9 S19 S29 S39
    go_upto_region 16 with fail
    refine wp_region_noPanic ?_
    refine wp_region_held_drew (S := fun w' => Below wb.heap.size wb w') (by kernel_rfl) ((Below.refl _ _).drew) (fun hHeld => ?_)
    refine wpAnyH_take (i := 0) (oi := ⟨some 54, _, _, _, _, none⟩) (v := .agg #[.slice (some ⟨x7, 0, none⟩) hn hn, .slice (some ⟨y7, 0, none⟩) hm hm, .slice (some ⟨z7, 0, none⟩) hq hq]) rfl (by kernel_rfl) (by kernel_rfl) (by kernel_rfl) (fun _ _ _ h => h) (Or.inl ⟨by rfl, fun w' hSw => by obtain ⟨x0, x1, x2, _⟩ := HXa.out.below hSw; clear hSw; go_simp⟩) hHeld ?_
    simp only [Act.put, List.setIfInBounds_toArray, List.set_cons_zero, List.set_cons_succ]
    refine wpAnyH_take (i := 1) (oi := ⟨some 55, _, _, _, _, none⟩) (v := .agg #[.slice ha hn hc, .slice hb hm hd, .slice ho hq he]) rfl (by kernel_rfl) (by kernel_rfl) (by kernel_rfl) (fun _ _ _ h => h) (Or.inl ⟨by rfl, fun w' hSw => by obtain ⟨x0, x1, x2, _⟩ := (HDa.out.below hSw).h; clear hSw; go_simp⟩) hHeld ?_
    simp only [Act.put, List.setIfInBounds_toArray, List.set_cons_zero, List.set_cons_succ]
    refine wpAnyH_ready (rs := [2]) (by kernel_rfl) (by simp) ?_
    refine AllReadyH.cons (o := ⟨some 56, _, _, _, _, none⟩) rfl (fun K hK => ?_) AllReadyH.nil
    go_simp
    refine (HTH.out _ g1 g2 g3 (HDa.out.below hHeld).b).mono ?_
    rintro _ wc2 ⟨xc, yc, zc, rfl, hbc, _, o1, o2, o3⟩
    refine hK.out _ _ (hHeld.trans (hbc.mono hHeld.size)) (fun hHeld' => ?_)
    clear hK K hbc hHeld
    have hHeld := hHeld'
    clear hHeld'
    refine wpAnyH_ready (rs := [3]) (by kernel_rfl) (by simp) ?_
    refine AllReadyH.cons (o := ⟨some 57, _, _, _, _, none⟩) rfl (fun K hK => ?_) AllReadyH.nil
    go_simp
    refine (eqH_any HHN HHM HHQ g1 g2 g3 (S1a.out.below hHeld) (S2a.out.below hHeld) (S3a.out.below hHeld) (arow_owns HHN.out.symm o1) (arow_owns HHM.out.symm o2) (arow_owns HHQ.out.symm o3)).mono ?_
    rintro _ wd ⟨rfl, hbd⟩
    refine hK.out _ _ (hHeld.trans (hbd.mono hHeld.size)) (fun hHeld' => ?_)
    clear hK K hbd hHeld
    have hHeld := hHeld'
    clear hHeld'
    refine wpAnyH_take (i := 4) (oi := ⟨some 58, _, _, _, _, none⟩) (v := .bool false) rfl (by kernel_rfl) (by kernel_rfl) (by kernel_rfl) (fun _ _ _ h => h) (Or.inl ⟨by rfl, fun w' hSw => by clear hSw; go_simp⟩) hHeld ?_
    simp only [Act.put, List.setIfInBounds_toArray, List.set_cons_zero, List.set_cons_succ]
    refine wpAnyH_done (by kernel_rfl) ?_ _
    refine NoPanic.normal ?_
    have HDb := hide (HDa.out.below hHeld)
    clear hHeld HDa HXa S1a S2a S3a
    go_wp2_with fail
    go_ret
    exact ⟨rfl, HDb.out.b⟩
theorem lDc17_walk {a a' : Option Addr} {n c n' c' : Nat} {gs : List Gd} {ls : List (Int × Int)} {ha hb ho : Option Addr} {hc hd he : Nat} {ws cs os : List Int} {w : World} (HN : Hid (gs.length = n)) (HM : Hid (n ≤ maxLen)) (HF : Hid (Fits gs)) (HA : Hid (GRow w a gs)) (HN' : Hid (ls.length = n')) (HM' : Hid (n' ≤ maxLen)) (HA' : Hid (LRow w a' ls))
    (hl : ws.length ≤ maxLen ∧ cs.length ≤ maxLen ∧ os.length ≤ maxLen) (h1 : ARow w ha ws) (h2 : ARow w hb cs) (h3 : ARow w ho os) :
    Calls Tryz.prog 3 #[.agg #[.slice a n c, .slice a' n' c'], .agg #[.slice ha ws.length hc, .slice hb cs.length hd, .slice ho os.length he]] w fun e w' => e = .returned (.bool true) ∧ Below w.heap.size w w' := by
  obtain ⟨r, ok, R1, R2, e0, f1, f2⟩ : ∃ (r : Nat) (ok : Bool) (R1 R2 : List Int), ((ok = false → R1 = []) ∧ R1.length = r) ∧ (n ≤ 1048576 → n' ≤ 1048576 → SpAns 42 n n' r ok gs ls R1 R2) ∧ (n ≤ 1048576 → n' ≤ 1048576 → SpAns 28 n n' r ok gs ls R1 R2) := by
    by_cases g : gs.length ≤ 1048576 ∧ ls.length ≤ 1048576
    · obtain ⟨r, ok, R1, R2, e1, _, e2, _, _, f1, f2⟩ := sp_both17 g.1 g.2
      rw [HN.out, HN'.out] at f1 f2
      exact ⟨r, ok, R1, R2, ⟨e1, e2⟩, fun _ _ => f1, fun _ _ => f2⟩
    · exact ⟨0, false, [], [], ⟨fun _ => rfl, rfl⟩, fun g1 g2 => absurd ⟨by rw [HN.out]; exact g1, by rw [HN'.out]; exact g2⟩ g, fun g1 g2 => absurd ⟨by rw [HN.out]; exact g1, by rw [HN'.out]; exact g2⟩ g⟩
  exact lDc17_main HN HM HF HA HN' HM' HA' (hide e0.2) (hide e0.1) (hide f1) (hide f2) (hide rfl) (hide rfl) (hide rfl) hl (hide h1) (hide h2) (hide h3)
end Go.Proofs.YtlbagigghpiifabGreat
namespace Go.Proofs.YtlbagigghpiifabGreat
open Go.RowKit

/-- What HouseFor answers at a sheet and ways, whoever answers. -/
def HfAns (f n n' nw : Nat) (ok : Bool) (gs : List Gd) (ls : List (Int × Int)) (ws A B C : List Int) : Prop :=
  ∀ (W : World) (X Y : Nat) (a : Option Addr) (c : Nat), Short gs → TS W X Y n n' gs ls → ARow W a ws →
    Calls Tryz.prog f #[.agg #[.slice (some ⟨X, 0, none⟩) n n, .slice (some ⟨Y, 0, none⟩) n' n'], .slice a nw c] W fun e w' => ∃ v0 v1 v2, e = .returned (.tuple #[.agg #[v0, v1, v2], .bool ok]) ∧ Below W.heap.size W w' ∧ HV W.heap.size A B C v0 v1 v2 w'
theorem TS.loose17 {w : World} {X Y n n' : Nat} {gs : List Gd} {ls : List (Int × Int)} (t : TS w X Y n n' gs ls) : LooseV w (.slice (some ⟨X, 0, none⟩) n n) n ∧ LooseV w (.slice (some ⟨Y, 0, none⟩) n' n') n' :=
  ⟨Or.inr ⟨X, n, rfl, t.lx, t.lg⟩, Or.inr ⟨Y, n', rfl, t.ly, t.ll⟩⟩
theorem own_off17 {x b : Nat} (h : x ≠ b) (n c : Nat) : some x ≠ (Value.slice (some ⟨b, 0, none⟩) n c).ownBlock := fun e => h (by injection e)
/-- What was handed in, and the model's house in its variable. -/
structure LA (w : World) (D : Nat) (pa pb v0 v1 v2 : Value) (A B C : List Int) (W : World) : Prop where
  p : PBox W w.heap.size pa pb
  v : HBox W D v0 v1 v2
  V : HV 0 A B C v0 v1 v2 W
  hV : ∀ g, HIn v0 v1 v2 g → g < D
  lt : w.heap.size < D
  b : Below w.heap.size w W
theorem LA.keep {w W W' : World} {D : Nat} {pa pb v0 v1 v2 : Value} {A B C : List Int} (h : LA w D pa pb v0 v1 v2 A B C W) (ho : W'.os = W.os) (ht : W'.tape = W.tape) (hp : W'.output = W.output) (hs : W.heap.size ≤ W'.heap.size) (hb : ∀ b, b < W.heap.size → b ≤ D → W'.heap[b]? = W.heap[b]?) : LA w D pa pb v0 v1 v2 A B C W' :=
  ⟨h.p.keep hs (hb _ h.p.2.2 (Nat.le_of_lt h.lt)), h.v.keep hs (hb _ h.v.2.2.2 (Nat.le_refl _)), h.V.keep fun g hg hl => hb g hl (Nat.le_of_lt (h.hV g hg)), h.hV, h.lt,
    h.b.trans ⟨ho, ht, hp, hs, fun b hl => hb b (Nat.lt_of_lt_of_le hl h.b.size) (Nat.le_of_lt (Nat.lt_trans hl h.lt))⟩⟩
theorem LA.below {w W W' : World} {D : Nat} {pa pb v0 v1 v2 : Value} {A B C : List Int} (h : LA w D pa pb v0 v1 v2 A B C W) (hb : Below W.heap.size W W') : LA w D pa pb v0 v1 v2 A B C W' :=
  h.keep hb.os hb.tape hb.output hb.size fun b hl _ => hb.block b hl
/-- The program's house in its variable. -/
structure LG (lo D : Nat) (g0 g1 g2 : Value) (A B C : List Int) (W : World) : Prop where
  v : HBox W D g0 g1 g2
  V : HV lo A B C g0 g1 g2 W
  hV : ∀ g, HIn g0 g1 g2 g → g < D
  lt : lo ≤ D
theorem LG.keep {W W' : World} {lo D : Nat} {g0 g1 g2 : Value} {A B C : List Int} (h : LG lo D g0 g1 g2 A B C W) (hs : W.heap.size ≤ W'.heap.size) (hb : ∀ b, b < W.heap.size → lo ≤ b → W'.heap[b]? = W.heap[b]?) : LG lo D g0 g1 g2 A B C W' :=
  ⟨h.v.keep hs (hb _ h.v.2.2.2 h.lt), h.V.keep fun g hg hl => hb g hl (h.V.lt hg).1, h.hV, h.lt⟩
theorem LG.below {W W' : World} {lo D : Nat} {g0 g1 g2 : Value} {A B C : List Int} (h : LG lo D g0 g1 g2 A B C W) (hb : Below W.heap.size W W') : LG lo D g0 g1 g2 A B C W' := h.keep hb.size fun b hl _ => hb.block b hl
/-- A house that a call answered, put in a variable behind it. -/
theorem LG.mk' {W W1 W' : World} {A B C : List Int} {g0 g1 g2 : Value} {lo : Nat} (h : HV W.heap.size A B C g0 g1 g2 W1) (h1 : lo ≤ W.heap.size) (hs : W.heap.size ≤ W1.heap.size) (t : TypeId) (hW : W' = W1.alloc (.cells #[g0, g1, g2] t)) : LG lo W1.heap.size g0 g1 g2 A B C W' := by
  subst hW
  exact ⟨HBox.new _ _ _ _ _, (h.low h1).below (below_new _ _), fun g hg => (h.lt hg).2, Nat.le_trans h1 hs⟩
end Go.Proofs.YtlbagigghpiifabGreat
namespace Go.Proofs.YtlbagigghpiifabGreat
open Go.ChangeShapes Go.WideShapes Go.ChangeAt Go.RowKit Go.Deep

theorem laidOutG : laidOutB Tryz.prog = true := by kernel_rfl
theorem cellsG : Tryz.prog.cellsOf 74 = 2 := by kernel_rfl
theorem cellsGs : Tryz.prog.cellsOf 9 = 1 := by kernel_rfl
theorem cellsGi : Tryz.prog.cellsOf 3 = 1 := by kernel_rfl
set_option maxRecDepth 100000 in
theorem opened_goods {H : Type} {enc : TypeId × Value → H} {W : World} {base : Nat} {v : Value} {x : DataW H} {p : List MemPlace} {sp : Nat → Bool} (hv : Value.okWide Tryz.prog W .any base 22 v)
    (h0 : DataW.Trod enc Tryz.prog W 0 sp true 22 v x p) : ∃ (a : Option Addr) (gs : List Gd) (c : Nat), v = .slice a gs.length c ∧ gs.length ≤ maxLen ∧ Fits gs ∧ GRow W a gs := by
  obtain ⟨a0, len0, cap0, rfl⟩ := okWide_slice Tryz.underlying22 hv
  obtain ⟨fuel, hf⟩ := h0
  rcases open_slice_pairs Tryz.underlying22 Tryz.underlying74 cellsG rfl rfl cellsGs cellsGi hf with ⟨hcs, _⟩ | ⟨a, len, cap, m, n, V0, V1, D0, D1, P0, P1, hcs, _, hl, hcap, hmm, _, hx⟩
  · simp [Value.cells] at hcs
    obtain ⟨rfl, rfl, rfl⟩ := hcs
    exact ⟨none, [], 0, rfl, Nat.zero_le _, fun i => (show gd0.1.size ≤ maxLen from Nat.zero_le _), Or.inl rfl⟩
  · simp [Value.cells] at hcs
    obtain ⟨rfl, rfl, rfl⟩ := hcs
    have hlm : len0 ≤ m := by rw [hmm]; split <;> omega
    have each : ∀ i, i < len0 → ∃ z : Gd, V0 i = .string z.1 ∧ V1 i = .int .i64 z.2 ∧ z.1.size ≤ maxLen := by
      intro i hi
      obtain ⟨_, _, t0, t1⟩ := hx i (by omega)
      obtain ⟨z0, e0, _, ez⟩ := DataW.trod_string Tryz.underlying9 t0
      obtain ⟨z1, e1, _, _⟩ := DataW.trod_int Tryz.underlying3 t1
      simp at e0 e1
      exact ⟨(z0, z1), e0, e1, ez⟩
    obtain ⟨z, hz⟩ := choose_lt each
    have hget : ∀ i, i < len0 → ((List.range len0).map z).getD i gd0 = z i := fun i hi => by simp [hi]
    refine ⟨some a, (List.range len0).map z, cap0, by simp, by simp; omega, fun i => ?_, ?_⟩
    · by_cases hi : i < len0
      · rw [hget i hi]; exact (hz i hi).2.2
      · have : ((List.range len0).map z).getD i gd0 = gd0 := by simp [show len0 ≤ i by omega]
        rw [this]; exact (show gd0.1.size ≤ maxLen from Nat.zero_le _)
    · by_cases h : len0 = 0
      · left; subst h; rfl
      · right
        obtain ⟨b, off, spot⟩ := a
        have hc := (hx 0 (by omega)).1
        have hspot : spot = none := by simpa [Addr.add] using World.cell?_spot hc
        subst hspot
        refine ⟨b, off, rfl, World.block_lt_of_cell? W _ hc, ?_⟩
        intro i hi
        simp at hi
        obtain ⟨c0, c1, _, _⟩ := hx i (by omega)
        rw [add_plain] at c0 c1
        rw [hget i hi]
        refine ⟨c0.trans (by rw [(hz i hi).1]), ?_⟩
        rw [← Nat.add_assoc] at c1
        exact c1.trans (by rw [(hz i hi).2.1])
end Go.Proofs.YtlbagigghpiifabGreat
namespace Go.Proofs.YtlbagigghpiifabGreat
open Go.ChangeShapes Go.WideShapes Go.ChangeAt Go.RowKit Go.Deep

theorem cellsL : Tryz.prog.cellsOf 87 = 2 := by kernel_rfl
theorem cellsLi : Tryz.prog.cellsOf 3 = 1 := by kernel_rfl
set_option maxRecDepth 100000 in
theorem opened_lines {H : Type} {enc : TypeId × Value → H} {W : World} {base : Nat} {v : Value} {x : DataW H} {p : List MemPlace} {sp : Nat → Bool} (hv : Value.okWide Tryz.prog W .any base 23 v)
    (h0 : DataW.Trod enc Tryz.prog W 0 sp true 23 v x p) : ∃ (a : Option Addr) (ls : List (Int × Int)) (c : Nat), v = .slice a ls.length c ∧ ls.length ≤ maxLen ∧ LRow W a ls := by
  obtain ⟨a0, len0, cap0, rfl⟩ := okWide_slice Tryz.underlying23 hv
  obtain ⟨fuel, hf⟩ := h0
  rcases open_slice_pairs Tryz.underlying23 Tryz.underlying87 cellsL rfl rfl cellsLi cellsLi hf with ⟨hcs, _⟩ | ⟨a, len, cap, m, n, V0, V1, D0, D1, P0, P1, hcs, _, hl, hcap, hmm, _, hx⟩
  · simp [Value.cells] at hcs
    obtain ⟨rfl, rfl, rfl⟩ := hcs
    exact ⟨none, [], 0, rfl, Nat.zero_le _, Or.inl rfl⟩
  · simp [Value.cells] at hcs
    obtain ⟨rfl, rfl, rfl⟩ := hcs
    have hlm : len0 ≤ m := by rw [hmm]; split <;> omega
    have each : ∀ i, i < len0 → ∃ z : Int × Int, V0 i = .int .i64 z.1 ∧ V1 i = .int .i64 z.2 := by
      intro i hi
      obtain ⟨_, _, t0, t1⟩ := hx i (by omega)
      obtain ⟨z0, e0, _, _⟩ := DataW.trod_int Tryz.underlying3 t0
      obtain ⟨z1, e1, _, _⟩ := DataW.trod_int Tryz.underlying3 t1
      simp at e0 e1
      exact ⟨(z0, z1), e0, e1⟩
    obtain ⟨z, hz⟩ := choose_lt each
    have hget : ∀ i, i < len0 → ((List.range len0).map z).getD i (0, 0) = z i := fun i hi => by simp [hi]
    refine ⟨some a, (List.range len0).map z, cap0, by simp, by simp; omega, ?_⟩
    by_cases h : len0 = 0
    · left; subst h; rfl
    · right
      obtain ⟨b, off, spot⟩ := a
      have hc := (hx 0 (by omega)).1
      have hspot : spot = none := by simpa [Addr.add] using World.cell?_spot hc
      subst hspot
      refine ⟨b, off, rfl, World.block_lt_of_cell? W _ hc, ?_⟩
      intro i hi
      simp at hi
      obtain ⟨c0, c1, _, _⟩ := hx i (by omega)
      rw [add_plain] at c0 c1
      rw [hget i hi]
      refine ⟨c0.trans (by rw [(hz i hi).1]), ?_⟩
      rw [← Nat.add_assoc] at c1
      exact c1.trans (by rw [(hz i hi).2])
end Go.Proofs.YtlbagigghpiifabGreat
namespace Go.Proofs.YtlbagigghpiifabGreat
open Go.ChangeShapes Go.WideShapes Go.ChangeAt Go.RowKit Go.Deep

set_option maxRecDepth 100000 in
theorem opened_gd {H : Type} {enc : TypeId × Value → H} {W : World} {fuel : Nat} {v : Value} {x : DataW H × List MemPlace} {sp : Nat → Bool}
    (hf : DataW.trod enc Tryz.prog W 0 sp true fuel 22 [v] = some x) : ∃ (a : Option Addr) (gs : List Gd) (c : Nat), v = .slice a gs.length c ∧ gs.length ≤ maxLen ∧ Fits gs ∧ GRow W a gs := by
  rcases open_slice_pairs Tryz.underlying22 Tryz.underlying74 cellsG rfl rfl cellsGs cellsGi hf with ⟨hcs, _⟩ | ⟨a, len, cap, m, n, V0, V1, D0, D1, P0, P1, hcs, _, hl, hcap, hmm, _, hx⟩
  · simp at hcs
    subst hcs
    exact ⟨none, [], 0, rfl, Nat.zero_le _, fun i => (show gd0.1.size ≤ maxLen from Nat.zero_le _), Or.inl rfl⟩
  · simp at hcs
    subst hcs
    have hlm : len ≤ m := by rw [hmm]; split <;> omega
    have each : ∀ i, i < len → ∃ z : Gd, V0 i = .string z.1 ∧ V1 i = .int .i64 z.2 ∧ z.1.size ≤ maxLen := by
      intro i hi
      obtain ⟨_, _, t0, t1⟩ := hx i (by omega)
      obtain ⟨z0, e0, _, ez⟩ := DataW.trod_string Tryz.underlying9 t0
      obtain ⟨z1, e1, _, _⟩ := DataW.trod_int Tryz.underlying3 t1
      simp at e0 e1
      exact ⟨(z0, z1), e0, e1, ez⟩
    obtain ⟨z, hz⟩ := choose_lt each
    have hget : ∀ i, i < len → ((List.range len).map z).getD i gd0 = z i := fun i hi => by simp [hi]
    refine ⟨some a, (List.range len).map z, cap, by simp, by simp; omega, fun i => ?_, ?_⟩
    · by_cases hi : i < len
      · rw [hget i hi]; exact (hz i hi).2.2
      · have : ((List.range len).map z).getD i gd0 = gd0 := by simp [show len ≤ i by omega]
        rw [this]; exact (show gd0.1.size ≤ maxLen from Nat.zero_le _)
    · by_cases h : len = 0
      · left; subst h; rfl
      · right
        obtain ⟨b, off, spot⟩ := a
        have hc := (hx 0 (by omega)).1
        have hspot : spot = none := by simpa [Addr.add] using World.cell?_spot hc
        subst hspot
        refine ⟨b, off, rfl, World.block_lt_of_cell? W _ hc, ?_⟩
        intro i hi
        simp at hi
        obtain ⟨c0, c1, _, _⟩ := hx i (by omega)
        rw [add_plain] at c0 c1
        rw [hget i hi]
        refine ⟨c0.trans (by rw [(hz i hi).1]), ?_⟩
        rw [← Nat.add_assoc] at c1
        exact c1.trans (by rw [(hz i hi).2.1])
set_option maxRecDepth 100000 in
theorem opened_ln {H : Type} {enc : TypeId × Value → H} {W : World} {fuel : Nat} {v : Value} {x : DataW H × List MemPlace} {sp : Nat → Bool}
    (hf : DataW.trod enc Tryz.prog W 0 sp true fuel 23 [v] = some x) : ∃ (a : Option Addr) (ls : List (Int × Int)) (c : Nat), v = .slice a ls.length c ∧ ls.length ≤ maxLen ∧ LRow W a ls := by
  rcases open_slice_pairs Tryz.underlying23 Tryz.underlying87 cellsL rfl rfl cellsLi cellsLi hf with ⟨hcs, _⟩ | ⟨a, len, cap, m, n, V0, V1, D0, D1, P0, P1, hcs, _, hl, hcap, hmm, _, hx⟩
  · simp at hcs
    subst hcs
    exact ⟨none, [], 0, rfl, Nat.zero_le _, Or.inl rfl⟩
  · simp at hcs
    subst hcs
    have hlm : len ≤ m := by rw [hmm]; split <;> omega
    have each : ∀ i, i < len → ∃ z : Int × Int, V0 i = .int .i64 z.1 ∧ V1 i = .int .i64 z.2 := by
      intro i hi
      obtain ⟨_, _, t0, t1⟩ := hx i (by omega)
      obtain ⟨z0, e0, _, _⟩ := DataW.trod_int Tryz.underlying3 t0
      obtain ⟨z1, e1, _, _⟩ := DataW.trod_int Tryz.underlying3 t1
      simp at e0 e1
      exact ⟨(z0, z1), e0, e1⟩
    obtain ⟨z, hz⟩ := choose_lt each
    have hget : ∀ i, i < len → ((List.range len).map z).getD i (0, 0) = z i := fun i hi => by simp [hi]
    refine ⟨some a, (List.range len).map z, cap, by simp, by simp; omega, ?_⟩
    by_cases h : len = 0
    · left; subst h; rfl
    · right
      obtain ⟨b, off, spot⟩ := a
      have hc := (hx 0 (by omega)).1
      have hspot : spot = none := by simpa [Addr.add] using World.cell?_spot hc
      subst hspot
      refine ⟨b, off, rfl, World.block_lt_of_cell? W _ hc, ?_⟩
      intro i hi
      simp at hi
      obtain ⟨c0, c1, _, _⟩ := hx i (by omega)
      rw [add_plain] at c0 c1
      rw [hget i hi]
      refine ⟨c0.trans (by rw [(hz i hi).1]), ?_⟩
      rw [← Nat.add_assoc] at c1
      exact c1.trans (by rw [(hz i hi).2])
theorem cellsSh15 : Tryz.prog.cellsOf 25 = 2 := by kernel_rfl
theorem cellsSg15 : Tryz.prog.cellsOf 22 = 1 := by kernel_rfl
theorem cellsSl15 : Tryz.prog.cellsOf 23 = 1 := by kernel_rfl
set_option maxRecDepth 100000 in
theorem opened_sheet {H : Type} {enc : TypeId × Value → H} {W : World} {base : Nat} {v : Value} {x : DataW H} {p : List MemPlace} {sp : Nat → Bool} (hv : Value.okWide Tryz.prog W .any base 25 v)
    (h0 : DataW.Trod enc Tryz.prog W 0 sp true 25 v x p) : ∃ (a b : Option Addr) (gs : List Gd) (ls : List (Int × Int)) (c d : Nat), v = .agg #[.slice a gs.length c, .slice b ls.length d] ∧ gs.length ≤ maxLen ∧ Fits gs ∧ GRow W a gs ∧ ls.length ≤ maxLen ∧ LRow W b ls := by
  obtain ⟨cs, rfl, hsz⟩ := okWide_struct Tryz.underlying25 hv
  have hcs : cs.size = 2 := hsz.trans cellsSh15
  obtain ⟨c0, c1, rfl⟩ : ∃ c0 c1, cs = #[c0, c1] := by
    obtain ⟨l⟩ := cs
    match l, hcs with
    | [c0, c1], _ => exact ⟨c0, c1, rfl⟩
  obtain ⟨fuel, hf⟩ := h0
  obtain ⟨y0, y1, m, hx, _, g0, g1⟩ := trod_struct2 Tryz.underlying25 hf
  simp [Value.cells, cellsSg15, cellsSl15] at g0 g1
  obtain ⟨a, gs, c, rfl, l0, f0, r0⟩ := opened_gd g0
  obtain ⟨b, ls, d, rfl, l1, r1⟩ := opened_ln g1
  exact ⟨a, b, gs, ls, c, d, rfl, l0, f0, r0, l1, r1⟩
end Go.Proofs.YtlbagigghpiifabGreat
namespace Go.Proofs.YtlbagigghpiifabGreat
open Go.ChangeShapes Go.WideShapes Go.ChangeAt Go.RowKit Go.Deep

theorem laidOut' : laidOutB Tryz.prog = true := by kernel_rfl

set_option maxRecDepth 100000 in
theorem opened_ints {H : Type} {enc : TypeId × Value → H} {W : World} {fuel : Nat} {c : Value} {x : DataW H × List MemPlace} {sp : Nat → Bool}
    (hf : DataW.trod enc Tryz.prog W 0 sp true fuel 26 [c] = some x) : ∃ (a : Option Addr) (xs : List Int) (cap : Nat), c = .slice a xs.length cap ∧ xs.length ≤ maxLen ∧ ARow W a xs := by
  rcases open_ints Tryz.underlying26 Tryz.underlying3 (by kernel_rfl) hf with ⟨hcs, _⟩ | ⟨a, len, cap, zs, hcs, _, hl, hcap, hzl, _, hcell, _⟩
  · simp at hcs
    subst hcs
    exact ⟨none, [], 0, rfl, by simp, Or.inl rfl⟩
  · simp at hcs
    subst hcs
    have hlm : len ≤ zs.length := by rw [hzl]; split <;> omega
    refine ⟨some a, zs.take len, cap, by simp [hlm], by simp [hlm]; omega, ?_⟩
    by_cases h : len = 0
    · left; subst h; rfl
    · right
      obtain ⟨b, off, spot⟩ := a
      have hc := hcell 0 (by omega)
      have hspot : spot = none := by simpa [Addr.add] using World.cell?_spot hc
      subst hspot
      refine ⟨b, off, rfl, World.block_lt_of_cell? W _ hc, ?_⟩
      intro i hi
      simp [hlm] at hi
      have hci := hcell i (by omega)
      rw [add_plain] at hci
      rw [hci]
      simp [hi]

set_option maxRecDepth 100000 in
theorem opened_slice {H : Type} {enc : TypeId × Value → H} {W : World} {base : Nat} {v : Value} {x : DataW H} {p : List MemPlace} {sp : Nat → Bool} (hv : Value.okWide Tryz.prog W .any base 26 v)
    (h0 : DataW.Trod enc Tryz.prog W 0 sp true 26 v x p) : ∃ (a : Option Addr) (xs : List Int) (c : Nat), v = .slice a xs.length c ∧ xs.length ≤ maxLen ∧ ARow W a xs := by
  obtain ⟨a0, len0, cap0, rfl⟩ := okWide_slice Tryz.underlying26 hv
  obtain ⟨fuel, hf⟩ := h0
  exact opened_ints hf
theorem cellsS : Tryz.prog.cellsOf 26 = 1 := by kernel_rfl
end Go.Proofs.YtlbagigghpiifabGreat
namespace Go.Proofs.YtlbagigghpiifabGreat
open Go.ChangeShapes Go.WideShapes Go.ChangeAt Go.RowKit Go.Deep

theorem cellsH17 : Tryz.prog.cellsOf 28 = 3 := by kernel_rfl
theorem cellsS17 : Tryz.prog.cellsOf 26 = 1 := by kernel_rfl
set_option maxRecDepth 100000 in
theorem opened_house {H : Type} {enc : TypeId × Value → H} {W : World} {base : Nat} {v : Value} {x : DataW H} {p : List MemPlace} {sp : Nat → Bool} (hv : Value.okWide Tryz.prog W .any base 28 v)
    (h0 : DataW.Trod enc Tryz.prog W 0 sp true 28 v x p) : ∃ (a b o : Option Addr) (ws cs os : List Int) (c d e : Nat), v = .agg #[.slice a ws.length c, .slice b cs.length d, .slice o os.length e] ∧ (ws.length ≤ maxLen ∧ cs.length ≤ maxLen ∧ os.length ≤ maxLen) ∧ ARow W a ws ∧ ARow W b cs ∧ ARow W o os := by
  obtain ⟨cs, rfl, hsz⟩ := okWide_struct Tryz.underlying28 hv
  have hcs : cs.size = 3 := hsz.trans cellsH17
  obtain ⟨c0, c1, c2, rfl⟩ : ∃ c0 c1 c2, cs = #[c0, c1, c2] := by
    obtain ⟨l⟩ := cs
    match l, hcs with
    | [c0, c1, c2], _ => exact ⟨c0, c1, c2, rfl⟩
  obtain ⟨fuel, hf⟩ := h0
  obtain ⟨y0, y1, y2, m, hx, _, g0, g1, g2⟩ := trod_struct3 Tryz.underlying28 hf
  simp [Value.cells, cellsS17] at g0 g1 g2
  obtain ⟨a, ws, c, rfl, l0, r0⟩ := opened_ints g0
  obtain ⟨b, ks, d, rfl, l1, r1⟩ := opened_ints g1
  obtain ⟨o, os, e, rfl, l2, r2⟩ := opened_ints g2
  exact ⟨a, b, o, ws, ks, os, c, d, e, rfl, ⟨l0, l1, l2⟩, r0, r1, r2⟩
end Go.Proofs.YtlbagigghpiifabGreat
