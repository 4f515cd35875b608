/-
  At any sheet and house RenewHouse answers as the model does, in memory of its own: the law's own walk.
-/
import Derived.Test.YtlbagigghpiifabGreatW5
import Derived.Test.YtlbagigghpiifabGreatW6
namespace Go.Proofs.YtlbagigghpiifabGreat
open Go.RowKit

/-- A variable that holds no house yet. -/
structure VH17 (lo D : Nat) (W : World) : Prop where
  c0 : W.cell? ⟨D, 0, none⟩ = some (.slice none 0 0)
  c1 : W.cell? ⟨D, 1, none⟩ = some (.slice none 0 0)
  c2 : W.cell? ⟨D, 2, none⟩ = some (.slice none 0 0)
  f : ∀ i, W.frozen? ⟨D, i, none⟩ = false
  lo : lo ≤ D
  lt : D < W.heap.size
theorem VH17.new (W : World) {lo : Nat} (h : lo ≤ W.heap.size) (t : TypeId) : VH17 lo W.heap.size (W.alloc (.cells #[.slice none 0 0, .slice none 0 0, .slice none 0 0] t)) := ⟨by simp [go_sem], by simp [go_sem], by simp [go_sem], fun i => by simp [go_sem], h, by simp⟩
theorem VH17.below {lo D : Nat} {W W' : World} (h : VH17 lo D W) (hb : Below W.heap.size W W') : VH17 lo D W' :=
  ⟨(hb.cell (p := ⟨D, 0, none⟩) h.lt).trans h.c0, (hb.cell (p := ⟨D, 1, none⟩) h.lt).trans h.c1, (hb.cell (p := ⟨D, 2, none⟩) h.lt).trans h.c2, fun i => (hb.frozen (p := ⟨D, i, none⟩) h.lt).trans (h.f i), h.lo, Nat.lt_of_lt_of_le h.lt hb.size⟩
theorem VH17.put {lo D : Nat} {W : World} (h : VH17 lo D W) (u v x : Value) : HBox (((W.setCell ⟨D, 0, none⟩ u).setCell ⟨D, 1, none⟩ v).setCell ⟨D, 2, none⟩ x) D u v x := HBox.put ⟨h.c0, h.c1, h.c2, h.lt⟩ u v x
theorem HV.put3 {base D : Nat} {ws cs os : List Int} {v0 v1 v2 : Value} {W : World} (h : HV base ws cs os v0 v1 v2 W) (hD : ∀ g, HIn v0 v1 v2 g → g ≠ D) (u v x : Value) : HV base ws cs os v0 v1 v2 (((W.setCell ⟨D, 0, none⟩ u).setCell ⟨D, 1, none⟩ v).setCell ⟨D, 2, none⟩ x) :=
  h.keep fun g hg _ => (Below.heap_setCell _ _ _ g (hD g hg)).trans ((Below.heap_setCell _ _ _ g (hD g hg)).trans (Below.heap_setCell _ _ _ g (hD g hg)))
/-- What was handed in, and the model's house in its variable: all below E. -/
structure LB17 (w : World) (E D : Nat) (pa pb va vb vc v0 v1 v2 : Value) (A B C : List Int) (W : World) : Prop where
  s : PBox W w.heap.size pa pb
  h : HBox W (w.heap.size + 1) va vb vc
  v : HBox W D v0 v1 v2
  V : HV 0 A B C v0 v1 v2 W
  hD : D < E
  hV : ∀ g, HIn v0 v1 v2 g → g < E
  lt : w.heap.size + 1 < E
  le : E ≤ W.heap.size
  b : Below w.heap.size w W
theorem LB17.keep {w W W' : World} {E D : Nat} {pa pb va vb vc v0 v1 v2 : Value} {A B C : List Int} (h : LB17 w E D pa pb va vb vc v0 v1 v2 A B C W) (ho : W'.os = W.os) (ht : W'.tape = W.tape) (hp : W'.output = W.output) (hs : W.heap.size ≤ W'.heap.size) (hb : ∀ b, b < W.heap.size → b < E → W'.heap[b]? = W.heap[b]?) : LB17 w E D pa pb va vb vc v0 v1 v2 A B C W' :=
  ⟨h.s.keep hs (hb _ h.s.2.2 (by have := h.lt; omega)), h.h.keep hs (hb _ h.h.2.2.2 h.lt), h.v.keep hs (hb _ h.v.2.2.2 h.hD), h.V.keep fun g hg hl => hb g hl (h.hV g hg), h.hD, h.hV, h.lt, Nat.le_trans h.le hs,
    h.b.trans ⟨ho, ht, hp, hs, fun b hl => hb b (Nat.lt_of_lt_of_le hl h.b.size) (by have := h.lt; omega)⟩⟩
theorem LB17.below {w W W' : World} {E D : Nat} {pa pb va vb vc v0 v1 v2 : Value} {A B C : List Int} (h : LB17 w E D pa pb va vb vc v0 v1 v2 A B C W) (hb : Below W.heap.size W W') : LB17 w E D pa pb va vb vc v0 v1 v2 A B C W' :=
  h.keep hb.os hb.tape hb.output hb.size fun b hl _ => hb.block b hl
/-- What RenewHouse answers at a sheet and a house, whoever answers. -/
def RnAns (f n n' hn hm hq : Nat) (mm : Int) (ok : Bool) (gs : List Gd) (ls : List (Int × Int)) (ws cs os A B C : List Int) : Prop :=
  ∀ (W : World) (X Y : Nat) (a b o : Option Addr) (c d e : Nat), Short gs → TS W X Y n n' gs ls → ARow W a ws → ARow W b cs → ARow W o os →
    Calls Tryz.prog f #[.agg #[.slice (some ⟨X, 0, none⟩) n n, .slice (some ⟨Y, 0, none⟩) n' n'], .agg #[.slice a hn c, .slice b hm d, .slice o hq e]] W fun z w' => ∃ v0 v1 v2, z = .returned (.tuple #[.agg #[v0, v1, v2], .int .i64 mm, .bool ok]) ∧ Below W.heap.size W w' ∧ HV W.heap.size A B C v0 v1 v2 w'
set_option maxRecDepth 100000 in
set_option maxHeartbeats 16000000 in
theorem lRn17_main {a a' : Option Addr} {n c n' c' : Nat} {ok : Bool} {mm : Int} {gs : List Gd} {ls : List (Int × Int)} {ha hb ho : Option Addr} {hn hm hq hc hd he : Nat} {ws cs os A B C : List Int} {w : World} (HN : Hid (gs.length = n)) (HM : Hid (n ≤ maxLen)) (HF : Hid (Fits gs)) (HA : Hid (GRow w a gs)) (HN' : Hid (ls.length = n')) (HM' : Hid (n' ≤ maxLen)) (HA' : Hid (LRow w a' ls))
    (HHN : Hid (ws.length = hn)) (HHM : Hid (cs.length = hm)) (HHQ : Hid (os.length = hq)) (hl : hn ≤ maxLen ∧ hm ≤ maxLen ∧ hq ≤ maxLen) (HWR : Hid (ARow w ha ws)) (HCR : Hid (ARow w hb cs)) (HOR : Hid (ARow w ho os)) (lA : A.length ≤ 1000) (lB : B.length ≤ 1000) (lC : C.length ≤ 1000)
    (HS : Hid (n ≤ 1048576 → n' ≤ 1048576 → hn ≤ 1048576 → hq ≤ 1048576 → RnAns 14 n n' hn hm hq mm ok gs ls ws cs os A B C)) (HI : Hid (n ≤ 1048576 → n' ≤ 1048576 → hn ≤ 1048576 → hq ≤ 1048576 → RnAns 15 n n' hn hm hq mm ok gs ls ws cs os A B C)) :
    Calls Tryz.prog 4 #[.agg #[.slice a n c, .slice a' n' c'], .agg #[.slice ha hn hc, .slice hb hm hd, .slice ho hq he]] w fun e w' => e = .returned (.bool true) ∧ Below w.heap.size w w' := by
  have HD := hide (DL.new w (.slice a n c) (.slice a' n' c') (.slice ha hn hc) (.slice hb hm hd) (.slice ho hq he) 25 28)
  have HTS := hide fun (W : World) (h1 : n ≤ 1048576) (h2 : n' ≤ 1048576) (hb : Below w.heap.size w W) => toSh_any (c := c) (c' := c') HN h1 (hide (HA.out.below hb)) HN' h2 (hide (HA'.out.below hb))
  have HTH := hide fun (W : World) (h1 : hn ≤ 1048576) (h2 : hm ≤ 1048576) (h3 : hq ≤ 1048576) (hb' : Below w.heap.size w W) => toH_any (c := hc) (d := hd) (e' := he) HHN HHM HHQ h1 h2 h3 (hide (HWR.out.below hb')) (hide (HCR.out.below hb')) (hide (HOR.out.below hb'))
  have HSZ := hide fun (W : World) (hb : Below w.heap.size w W) => szSh_any (a' := a') (c := c) (c' := c') (left := 1048576) HN HM HF (hide (HA.out.below hb)) HM' (by omega) (by omega)
  have hne : (ok != ok) = false := by simp
  have hnm : (mm != mm) = false := by simp
  go_enter Tryz.func4, Tryz.ntmps4
  go_wp2_with fail
  generalize ((w.alloc (.cells #[.slice a n c, .slice a' n' c'] 25)).alloc (.cells #[.slice ha hn hc, .slice hb hm hd, .slice ho hq he] 28)) = W0 at *
  refine (HSZ.out _ HD.out.b).mono ?_
  rintro _ w1 ⟨left, rfl, hl1, hl2, hb1⟩
  have HD1 := hide (HD.out.below hb1)
  clear hb1 HD HSZ
  obtain ⟨h0, h1, h2, _⟩ := HD1.out.h
  rcases hl2 with rfl | ⟨hl0, hng, hnl, hsh⟩
  · go_wp2_with fail
    go_ret
    exact ⟨rfl, HD1.out.b⟩
  have HSh := hide hsh
  have hl3 : ¬ left < 0 := by omega
  clear hsh
  by_cases htot : (hn : Int) + hm + hq ≤ left
  rotate_left
  · go_wp2_with fail
    refine (szH_no (by omega) hl1 hl.1 hl.2.1 hl.2.2 (by omega)).mono ?_
    rintro _ w2 ⟨rfl, hb2⟩
    have HD2 := hide (HD1.out.below hb2)
    clear h0 h1 h2 hb2
    go_wp2_with fail
    go_ret
    exact ⟨rfl, HD2.out.b⟩
  have hleft : ¬ left - (hn : Int) - (hm : Int) - (hq : Int) < 0 := by omega
  go_wp2_with fail
  refine (szH_yes (by omega) hl1 (by omega)).mono ?_
  rintro _ w2 ⟨rfl, hb2⟩
  have HD2 := hide (HD1.out.below hb2)
  have g1 : hn ≤ 1048576 := by omega
  have g2 : hm ≤ 1048576 := by omega
  have g3 : hq ≤ 1048576 := by omega
  have HSC := hide fun (W : World) (X Y : Nat) (a b o : Option Addr) (c d e : Nat) (t : TS W X Y n n' gs ls) (r1 : ARow W a ws) (r2 : ARow W b cs) (r3 : ARow W o os) => HS.out hng hnl g1 g3 W X Y a b o c d e HSh.out t r1 r2 r3
  have HIC := hide fun (W : World) (X Y : Nat) (a b o : Option Addr) (c d e : Nat) (t : TS W X Y n n' gs ls) (r1 : ARow W a ws) (r2 : ARow W b cs) (r3 : ARow W o os) => HI.out hng hnl g1 g3 W X Y a b o c d e HSh.out t r1 r2 r3
  clear h0 h1 h2 hb2 HD1 HS HI
  go_upto_region 8 with fail
  go_cut [6, 7, 8] (fun s6 s7 s8 wc => ∃ (D : Nat) (v0 v1 v2 : Value), s6 = .pointer (some ⟨D, 0, none⟩) ∧ s7 = .int .i64 mm ∧ s8 = .bool ok ∧ Hid (HBox wc D v0 v1 v2) ∧ Hid (HV 0 A B C v0 v1 v2 wc) ∧ Hid (Below w2.heap.size w2 wc))
  case first =>
    refine wp_region_noPanic ?_
    refine wp_region_held_drew (S := fun w' => Below w2.heap.size w2 w') (by kernel_rfl) ((Below.refl _ _).drew) (fun hHeld => ?_)
    generalize w2.drew = Wd at *
    refine wpAnyH_take (i := 0) (oi := ⟨some 31, _, _, _, _, none⟩) (v := .agg #[.slice a n c, .slice a' n' c']) rfl (by kernel_rfl) (by kernel_rfl) (by kernel_rfl) (fun _ _ _ h => h) (Or.inl ⟨by rfl, fun w' hSw => by obtain ⟨p0, p1, _⟩ := (HD2.out.below hSw).s; clear hSw; go_simp⟩) hHeld ?_
    simp only [Act.put, List.setIfInBounds_toArray, List.set_cons_zero, List.set_cons_succ]
    refine wpAnyH_take (i := 2) (oi := ⟨some 33, _, _, _, _, none⟩) (v := .agg #[.slice ha hn hc, .slice hb hm hd, .slice ho hq he]) rfl (by kernel_rfl) (by kernel_rfl) (by kernel_rfl) (fun _ _ _ h => h) (Or.inl ⟨by rfl, fun w' hSw => by obtain ⟨x0, x1, x2, _⟩ := (HD2.out.below hSw).h; clear hSw; go_simp⟩) hHeld ?_
    simp only [Act.put, List.setIfInBounds_toArray, List.set_cons_zero, List.set_cons_succ]
    refine wpAnyH_ready (rs := [1, 9]) (by kernel_rfl) (by simp) ?_
    refine AllReadyH.cons (o := ⟨some 32, _, _, _, _, none⟩) rfl (fun K hK => ?_) (AllReadyH.cons (o := ⟨some 6, _, _, _, _, none⟩) rfl (fun K hK => ?_) AllReadyH.nil)
    · go_simp
      refine (HTS.out _ hng hnl (HD2.out.below hHeld).b).mono ?_
      rintro _ w3 ⟨X3, Y3, rfl, hb3, _, _, t3⟩
      have T3 := hide t3
      refine hK.out _ _ (hHeld.trans (hb3.mono hHeld.size)) (fun hHeld' => ?_)
      clear hK K hb3 t3 hHeld
      have hHeld := hHeld'
      clear hHeld'
      refine wpAnyH_ready (rs := [3, 9]) (by kernel_rfl) (by simp) ?_
      refine AllReadyH.cons (o := ⟨some 34, _, _, _, _, none⟩) rfl (fun K hK => ?_) (AllReadyH.cons (o := ⟨some 6, _, _, _, _, none⟩) rfl (fun K hK => ?_) AllReadyH.nil)
      · go_simp
        refine (HTH.out _ g1 g2 g3 (HD2.out.below hHeld).b).mono ?_
        rintro _ w4 ⟨x4, y4, z4, rfl, hb4, _, o1, o2, o3⟩
        have r1 := hide (arow_owns HHN.out.symm o1)
        have r2 := hide (arow_owns HHM.out.symm o2)
        have r3 := hide (arow_owns HHQ.out.symm o3)
        refine hK.out _ _ (hHeld.trans (hb4.mono hHeld.size)) (fun hHeld' => ?_)
        have T3' := hide (T3.out.below hb4)
        clear T3
        have T3 := T3'
        clear T3'
        clear hK K hb4 o1 o2 o3 hHeld
        have hHeld := hHeld'
        clear hHeld'
        refine wpAnyH_ready (rs := [4, 9]) (by kernel_rfl) (by simp) ?_
        refine AllReadyH.cons (o := ⟨some 35, _, _, _, _, none⟩) rfl (fun K hK => ?_) (AllReadyH.cons (o := ⟨some 6, _, _, _, _, none⟩) rfl (fun K hK => ?_) AllReadyH.nil)
        · go_simp
          refine (HSC.out _ _ _ _ _ _ _ _ _ T3.out r1.out r2.out r3.out).mono ?_
          rintro _ w5 ⟨v0, v1, v2, rfl, hb5, hv⟩
          obtain ⟨e0, f0, e1, f1, e2, f2, rfl, rfl, rfl⟩ := hv.form
          have HVn := hide (hv.low (Nat.zero_le _))
          refine hK.out _ _ (hHeld.trans (hb5.mono hHeld.size)) (fun hHeld' => ?_)
          clear T3 r1 r2 r3
          clear hK K hb5 hv hHeld
          have hHeld := hHeld'
          clear hHeld'
          refine wpAnyH_take (i := 5) (oi := ⟨some 30, _, _, _, _, none⟩) (v := .tuple #[.agg #[.slice e0 A.length f0, .slice e1 B.length f1, .slice e2 C.length f2], .int .i64 mm, .bool ok]) rfl (by kernel_rfl) (by kernel_rfl) (by kernel_rfl) (fun _ _ _ h => h) (Or.inl ⟨by rfl, fun w' hSw => by clear hSw; go_simp⟩) hHeld ?_
          simp only [Act.put, List.setIfInBounds_toArray, List.set_cons_zero, List.set_cons_succ]
          refine wpAnyH_take (i := 6) (oi := ⟨some 36, _, _, _, _, none⟩) (v := .agg #[.slice e0 A.length f0, .slice e1 B.length f1, .slice e2 C.length f2]) rfl (by kernel_rfl) (by kernel_rfl) (by kernel_rfl) (fun _ _ _ h => h) (Or.inl ⟨by rfl, fun w' hSw => by clear hSw; go_simp⟩) hHeld ?_
          simp only [Act.put, List.setIfInBounds_toArray, List.set_cons_zero, List.set_cons_succ]
          refine wpAnyH_take (i := 7) (oi := ⟨some 37, _, _, _, _, none⟩) (v := .int .i64 mm) rfl (by kernel_rfl) (by kernel_rfl) (by kernel_rfl) (fun _ _ _ h => h) (Or.inl ⟨by rfl, fun w' hSw => by clear hSw; go_simp⟩) hHeld ?_
          simp only [Act.put, List.setIfInBounds_toArray, List.set_cons_zero, List.set_cons_succ]
          refine wpAnyH_take (i := 8) (oi := ⟨some 38, _, _, _, _, none⟩) (v := .bool ok) rfl (by kernel_rfl) (by kernel_rfl) (by kernel_rfl) (fun _ _ _ h => h) (Or.inl ⟨by rfl, fun w' hSw => by clear hSw; go_simp⟩) hHeld ?_
          simp only [Act.put, List.setIfInBounds_toArray, List.set_cons_zero, List.set_cons_succ]
          refine wpAnyH_ready (rs := [9]) (by kernel_rfl) (by simp) ?_
          refine AllReadyH.cons (o := ⟨some 6, _, _, _, _, none⟩) rfl (fun K hK => ?_) AllReadyH.nil
          go_simp
          refine hK.out _ _ (hHeld.trans ((below_new _ _).mono hHeld.size)) (fun hHeld' => ?_)
          have HND := hide fun (g : Nat) (hg : HIn (.slice e0 A.length f0) (.slice e1 B.length f1) (.slice e2 C.length f2) g) => Nat.ne_of_lt (HVn.out.lt hg).2
          have VF : Hid (VH17 w2.heap.size w5.heap.size (w5.alloc (.cells #[.slice none 0 0, .slice none 0 0, .slice none 0 0] 40))) := hide (VH17.new _ hHeld.size _)
          have HVn' := hide (HVn.out.below (below_new _ (.cells #[.slice none 0 0, .slice none 0 0, .slice none 0 0] 40)))
          clear HVn
          have HVn := HVn'
          clear HVn'
          clear hK K hHeld
          have hHeld := hHeld'
          clear hHeld'
          generalize w5.alloc (.cells #[.slice none 0 0, .slice none 0 0, .slice none 0 0] 40) = WA at *
          generalize w5.heap.size = D at VF HND ⊢
          have c0 := VF.out.c0
          have c1 := VF.out.c1
          have c2 := VF.out.c2
          have f0' := VF.out.f 0
          have f1' := VF.out.f 1
          have f2' := VF.out.f 2
          refine wpAnyH_ready (rs := [10]) (by kernel_rfl) (by simp) ?_
          refine AllReadyH.cons (o := ⟨none, _, _, _, _, none⟩) rfl (fun K hK => ?_) AllReadyH.nil
          go_simp
          refine hK.out _ _ (((hHeld.setCell (p := ⟨_, 0, none⟩) VF.out.lo _).setCell (p := ⟨_, 1, none⟩) VF.out.lo _).setCell (p := ⟨_, 2, none⟩) VF.out.lo _) (fun hHeld' => ?_)
          have PP := hide (VF.out.put (.slice e0 A.length f0) (.slice e1 B.length f1) (.slice e2 C.length f2))
          have HVs := hide (HVn.out.put3 HND.out (.slice e0 A.length f0) (.slice e1 B.length f1) (.slice e2 C.length f2))
          clear hK K c0 c1 c2 f0' f1' f2' hHeld
          have hHeld := hHeld'
          clear hHeld'
          refine wpAnyH_take (i := 11) (oi := ⟨some 7, _, _, _, _, none⟩) (v := .int .i64 mm) rfl (by kernel_rfl) (by kernel_rfl) (by kernel_rfl) (fun _ _ _ h => h) (Or.inl ⟨by rfl, fun w' hSw => by clear hSw; go_simp⟩) hHeld ?_
          simp only [Act.put, List.setIfInBounds_toArray, List.set_cons_zero, List.set_cons_succ]
          refine wpAnyH_take (i := 12) (oi := ⟨some 8, _, _, _, _, none⟩) (v := .bool ok) rfl (by kernel_rfl) (by kernel_rfl) (by kernel_rfl) (fun _ _ _ h => h) (Or.inl ⟨by rfl, fun w' hSw => by clear hSw; go_simp⟩) hHeld ?_
          simp only [Act.put, List.setIfInBounds_toArray, List.set_cons_zero, List.set_cons_succ]
          refine wpAnyH_done (by kernel_rfl) ?_ _
          refine NoPanic.normal ?_
          have HBc := hide hHeld
          clear hHeld VF
          go_wp2_with fail
          go_meet
          case rel => exact ⟨_, _, _, _, rfl, rfl, rfl, PP, HVs, HBc⟩
        · go_simp
          refine hK.out _ _ (hHeld.trans ((below_new _ _).mono hHeld.size)) (fun hHeld' => ?_)
          have VF : Hid (VH17 w2.heap.size w4.heap.size (w4.alloc (.cells #[.slice none 0 0, .slice none 0 0, .slice none 0 0] 40))) := hide (VH17.new _ hHeld.size _)
          have T3' := hide (T3.out.below (below_new _ (.cells #[.slice none 0 0, .slice none 0 0, .slice none 0 0] 40)))
          clear T3
          have T3 := T3'
          clear T3'
          have r1' := hide (r1.out.below (below_new _ (.cells #[.slice none 0 0, .slice none 0 0, .slice none 0 0] 40)))
          clear r1
          have r1 := r1'
          clear r1'
          have r2' := hide (r2.out.below (below_new _ (.cells #[.slice none 0 0, .slice none 0 0, .slice none 0 0] 40)))
          clear r2
          have r2 := r2'
          clear r2'
          have r3' := hide (r3.out.below (below_new _ (.cells #[.slice none 0 0, .slice none 0 0, .slice none 0 0] 40)))
          clear r3
          have r3 := r3'
          clear r3'
          clear hK K hHeld
          have hHeld := hHeld'
          clear hHeld'
          generalize w4.alloc (.cells #[.slice none 0 0, .slice none 0 0, .slice none 0 0] 40) = WA at *
          generalize w4.heap.size = D at VF ⊢
          refine wpAnyH_ready (rs := [4]) (by kernel_rfl) (by simp) ?_
          refine AllReadyH.cons (o := ⟨some 35, _, _, _, _, none⟩) rfl (fun K hK => ?_) AllReadyH.nil
          go_simp
          refine (HSC.out _ _ _ _ _ _ _ _ _ T3.out r1.out r2.out r3.out).mono ?_
          rintro _ w5 ⟨v0, v1, v2, rfl, hb5, hv⟩
          obtain ⟨e0, f0, e1, f1, e2, f2, rfl, rfl, rfl⟩ := hv.form
          have HND := hide fun (g : Nat) (hg : HIn (.slice e0 A.length f0) (.slice e1 B.length f1) (.slice e2 C.length f2) g) => Nat.ne_of_gt (Nat.lt_of_lt_of_le VF.out.lt (hv.lt hg).1)
          have HVn := hide (hv.low (Nat.zero_le _))
          refine hK.out _ _ (hHeld.trans (hb5.mono hHeld.size)) (fun hHeld' => ?_)
          have VF' := hide (VF.out.below hb5)
          clear VF
          have VF := VF'
          clear VF'
          clear T3 r1 r2 r3
          clear hK K hb5 hv hHeld
          have hHeld := hHeld'
          clear hHeld'
          refine wpAnyH_take (i := 5) (oi := ⟨some 30, _, _, _, _, none⟩) (v := .tuple #[.agg #[.slice e0 A.length f0, .slice e1 B.length f1, .slice e2 C.length f2], .int .i64 mm, .bool ok]) rfl (by kernel_rfl) (by kernel_rfl) (by kernel_rfl) (fun _ _ _ h => h) (Or.inl ⟨by rfl, fun w' hSw => by clear hSw; go_simp⟩) hHeld ?_
          simp only [Act.put, List.setIfInBounds_toArray, List.set_cons_zero, List.set_cons_succ]
          refine wpAnyH_take (i := 6) (oi := ⟨some 36, _, _, _, _, none⟩) (v := .agg #[.slice e0 A.length f0, .slice e1 B.length f1, .slice e2 C.length f2]) rfl (by kernel_rfl) (by kernel_rfl) (by kernel_rfl) (fun _ _ _ h => h) (Or.inl ⟨by rfl, fun w' hSw => by clear hSw; go_simp⟩) hHeld ?_
          simp only [Act.put, List.setIfInBounds_toArray, List.set_cons_zero, List.set_cons_succ]
          refine wpAnyH_take (i := 7) (oi := ⟨some 37, _, _, _, _, none⟩) (v := .int .i64 mm) rfl (by kernel_rfl) (by kernel_rfl) (by kernel_rfl) (fun _ _ _ h => h) (Or.inl ⟨by rfl, fun w' hSw => by clear hSw; go_simp⟩) hHeld ?_
          simp only [Act.put, List.setIfInBounds_toArray, List.set_cons_zero, List.set_cons_succ]
          refine wpAnyH_take (i := 8) (oi := ⟨some 38, _, _, _, _, none⟩) (v := .bool ok) rfl (by kernel_rfl) (by kernel_rfl) (by kernel_rfl) (fun _ _ _ h => h) (Or.inl ⟨by rfl, fun w' hSw => by clear hSw; go_simp⟩) hHeld ?_
          simp only [Act.put, List.setIfInBounds_toArray, List.set_cons_zero, List.set_cons_succ]
          have c0 := VF.out.c0
          have c1 := VF.out.c1
          have c2 := VF.out.c2
          have f0' := VF.out.f 0
          have f1' := VF.out.f 1
          have f2' := VF.out.f 2
          refine wpAnyH_ready (rs := [10]) (by kernel_rfl) (by simp) ?_
          refine AllReadyH.cons (o := ⟨none, _, _, _, _, none⟩) rfl (fun K hK => ?_) AllReadyH.nil
          go_simp
          refine hK.out _ _ (((hHeld.setCell (p := ⟨_, 0, none⟩) VF.out.lo _).setCell (p := ⟨_, 1, none⟩) VF.out.lo _).setCell (p := ⟨_, 2, none⟩) VF.out.lo _) (fun hHeld' => ?_)
          have PP := hide (VF.out.put (.slice e0 A.length f0) (.slice e1 B.length f1) (.slice e2 C.length f2))
          have HVs := hide (HVn.out.put3 HND.out (.slice e0 A.length f0) (.slice e1 B.length f1) (.slice e2 C.length f2))
          clear hK K c0 c1 c2 f0' f1' f2' hHeld
          have hHeld := hHeld'
          clear hHeld'
          refine wpAnyH_take (i := 11) (oi := ⟨some 7, _, _, _, _, none⟩) (v := .int .i64 mm) rfl (by kernel_rfl) (by kernel_rfl) (by kernel_rfl) (fun _ _ _ h => h) (Or.inl ⟨by rfl, fun w' hSw => by clear hSw; go_simp⟩) hHeld ?_
          simp only [Act.put, List.setIfInBounds_toArray, List.set_cons_zero, List.set_cons_succ]
          refine wpAnyH_take (i := 12) (oi := ⟨some 8, _, _, _, _, none⟩) (v := .bool ok) rfl (by kernel_rfl) (by kernel_rfl) (by kernel_rfl) (fun _ _ _ h => h) (Or.inl ⟨by rfl, fun w' hSw => by clear hSw; go_simp⟩) hHeld ?_
          simp only [Act.put, List.setIfInBounds_toArray, List.set_cons_zero, List.set_cons_succ]
          refine wpAnyH_done (by kernel_rfl) ?_ _
          refine NoPanic.normal ?_
          have HBc := hide hHeld
          clear hHeld VF
          go_wp2_with fail
          go_meet
          case rel => exact ⟨_, _, _, _, rfl, rfl, rfl, PP, HVs, HBc⟩
      · go_simp
        refine hK.out _ _ (hHeld.trans ((below_new _ _).mono hHeld.size)) (fun hHeld' => ?_)
        have VF : Hid (VH17 w2.heap.size w3.heap.size (w3.alloc (.cells #[.slice none 0 0, .slice none 0 0, .slice none 0 0] 40))) := hide (VH17.new _ hHeld.size _)
        have T3' := hide (T3.out.below (below_new _ (.cells #[.slice none 0 0, .slice none 0 0, .slice none 0 0] 40)))
        clear T3
        have T3 := T3'
        clear T3'
        clear hK K hHeld
        have hHeld := hHeld'
        clear hHeld'
        generalize w3.alloc (.cells #[.slice none 0 0, .slice none 0 0, .slice none 0 0] 40) = WA at *
        generalize w3.heap.size = D at VF ⊢
        refine wpAnyH_ready (rs := [3]) (by kernel_rfl) (by simp) ?_
        refine AllReadyH.cons (o := ⟨some 34, _, _, _, _, none⟩) rfl (fun K hK => ?_) AllReadyH.nil
        go_simp
        refine (HTH.out _ g1 g2 g3 (HD2.out.below hHeld).b).mono ?_
        rintro _ w4 ⟨x4, y4, z4, rfl, hb4, _, o1, o2, o3⟩
        have r1 := hide (arow_owns HHN.out.symm o1)
        have r2 := hide (arow_owns HHM.out.symm o2)
        have r3 := hide (arow_owns HHQ.out.symm o3)
        refine hK.out _ _ (hHeld.trans (hb4.mono hHeld.size)) (fun hHeld' => ?_)
        have VF' := hide (VF.out.below hb4)
        clear VF
        have VF := VF'
        clear VF'
        have T3' := hide (T3.out.below hb4)
        clear T3
        have T3 := T3'
        clear T3'
        clear hK K hb4 o1 o2 o3 hHeld
        have hHeld := hHeld'
        clear hHeld'
        refine wpAnyH_ready (rs := [4]) (by kernel_rfl) (by simp) ?_
        refine AllReadyH.cons (o := ⟨some 35, _, _, _, _, none⟩) rfl (fun K hK => ?_) AllReadyH.nil
        go_simp
        refine (HSC.out _ _ _ _ _ _ _ _ _ T3.out r1.out r2.out r3.out).mono ?_
        rintro _ w5 ⟨v0, v1, v2, rfl, hb5, hv⟩
        obtain ⟨e0, f0, e1, f1, e2, f2, rfl, rfl, rfl⟩ := hv.form
        have HND := hide fun (g : Nat) (hg : HIn (.slice e0 A.length f0) (.slice e1 B.length f1) (.slice e2 C.length f2) g) => Nat.ne_of_gt (Nat.lt_of_lt_of_le VF.out.lt (hv.lt hg).1)
        have HVn := hide (hv.low (Nat.zero_le _))
        refine hK.out _ _ (hHeld.trans (hb5.mono hHeld.size)) (fun hHeld' => ?_)
        have VF' := hide (VF.out.below hb5)
        clear VF
        have VF := VF'
        clear VF'
        clear T3 r1 r2 r3
        clear hK K hb5 hv hHeld
        have hHeld := hHeld'
        clear hHeld'
        refine wpAnyH_take (i := 5) (oi := ⟨some 30, _, _, _, _, none⟩) (v := .tuple #[.agg #[.slice e0 A.length f0, .slice e1 B.length f1, .slice e2 C.length f2], .int .i64 mm, .bool ok]) rfl (by kernel_rfl) (by kernel_rfl) (by kernel_rfl) (fun _ _ _ h => h) (Or.inl ⟨by rfl, fun w' hSw => by clear hSw; go_simp⟩) hHeld ?_
        simp only [Act.put, List.setIfInBounds_toArray, List.set_cons_zero, List.set_cons_succ]
        refine wpAnyH_take (i := 6) (oi := ⟨some 36, _, _, _, _, none⟩) (v := .agg #[.slice e0 A.length f0, .slice e1 B.length f1, .slice e2 C.length f2]) rfl (by kernel_rfl) (by kernel_rfl) (by kernel_rfl) (fun _ _ _ h => h) (Or.inl ⟨by rfl, fun w' hSw => by clear hSw; go_simp⟩) hHeld ?_
        simp only [Act.put, List.setIfInBounds_toArray, List.set_cons_zero, List.set_cons_succ]
        refine wpAnyH_take (i := 7) (oi := ⟨some 37, _, _, _, _, none⟩) (v := .int .i64 mm) rfl (by kernel_rfl) (by kernel_rfl) (by kernel_rfl) (fun _ _ _ h => h) (Or.inl ⟨by rfl, fun w' hSw => by clear hSw; go_simp⟩) hHeld ?_
        simp only [Act.put, List.setIfInBounds_toArray, List.set_cons_zero, List.set_cons_succ]
        refine wpAnyH_take (i := 8) (oi := ⟨some 38, _, _, _, _, none⟩) (v := .bool ok) rfl (by kernel_rfl) (by kernel_rfl) (by kernel_rfl) (fun _ _ _ h => h) (Or.inl ⟨by rfl, fun w' hSw => by clear hSw; go_simp⟩) hHeld ?_
        simp only [Act.put, List.setIfInBounds_toArray, List.set_cons_zero, List.set_cons_succ]
        have c0 := VF.out.c0
        have c1 := VF.out.c1
        have c2 := VF.out.c2
        have f0' := VF.out.f 0
        have f1' := VF.out.f 1
        have f2' := VF.out.f 2
        refine wpAnyH_ready (rs := [10]) (by kernel_rfl) (by simp) ?_
        refine AllReadyH.cons (o := ⟨none, _, _, _, _, none⟩) rfl (fun K hK => ?_) AllReadyH.nil
        go_simp
        refine hK.out _ _ (((hHeld.setCell (p := ⟨_, 0, none⟩) VF.out.lo _).setCell (p := ⟨_, 1, none⟩) VF.out.lo _).setCell (p := ⟨_, 2, none⟩) VF.out.lo _) (fun hHeld' => ?_)
        have PP := hide (VF.out.put (.slice e0 A.length f0) (.slice e1 B.length f1) (.slice e2 C.length f2))
        have HVs := hide (HVn.out.put3 HND.out (.slice e0 A.length f0) (.slice e1 B.length f1) (.slice e2 C.length f2))
        clear hK K c0 c1 c2 f0' f1' f2' hHeld
        have hHeld := hHeld'
        clear hHeld'
        refine wpAnyH_take (i := 11) (oi := ⟨some 7, _, _, _, _, none⟩) (v := .int .i64 mm) rfl (by kernel_rfl) (by kernel_rfl) (by kernel_rfl) (fun _ _ _ h => h) (Or.inl ⟨by rfl, fun w' hSw => by clear hSw; go_simp⟩) hHeld ?_
        simp only [Act.put, List.setIfInBounds_toArray, List.set_cons_zero, List.set_cons_succ]
        refine wpAnyH_take (i := 12) (oi := ⟨some 8, _, _, _, _, none⟩) (v := .bool ok) rfl (by kernel_rfl) (by kernel_rfl) (by kernel_rfl) (fun _ _ _ h => h) (Or.inl ⟨by rfl, fun w' hSw => by clear hSw; go_simp⟩) hHeld ?_
        simp only [Act.put, List.setIfInBounds_toArray, List.set_cons_zero, List.set_cons_succ]
        refine wpAnyH_done (by kernel_rfl) ?_ _
        refine NoPanic.normal ?_
        have HBc := hide hHeld
        clear hHeld VF
        go_wp2_with fail
        go_meet
        case rel => exact ⟨_, _, _, _, rfl, rfl, rfl, PP, HVs, HBc⟩
    · go_simp
      refine hK.out _ _ (hHeld.trans ((below_new _ _).mono hHeld.size)) (fun hHeld' => ?_)
      have VF : Hid (VH17 w2.heap.size Wd.heap.size (Wd.alloc (.cells #[.slice none 0 0, .slice none 0 0, .slice none 0 0] 40))) := hide (VH17.new _ hHeld.size _)
      clear hK K hHeld
      have hHeld := hHeld'
      clear hHeld'
      generalize Wd.alloc (.cells #[.slice none 0 0, .slice none 0 0, .slice none 0 0] 40) = WA at *
      generalize Wd.heap.size = D at VF ⊢
      refine wpAnyH_ready (rs := [1]) (by kernel_rfl) (by simp) ?_
      refine AllReadyH.cons (o := ⟨some 32, _, _, _, _, none⟩) rfl (fun K hK => ?_) AllReadyH.nil
      go_simp
      refine (HTS.out _ hng hnl (HD2.out.below hHeld).b).mono ?_
      rintro _ w3 ⟨X3, Y3, rfl, hb3, _, _, t3⟩
      have T3 := hide t3
      refine hK.out _ _ (hHeld.trans (hb3.mono hHeld.size)) (fun hHeld' => ?_)
      have VF' := hide (VF.out.below hb3)
      clear VF
      have VF := VF'
      clear VF'
      clear hK K hb3 t3 hHeld
      have hHeld := hHeld'
      clear hHeld'
      refine wpAnyH_ready (rs := [3]) (by kernel_rfl) (by simp) ?_
      refine AllReadyH.cons (o := ⟨some 34, _, _, _, _, none⟩) rfl (fun K hK => ?_) AllReadyH.nil
      go_simp
      refine (HTH.out _ g1 g2 g3 (HD2.out.below hHeld).b).mono ?_
      rintro _ w4 ⟨x4, y4, z4, rfl, hb4, _, o1, o2, o3⟩
      have r1 := hide (arow_owns HHN.out.symm o1)
      have r2 := hide (arow_owns HHM.out.symm o2)
      have r3 := hide (arow_owns HHQ.out.symm o3)
      refine hK.out _ _ (hHeld.trans (hb4.mono hHeld.size)) (fun hHeld' => ?_)
      have VF' := hide (VF.out.below hb4)
      clear VF
      have VF := VF'
      clear VF'
      have T3' := hide (T3.out.below hb4)
      clear T3
      have T3 := T3'
      clear T3'
      clear hK K hb4 o1 o2 o3 hHeld
      have hHeld := hHeld'
      clear hHeld'
      refine wpAnyH_ready (rs := [4]) (by kernel_rfl) (by simp) ?_
      refine AllReadyH.cons (o := ⟨some 35, _, _, _, _, none⟩) rfl (fun K hK => ?_) AllReadyH.nil
      go_simp
      refine (HSC.out _ _ _ _ _ _ _ _ _ T3.out r1.out r2.out r3.out).mono ?_
      rintro _ w5 ⟨v0, v1, v2, rfl, hb5, hv⟩
      obtain ⟨e0, f0, e1, f1, e2, f2, rfl, rfl, rfl⟩ := hv.form
      have HND := hide fun (g : Nat) (hg : HIn (.slice e0 A.length f0) (.slice e1 B.length f1) (.slice e2 C.length f2) g) => Nat.ne_of_gt (Nat.lt_of_lt_of_le VF.out.lt (hv.lt hg).1)
      have HVn := hide (hv.low (Nat.zero_le _))
      refine hK.out _ _ (hHeld.trans (hb5.mono hHeld.size)) (fun hHeld' => ?_)
      have VF' := hide (VF.out.below hb5)
      clear VF
      have VF := VF'
      clear VF'
      clear T3 r1 r2 r3
      clear hK K hb5 hv hHeld
      have hHeld := hHeld'
      clear hHeld'
      refine wpAnyH_take (i := 5) (oi := ⟨some 30, _, _, _, _, none⟩) (v := .tuple #[.agg #[.slice e0 A.length f0, .slice e1 B.length f1, .slice e2 C.length f2], .int .i64 mm, .bool ok]) rfl (by kernel_rfl) (by kernel_rfl) (by kernel_rfl) (fun _ _ _ h => h) (Or.inl ⟨by rfl, fun w' hSw => by clear hSw; go_simp⟩) hHeld ?_
      simp only [Act.put, List.setIfInBounds_toArray, List.set_cons_zero, List.set_cons_succ]
      refine wpAnyH_take (i := 6) (oi := ⟨some 36, _, _, _, _, none⟩) (v := .agg #[.slice e0 A.length f0, .slice e1 B.length f1, .slice e2 C.length f2]) rfl (by kernel_rfl) (by kernel_rfl) (by kernel_rfl) (fun _ _ _ h => h) (Or.inl ⟨by rfl, fun w' hSw => by clear hSw; go_simp⟩) hHeld ?_
      simp only [Act.put, List.setIfInBounds_toArray, List.set_cons_zero, List.set_cons_succ]
      refine wpAnyH_take (i := 7) (oi := ⟨some 37, _, _, _, _, none⟩) (v := .int .i64 mm) rfl (by kernel_rfl) (by kernel_rfl) (by kernel_rfl) (fun _ _ _ h => h) (Or.inl ⟨by rfl, fun w' hSw => by clear hSw; go_simp⟩) hHeld ?_
      simp only [Act.put, List.setIfInBounds_toArray, List.set_cons_zero, List.set_cons_succ]
      refine wpAnyH_take (i := 8) (oi := ⟨some 38, _, _, _, _, none⟩) (v := .bool ok) rfl (by kernel_rfl) (by kernel_rfl) (by kernel_rfl) (fun _ _ _ h => h) (Or.inl ⟨by rfl, fun w' hSw => by clear hSw; go_simp⟩) hHeld ?_
      simp only [Act.put, List.setIfInBounds_toArray, List.set_cons_zero, List.set_cons_succ]
      have c0 := VF.out.c0
      have c1 := VF.out.c1
      have c2 := VF.out.c2
      have f0' := VF.out.f 0
      have f1' := VF.out.f 1
      have f2' := VF.out.f 2
      refine wpAnyH_ready (rs := [10]) (by kernel_rfl) (by simp) ?_
      refine AllReadyH.cons (o := ⟨none, _, _, _, _, none⟩) rfl (fun K hK => ?_) AllReadyH.nil
      go_simp
      refine hK.out _ _ (((hHeld.setCell (p := ⟨_, 0, none⟩) VF.out.lo _).setCell (p := ⟨_, 1, none⟩) VF.out.lo _).setCell (p := ⟨_, 2, none⟩) VF.out.lo _) (fun hHeld' => ?_)
      have PP := hide (VF.out.put (.slice e0 A.length f0) (.slice e1 B.length f1) (.slice e2 C.length f2))
      have HVs := hide (HVn.out.put3 HND.out (.slice e0 A.length f0) (.slice e1 B.length f1) (.slice e2 C.length f2))
      clear hK K c0 c1 c2 f0' f1' f2' hHeld
      have hHeld := hHeld'
      clear hHeld'
      refine wpAnyH_take (i := 11) (oi := ⟨some 7, _, _, _, _, none⟩) (v := .int .i64 mm) rfl (by kernel_rfl) (by kernel_rfl) (by kernel_rfl) (fun _ _ _ h => h) (Or.inl ⟨by rfl, fun w' hSw => by clear hSw; go_simp⟩) hHeld ?_
      simp only [Act.put, List.setIfInBounds_toArray, List.set_cons_zero, List.set_cons_succ]
      refine wpAnyH_take (i := 12) (oi := ⟨some 8, _, _, _, _, none⟩) (v := .bool ok) rfl (by kernel_rfl) (by kernel_rfl) (by kernel_rfl) (fun _ _ _ h => h) (Or.inl ⟨by rfl, fun w' hSw => by clear hSw; go_simp⟩) hHeld ?_
      simp only [Act.put, List.setIfInBounds_toArray, List.set_cons_zero, List.set_cons_succ]
      refine wpAnyH_done (by kernel_rfl) ?_ _
      refine NoPanic.normal ?_
      have HBc := hide hHeld
      clear hHeld VF
      go_wp2_with fail
      go_meet
      case rel => exact ⟨_, _, _, _, rfl, rfl, rfl, PP, HVs, HBc⟩
  case rest =>
    obtain ⟨D, v0, v1, v2, rfl, rfl, rfl, PD, HVc, HBc⟩ := hcut
    obtain ⟨e0, f0, e1, f1, e2, f2, rfl, rfl, rfl⟩ := HVc.out.form
    have HD3 := HD2.out.below HBc.out
    have HL3 := hide (LB17.mk (E := wc.heap.size) HD3.s HD3.h PD.out HVc.out PD.out.2.2.2 (fun g hg => (HVc.out.lt hg).2) HD3.h.2.2.2 (Nat.le_refl _) HD3.b)
    clear HD2 HSC HBc HVc PD HD3
    obtain ⟨p0, p1, _⟩ := HL3.out.s
    go_wp2_with fail
    refine (HTS.out _ hng hnl HL3.out.b).mono ?_
    rintro _ w6 ⟨X6, Y6, rfl, hb6, hX6, hY6, t6⟩
    have bn6 := below_new w6 (.cells #[.slice (some ⟨X6, 0, none⟩) n n, .slice (some ⟨Y6, 0, none⟩) n' n'] 38)
    have HL6 := hide ((HL3.out.below hb6).below bn6)
    have T6 := hide (t6.below bn6)
    have PX6 := hide (PBox.new w6 (.slice (some ⟨X6, 0, none⟩) n n) (.slice (some ⟨Y6, 0, none⟩) n' n') 38)
    have hXD := t6.lx
    have hYD := t6.ly
    clear hb6 bn6 t6 p0 p1 HL3
    go_upto_region 10 with fail
    generalize w6.alloc (.cells #[.slice (some ⟨X6, 0, none⟩) n n, .slice (some ⟨Y6, 0, none⟩) n' n'] 38) = W6 at *
    generalize w6.heap.size = D6 at *
    generalize wc.heap.size = E at *
    obtain ⟨x0, x1, x2, _⟩ := HL6.out.h
    go_wp2_with fail
    refine (HTH.out _ g1 g2 g3 HL6.out.b).mono ?_
    rintro _ w7 ⟨x7, y7, z7, rfl, hb7, ⟨q1, q2, q3, q4⟩, o1, o2, o3⟩
    have hz6 := PX6.out.2.2
    have bn7 := below_new w7 (.cells #[.slice (some ⟨x7, 0, none⟩) hn hn, .slice (some ⟨y7, 0, none⟩) hm hm, .slice (some ⟨z7, 0, none⟩) hq hq] 40)
    have HL7 := hide ((HL6.out.below hb7).below bn7)
    have T7 := hide ((T6.out.below hb7).below bn7)
    have PX7 := hide ((PX6.out.below hb7).below bn7)
    have hv7 : HV W6.heap.size ws cs os (.slice (some ⟨x7, 0, none⟩) hn hn) (.slice (some ⟨y7, 0, none⟩) hm hm) (.slice (some ⟨z7, 0, none⟩) hq hq) w7 := ⟨by rw [HHN.out]; exact o1, by rw [HHM.out]; exact o2, by rw [HHQ.out]; exact o3,
      fun g h h' => by have h1 : x7 = g := Option.some.inj h; have h2 : y7 = g := Option.some.inj h'; omega, fun g h h' => by have h1 : x7 = g := Option.some.inj h; have h2 : z7 = g := Option.some.inj h'; omega, fun g h h' => by have h1 : y7 = g := Option.some.inj h; have h2 : z7 = g := Option.some.inj h'; omega⟩
    have HG7 := hide (LG.mk' (lo := D6 + 1) hv7 hz6 hb7.size 40 rfl)
    have S1 := hide ((arow_owns HHN.out.symm o1).below bn7)
    have S2 := hide ((arow_owns HHM.out.symm o2).below bn7)
    have S3 := hide ((arow_owns HHQ.out.symm o3).below bn7)
    clear hb7 bn7 o1 o2 o3 q1 q2 q3 q4 hv7 hz6 x0 x1 x2 HL6 T6 PX6
    go_upto_region 11 with fail
    generalize w7.alloc (.cells #[.slice (some ⟨x7, 0, none⟩) hn hn, .slice (some ⟨y7, 0, none⟩) hm hm, .slice (some ⟨z7, 0, none⟩) hq hq] 40) = W7 at *
    generalize w7.heap.size = D7 at *
    obtain ⟨p0, p1, _⟩ := PX7.out
    obtain ⟨x0, x1, x2, _⟩ := HG7.out.v
    go_wp2_with fail
    refine (HIC.out _ _ _ _ _ _ _ _ _ T7.out S1.out S2.out S3.out).mono ?_
    rintro _ w8 ⟨u0, u1, u2, rfl, hb8, hv8⟩
    obtain ⟨i0', j0, i1', j1, i2', j2, rfl, rfl, rfl⟩ := hv8.form
    have bn8 := below_new w8 (.cells #[.slice i0' A.length j0, .slice i1' B.length j1, .slice i2' C.length j2] 40)
    have b8 := hb8.trans (bn8.mono hb8.size)
    have HL8 := hide (HL7.out.below b8)
    have T8 := hide (T7.out.below b8)
    have PX8 := hide (PX7.out.below b8)
    have HG8 := hide (HG7.out.below b8)
    have HK8 := hide (LG.mk' (lo := D7 + 1) hv8 HG7.out.v.2.2.2 hb8.size 40 rfl)
    clear hb8 bn8 b8 hv8 p0 p1 x0 x1 x2 HL7 T7 PX7 HG7 S1 S2 S3
    go_upto_region 12 with fail
    generalize w8.alloc (.cells #[.slice i0' A.length j0, .slice i1' B.length j1, .slice i2' C.length j2] 40) = W8 at *
    generalize w8.heap.size = D8 at *
    obtain ⟨y0, y1, y2, _⟩ := HL8.out.v
    obtain ⟨s0, s1, s2, _⟩ := HK8.out.v
    go_wp2_with fail
    refine (eqHV (by omega) (by omega) (by omega) HK8.out.V HL8.out.V).mono ?_
    rintro _ w9 ⟨rfl, hb9⟩
    have HL9 := hide (HL8.out.below hb9)
    have T9 := hide (T8.out.below hb9)
    have PX9 := hide (PX8.out.below hb9)
    have HG9 := hide (HG8.out.below hb9)
    have HK9 := hide (HK8.out.below hb9)
    clear hb9 y0 y1 y2 s0 s1 s2 HL8 T8 PX8 HG8 HK8
    go_upto_region 14 with fail
    refine wp_region_noPanic ?_
    refine wp_region_held_drew (S := fun w' => Below w9.heap.size w9 w') (by kernel_rfl) ((Below.refl _ _).drew) (fun hHeld => ?_)
    refine wpAnyH_take (i := 0) (oi := ⟨some 64, _, _, _, _, none⟩) (v := .agg #[.slice (some ⟨X6, 0, none⟩) n n, .slice (some ⟨Y6, 0, none⟩) n' n']) rfl (by kernel_rfl) (by kernel_rfl) (by kernel_rfl) (fun _ _ _ h => h) (Or.inl ⟨by rfl, fun w' hSw => by obtain ⟨p0, p1, _⟩ := PX9.out.below hSw; clear hSw; go_simp⟩) hHeld ?_
    simp only [Act.put, List.setIfInBounds_toArray, List.set_cons_zero, List.set_cons_succ]
    refine wpAnyH_take (i := 1) (oi := ⟨some 65, _, _, _, _, none⟩) (v := .agg #[.slice a n c, .slice a' n' c']) rfl (by kernel_rfl) (by kernel_rfl) (by kernel_rfl) (fun _ _ _ h => h) (Or.inl ⟨by rfl, fun w' hSw => by obtain ⟨p0, p1, _⟩ := (HL9.out.below hSw).s; clear hSw; go_simp⟩) hHeld ?_
    simp only [Act.put, List.setIfInBounds_toArray, List.set_cons_zero, List.set_cons_succ]
    refine wpAnyH_ready (rs := [2]) (by kernel_rfl) (by simp) ?_
    refine AllReadyH.cons (o := ⟨some 66, _, _, _, _, none⟩) rfl (fun K hK => ?_) AllReadyH.nil
    go_simp
    refine (HTS.out _ hng hnl (HL9.out.below hHeld).b).mono ?_
    rintro _ wa ⟨Xa, Ya, rfl, hba, _, _, ta⟩
    refine hK.out _ _ (hHeld.trans (hba.mono hHeld.size)) (fun hHeld' => ?_)
    clear hK K hba hHeld
    have hHeld := hHeld'
    clear hHeld'
    refine wpAnyH_ready (rs := [3]) (by kernel_rfl) (by simp) ?_
    refine AllReadyH.cons (o := ⟨some 67, _, _, _, _, none⟩) rfl (fun K hK => ?_) AllReadyH.nil
    go_simp
    refine (eqSh15 HN hng HN' hnl (T9.out.below hHeld).g (T9.out.below hHeld).l ta.g ta.l).mono ?_
    rintro _ wb ⟨rfl, hbb⟩
    refine hK.out _ _ (hHeld.trans (hbb.mono hHeld.size)) (fun hHeld' => ?_)
    clear hK K hbb hHeld ta
    have hHeld := hHeld'
    clear hHeld'
    refine wpAnyH_take (i := 4) (oi := ⟨some 68, _, _, _, _, none⟩) (v := .bool false) rfl (by kernel_rfl) (by kernel_rfl) (by kernel_rfl) (fun _ _ _ h => h) (Or.inl ⟨by rfl, fun w' hSw => by clear hSw; go_simp⟩) hHeld ?_
    simp only [Act.put, List.setIfInBounds_toArray, List.set_cons_zero, List.set_cons_succ]
    refine wpAnyH_done (by kernel_rfl) ?_ _
    refine NoPanic.normal ?_
    have HLa := hide (HL9.out.below hHeld)
    have Ta := hide (T9.out.below hHeld)
    have PXa := hide (PX9.out.below hHeld)
    have HGa := hide (HG9.out.below hHeld)
    have HKa := hide (HK9.out.below hHeld)
    clear hHeld HL9 T9 PX9 HG9 HK9
    go_upto_region 16 with fail
    refine wp_region_noPanic ?_
    refine wp_region_held_drew (S := fun w' => Below wb.heap.size wb w') (by kernel_rfl) ((Below.refl _ _).drew) (fun hHeld => ?_)
    refine wpAnyH_take (i := 0) (oi := ⟨some 69, _, _, _, _, none⟩) (v := .agg #[.slice (some ⟨x7, 0, none⟩) hn hn, .slice (some ⟨y7, 0, none⟩) hm hm, .slice (some ⟨z7, 0, none⟩) hq hq]) rfl (by kernel_rfl) (by kernel_rfl) (by kernel_rfl) (fun _ _ _ h => h) (Or.inl ⟨by rfl, fun w' hSw => by obtain ⟨x0, x1, x2, _⟩ := (HGa.out.below hSw).v; clear hSw; go_simp⟩) hHeld ?_
    simp only [Act.put, List.setIfInBounds_toArray, List.set_cons_zero, List.set_cons_succ]
    refine wpAnyH_take (i := 1) (oi := ⟨some 70, _, _, _, _, none⟩) (v := .agg #[.slice ha hn hc, .slice hb hm hd, .slice ho hq he]) rfl (by kernel_rfl) (by kernel_rfl) (by kernel_rfl) (fun _ _ _ h => h) (Or.inl ⟨by rfl, fun w' hSw => by obtain ⟨x0, x1, x2, _⟩ := (HLa.out.below hSw).h; clear hSw; go_simp⟩) hHeld ?_
    simp only [Act.put, List.setIfInBounds_toArray, List.set_cons_zero, List.set_cons_succ]
    refine wpAnyH_ready (rs := [2]) (by kernel_rfl) (by simp) ?_
    refine AllReadyH.cons (o := ⟨some 71, _, _, _, _, none⟩) rfl (fun K hK => ?_) AllReadyH.nil
    go_simp
    refine (HTH.out _ g1 g2 g3 (HLa.out.below hHeld).b).mono ?_
    rintro _ wc2 ⟨xc, yc, zc, rfl, hbc, ⟨q1, q2, q3, q4⟩, o1, o2, o3⟩
    refine hK.out _ _ (hHeld.trans (hbc.mono hHeld.size)) (fun hHeld' => ?_)
    clear hK K hbc hHeld
    have hHeld := hHeld'
    clear hHeld'
    refine wpAnyH_ready (rs := [3]) (by kernel_rfl) (by simp) ?_
    refine AllReadyH.cons (o := ⟨some 72, _, _, _, _, none⟩) rfl (fun K hK => ?_) AllReadyH.nil
    go_simp
    have hGV := (HGa.out.below hHeld).V
    have hG0 := hGV.o0
    have hG1 := hGV.o1
    have hG2 := hGV.o2
    rw [HHN.out] at hG0
    rw [HHM.out] at hG1
    rw [HHQ.out] at hG2
    refine (eqH_any HHN HHM HHQ g1 g2 g3 (arow_owns HHN.out.symm hG0) (arow_owns HHM.out.symm hG1) (arow_owns HHQ.out.symm hG2) (arow_owns HHN.out.symm o1) (arow_owns HHM.out.symm o2) (arow_owns HHQ.out.symm o3)).mono ?_
    rintro _ wd ⟨rfl, hbd⟩
    refine hK.out _ _ (hHeld.trans (hbd.mono hHeld.size)) (fun hHeld' => ?_)
    clear hK K hbd hHeld hGV hG0 hG1 hG2 q1 q2 q3 q4 o1 o2 o3
    have hHeld := hHeld'
    clear hHeld'
    refine wpAnyH_take (i := 4) (oi := ⟨some 73, _, _, _, _, none⟩) (v := .bool false) rfl (by kernel_rfl) (by kernel_rfl) (by kernel_rfl) (fun _ _ _ h => h) (Or.inl ⟨by rfl, fun w' hSw => by clear hSw; go_simp⟩) hHeld ?_
    simp only [Act.put, List.setIfInBounds_toArray, List.set_cons_zero, List.set_cons_succ]
    refine wpAnyH_done (by kernel_rfl) ?_ _
    refine NoPanic.normal ?_
    have HLb := hide (HLa.out.below hHeld)
    have Tb := hide (Ta.out.below hHeld)
    have PXb := hide (PXa.out.below hHeld)
    have HGb := hide (HGa.out.below hHeld)
    have HKb := hide (HKa.out.below hHeld)
    clear hHeld HLa Ta PXa HGa HKa
    obtain ⟨x0, x1, _⟩ := PXb.out
    go_wp2_with fail
    refine (markSh_v hng hnl (by omega) (by omega) Tb.out.loose17.1 Tb.out.loose17.2 (fun g h1 h2 => Tb.out.ne (by cases h1; cases h2; rfl))).mono ?_
    rintro _ w12 ⟨rfl, _, _, ofx⟩
    have HL12 := hide (HLb.out.keep ofx.os ofx.tape ofx.output ofx.size fun b hb hd => ofx.block b hb (own_off17 (by omega) _ _) (own_off17 (by omega) _ _))
    have HG12 := hide (HGb.out.keep ofx.size fun b hb hd => ofx.block b hb (own_off17 (by omega) _ _) (own_off17 (by omega) _ _))
    have hlt := HGb.out.lt
    have HK12 := hide (HKb.out.keep ofx.size fun b hb hd => ofx.block b hb (own_off17 (by omega) _ _) (own_off17 (by omega) _ _))
    clear ofx HLb Tb PXb HGb HKb x0 x1
    obtain ⟨x0, x1, x2, _⟩ := HG12.out.v
    go_wp2_with fail
    refine (markHV HHN.out HHM.out HHQ.out g1 g2 g3 (by omega) (by omega) HG12.out.V).mono ?_
    rintro _ w13 ⟨rfl, _, of13⟩
    have HL13 := hide (HL12.out.keep of13.os of13.tape of13.output of13.size fun b hb hd => of13.block b hb fun hi => by have := (HG12.out.V.lt hi).1; omega)
    have HK13 := hide (HK12.out.keep of13.size fun b hb hd => of13.block b hb fun hi => by have := HG12.out.hV b hi; omega)
    have hk : ¬ (1 : Int) + (n : Int) * 2 + (n' : Int) * 2 + (hn : Int) + (hm : Int) + (hq : Int) < 0 := by omega
    clear of13 HL12 HG12 HK12 x0 x1 x2
    obtain ⟨y0, y1, y2, _⟩ := HL13.out.v
    obtain ⟨s0, s1, s2, _⟩ := HK13.out.v
    go_wp2_with fail
    refine (eqHV (by omega) (by omega) (by omega) HK13.out.V HL13.out.V).mono ?_
    rintro _ w14 ⟨rfl, hb14⟩
    have HL14 := hide (HL13.out.below hb14)
    have HK14 := hide (HK13.out.below hb14)
    clear hb14 HL13 HK13 y0 y1 y2 s0 s1 s2
    obtain ⟨s0, s1, s2, _⟩ := HK14.out.v
    go_wp2_with fail
    refine (markHV rfl rfl rfl (by omega) (by omega) (by omega) (by omega) (by omega) HK14.out.V).mono ?_
    rintro _ w15 ⟨rfl, hh15, of15⟩
    have HL15 := hide (HL14.out.keep of15.os of15.tape of15.output of15.size fun b hb hd => of15.block b hb fun hi => by have := (HK14.out.V.lt hi).1; omega)
    have HX15 := hide (HK14.out.v.keep of15.size (of15.block _ HK14.out.v.2.2.2 fun hi => Nat.lt_irrefl _ (HK14.out.hV _ hi)))
    have HH15 := hide hh15
    have hq0 : ¬ (1 : Int) + (A.length : Int) + (B.length : Int) + (C.length : Int) < 0 := by omega
    have hq1 : ((1 : Int) + (A.length : Int) + (B.length : Int) + (C.length : Int) != 1 + (A.length : Int) + (B.length : Int) + (C.length : Int)) = false := by simp
    clear of15 hh15 HL14 HK14 s0 s1 s2
    obtain ⟨s0, s1, s2, _⟩ := HX15.out
    go_wp2_with fail
    refine (heldHV (by omega) (by omega) (by omega) (by omega) (by omega) HH15.out).mono ?_
    rintro _ wm ⟨rfl, hb16⟩
    have HLm := hide (HL15.out.below hb16)
    have HXm := hide (HX15.out.below hb16)
    have HHm := hide (HH15.out.below hb16)
    clear hb16 HL15 HX15 HH15 s0 s1 s2
    go_upto_region 31 with fail
    go_cut [17, 18, 19] (fun s6 s7 s8 wc => ∃ (D : Nat) (v0 v1 v2 : Value), s6 = .pointer (some ⟨D, 0, none⟩) ∧ s7 = .int .i64 mm ∧ s8 = .bool ok ∧ Hid (HBox wc D v0 v1 v2) ∧ Hid (HV 0 A B C v0 v1 v2 wc) ∧ Hid (Below wm.heap.size wm wc))
    case first =>
      refine wp_region_noPanic ?_
      refine wp_region_held_drew (S := fun w' => Below wm.heap.size wm w') (by kernel_rfl) ((Below.refl _ _).drew) (fun hHeld => ?_)
      generalize wm.drew = Wd at *
      refine wpAnyH_take (i := 0) (oi := ⟨some 110, _, _, _, _, none⟩) (v := .agg #[.slice a n c, .slice a' n' c']) rfl (by kernel_rfl) (by kernel_rfl) (by kernel_rfl) (fun _ _ _ h => h) (Or.inl ⟨by rfl, fun w' hSw => by obtain ⟨p0, p1, _⟩ := (HLm.out.below hSw).s; clear hSw; go_simp⟩) hHeld ?_
      simp only [Act.put, List.setIfInBounds_toArray, List.set_cons_zero, List.set_cons_succ]
      refine wpAnyH_take (i := 2) (oi := ⟨some 112, _, _, _, _, none⟩) (v := .agg #[.slice ha hn hc, .slice hb hm hd, .slice ho hq he]) rfl (by kernel_rfl) (by kernel_rfl) (by kernel_rfl) (fun _ _ _ h => h) (Or.inl ⟨by rfl, fun w' hSw => by obtain ⟨x0, x1, x2, _⟩ := (HLm.out.below hSw).h; clear hSw; go_simp⟩) hHeld ?_
      simp only [Act.put, List.setIfInBounds_toArray, List.set_cons_zero, List.set_cons_succ]
      refine wpAnyH_ready (rs := [1, 9]) (by kernel_rfl) (by simp) ?_
      refine AllReadyH.cons (o := ⟨some 111, _, _, _, _, none⟩) rfl (fun K hK => ?_) (AllReadyH.cons (o := ⟨some 17, _, _, _, _, none⟩) rfl (fun K hK => ?_) AllReadyH.nil)
      · go_simp
        refine (HTS.out _ hng hnl (HLm.out.below hHeld).b).mono ?_
        rintro _ w3 ⟨X3, Y3, rfl, hb3, _, _, t3⟩
        have T3 := hide t3
        refine hK.out _ _ (hHeld.trans (hb3.mono hHeld.size)) (fun hHeld' => ?_)
        clear hK K hb3 t3 hHeld
        have hHeld := hHeld'
        clear hHeld'
        refine wpAnyH_ready (rs := [3, 9]) (by kernel_rfl) (by simp) ?_
        refine AllReadyH.cons (o := ⟨some 113, _, _, _, _, none⟩) rfl (fun K hK => ?_) (AllReadyH.cons (o := ⟨some 17, _, _, _, _, none⟩) rfl (fun K hK => ?_) AllReadyH.nil)
        · go_simp
          refine (HTH.out _ g1 g2 g3 (HLm.out.below hHeld).b).mono ?_
          rintro _ w4 ⟨x4, y4, z4, rfl, hb4, _, o1, o2, o3⟩
          have r1 := hide (arow_owns HHN.out.symm o1)
          have r2 := hide (arow_owns HHM.out.symm o2)
          have r3 := hide (arow_owns HHQ.out.symm o3)
          refine hK.out _ _ (hHeld.trans (hb4.mono hHeld.size)) (fun hHeld' => ?_)
          have T3' := hide (T3.out.below hb4)
          clear T3
          have T3 := T3'
          clear T3'
          clear hK K hb4 o1 o2 o3 hHeld
          have hHeld := hHeld'
          clear hHeld'
          refine wpAnyH_ready (rs := [4, 9]) (by kernel_rfl) (by simp) ?_
          refine AllReadyH.cons (o := ⟨some 114, _, _, _, _, none⟩) rfl (fun K hK => ?_) (AllReadyH.cons (o := ⟨some 17, _, _, _, _, none⟩) rfl (fun K hK => ?_) AllReadyH.nil)
          · go_simp
            refine (HIC.out _ _ _ _ _ _ _ _ _ T3.out r1.out r2.out r3.out).mono ?_
            rintro _ w5 ⟨v0, v1, v2, rfl, hb5, hv⟩
            obtain ⟨e0, f0, e1, f1, e2, f2, rfl, rfl, rfl⟩ := hv.form
            have HVn := hide (hv.low (Nat.zero_le _))
            refine hK.out _ _ (hHeld.trans (hb5.mono hHeld.size)) (fun hHeld' => ?_)
            clear T3 r1 r2 r3
            clear hK K hb5 hv hHeld
            have hHeld := hHeld'
            clear hHeld'
            refine wpAnyH_take (i := 5) (oi := ⟨some 109, _, _, _, _, none⟩) (v := .tuple #[.agg #[.slice e0 A.length f0, .slice e1 B.length f1, .slice e2 C.length f2], .int .i64 mm, .bool ok]) rfl (by kernel_rfl) (by kernel_rfl) (by kernel_rfl) (fun _ _ _ h => h) (Or.inl ⟨by rfl, fun w' hSw => by clear hSw; go_simp⟩) hHeld ?_
            simp only [Act.put, List.setIfInBounds_toArray, List.set_cons_zero, List.set_cons_succ]
            refine wpAnyH_take (i := 6) (oi := ⟨some 115, _, _, _, _, none⟩) (v := .agg #[.slice e0 A.length f0, .slice e1 B.length f1, .slice e2 C.length f2]) rfl (by kernel_rfl) (by kernel_rfl) (by kernel_rfl) (fun _ _ _ h => h) (Or.inl ⟨by rfl, fun w' hSw => by clear hSw; go_simp⟩) hHeld ?_
            simp only [Act.put, List.setIfInBounds_toArray, List.set_cons_zero, List.set_cons_succ]
            refine wpAnyH_take (i := 7) (oi := ⟨some 116, _, _, _, _, none⟩) (v := .int .i64 mm) rfl (by kernel_rfl) (by kernel_rfl) (by kernel_rfl) (fun _ _ _ h => h) (Or.inl ⟨by rfl, fun w' hSw => by clear hSw; go_simp⟩) hHeld ?_
            simp only [Act.put, List.setIfInBounds_toArray, List.set_cons_zero, List.set_cons_succ]
            refine wpAnyH_take (i := 8) (oi := ⟨some 117, _, _, _, _, none⟩) (v := .bool ok) rfl (by kernel_rfl) (by kernel_rfl) (by kernel_rfl) (fun _ _ _ h => h) (Or.inl ⟨by rfl, fun w' hSw => by clear hSw; go_simp⟩) hHeld ?_
            simp only [Act.put, List.setIfInBounds_toArray, List.set_cons_zero, List.set_cons_succ]
            refine wpAnyH_ready (rs := [9]) (by kernel_rfl) (by simp) ?_
            refine AllReadyH.cons (o := ⟨some 17, _, _, _, _, none⟩) rfl (fun K hK => ?_) AllReadyH.nil
            go_simp
            refine hK.out _ _ (hHeld.trans ((below_new _ _).mono hHeld.size)) (fun hHeld' => ?_)
            have HND := hide fun (g : Nat) (hg : HIn (.slice e0 A.length f0) (.slice e1 B.length f1) (.slice e2 C.length f2) g) => Nat.ne_of_lt (HVn.out.lt hg).2
            have VF : Hid (VH17 wm.heap.size w5.heap.size (w5.alloc (.cells #[.slice none 0 0, .slice none 0 0, .slice none 0 0] 40))) := hide (VH17.new _ hHeld.size _)
            have HVn' := hide (HVn.out.below (below_new _ (.cells #[.slice none 0 0, .slice none 0 0, .slice none 0 0] 40)))
            clear HVn
            have HVn := HVn'
            clear HVn'
            clear hK K hHeld
            have hHeld := hHeld'
            clear hHeld'
            generalize w5.alloc (.cells #[.slice none 0 0, .slice none 0 0, .slice none 0 0] 40) = WA at *
            generalize w5.heap.size = D at VF HND ⊢
            have c0 := VF.out.c0
            have c1 := VF.out.c1
            have c2 := VF.out.c2
            have f0' := VF.out.f 0
            have f1' := VF.out.f 1
            have f2' := VF.out.f 2
            refine wpAnyH_ready (rs := [10]) (by kernel_rfl) (by simp) ?_
            refine AllReadyH.cons (o := ⟨none, _, _, _, _, none⟩) rfl (fun K hK => ?_) AllReadyH.nil
            go_simp
            refine hK.out _ _ (((hHeld.setCell (p := ⟨_, 0, none⟩) VF.out.lo _).setCell (p := ⟨_, 1, none⟩) VF.out.lo _).setCell (p := ⟨_, 2, none⟩) VF.out.lo _) (fun hHeld' => ?_)
            have PP := hide (VF.out.put (.slice e0 A.length f0) (.slice e1 B.length f1) (.slice e2 C.length f2))
            have HVs := hide (HVn.out.put3 HND.out (.slice e0 A.length f0) (.slice e1 B.length f1) (.slice e2 C.length f2))
            clear hK K c0 c1 c2 f0' f1' f2' hHeld
            have hHeld := hHeld'
            clear hHeld'
            refine wpAnyH_take (i := 11) (oi := ⟨some 18, _, _, _, _, none⟩) (v := .int .i64 mm) rfl (by kernel_rfl) (by kernel_rfl) (by kernel_rfl) (fun _ _ _ h => h) (Or.inl ⟨by rfl, fun w' hSw => by clear hSw; go_simp⟩) hHeld ?_
            simp only [Act.put, List.setIfInBounds_toArray, List.set_cons_zero, List.set_cons_succ]
            refine wpAnyH_take (i := 12) (oi := ⟨some 19, _, _, _, _, none⟩) (v := .bool ok) rfl (by kernel_rfl) (by kernel_rfl) (by kernel_rfl) (fun _ _ _ h => h) (Or.inl ⟨by rfl, fun w' hSw => by clear hSw; go_simp⟩) hHeld ?_
            simp only [Act.put, List.setIfInBounds_toArray, List.set_cons_zero, List.set_cons_succ]
            refine wpAnyH_done (by kernel_rfl) ?_ _
            refine NoPanic.normal ?_
            have HBc := hide hHeld
            clear hHeld VF
            go_wp2_with fail
            go_meet
            case rel => exact ⟨_, _, _, _, rfl, rfl, rfl, PP, HVs, HBc⟩
          · go_simp
            refine hK.out _ _ (hHeld.trans ((below_new _ _).mono hHeld.size)) (fun hHeld' => ?_)
            have VF : Hid (VH17 wm.heap.size w4.heap.size (w4.alloc (.cells #[.slice none 0 0, .slice none 0 0, .slice none 0 0] 40))) := hide (VH17.new _ hHeld.size _)
            have T3' := hide (T3.out.below (below_new _ (.cells #[.slice none 0 0, .slice none 0 0, .slice none 0 0] 40)))
            clear T3
            have T3 := T3'
            clear T3'
            have r1' := hide (r1.out.below (below_new _ (.cells #[.slice none 0 0, .slice none 0 0, .slice none 0 0] 40)))
            clear r1
            have r1 := r1'
            clear r1'
            have r2' := hide (r2.out.below (below_new _ (.cells #[.slice none 0 0, .slice none 0 0, .slice none 0 0] 40)))
            clear r2
            have r2 := r2'
            clear r2'
            have r3' := hide (r3.out.below (below_new _ (.cells #[.slice none 0 0, .slice none 0 0, .slice none 0 0] 40)))
            clear r3
            have r3 := r3'
            clear r3'
            clear hK K hHeld
            have hHeld := hHeld'
            clear hHeld'
            generalize w4.alloc (.cells #[.slice none 0 0, .slice none 0 0, .slice none 0 0] 40) = WA at *
            generalize w4.heap.size = D at VF ⊢
            refine wpAnyH_ready (rs := [4]) (by kernel_rfl) (by simp) ?_
            refine AllReadyH.cons (o := ⟨some 114, _, _, _, _, none⟩) rfl (fun K hK => ?_) AllReadyH.nil
            go_simp
            refine (HIC.out _ _ _ _ _ _ _ _ _ T3.out r1.out r2.out r3.out).mono ?_
            rintro _ w5 ⟨v0, v1, v2, rfl, hb5, hv⟩
            obtain ⟨e0, f0, e1, f1, e2, f2, rfl, rfl, rfl⟩ := hv.form
            have HND := hide fun (g : Nat) (hg : HIn (.slice e0 A.length f0) (.slice e1 B.length f1) (.slice e2 C.length f2) g) => Nat.ne_of_gt (Nat.lt_of_lt_of_le VF.out.lt (hv.lt hg).1)
            have HVn := hide (hv.low (Nat.zero_le _))
            refine hK.out _ _ (hHeld.trans (hb5.mono hHeld.size)) (fun hHeld' => ?_)
            have VF' := hide (VF.out.below hb5)
            clear VF
            have VF := VF'
            clear VF'
            clear T3 r1 r2 r3
            clear hK K hb5 hv hHeld
            have hHeld := hHeld'
            clear hHeld'
            refine wpAnyH_take (i := 5) (oi := ⟨some 109, _, _, _, _, none⟩) (v := .tuple #[.agg #[.slice e0 A.length f0, .slice e1 B.length f1, .slice e2 C.length f2], .int .i64 mm, .bool ok]) rfl (by kernel_rfl) (by kernel_rfl) (by kernel_rfl) (fun _ _ _ h => h) (Or.inl ⟨by rfl, fun w' hSw => by clear hSw; go_simp⟩) hHeld ?_
            simp only [Act.put, List.setIfInBounds_toArray, List.set_cons_zero, List.set_cons_succ]
            refine wpAnyH_take (i := 6) (oi := ⟨some 115, _, _, _, _, none⟩) (v := .agg #[.slice e0 A.length f0, .slice e1 B.length f1, .slice e2 C.length f2]) rfl (by kernel_rfl) (by kernel_rfl) (by kernel_rfl) (fun _ _ _ h => h) (Or.inl ⟨by rfl, fun w' hSw => by clear hSw; go_simp⟩) hHeld ?_
            simp only [Act.put, List.setIfInBounds_toArray, List.set_cons_zero, List.set_cons_succ]
            refine wpAnyH_take (i := 7) (oi := ⟨some 116, _, _, _, _, none⟩) (v := .int .i64 mm) rfl (by kernel_rfl) (by kernel_rfl) (by kernel_rfl) (fun _ _ _ h => h) (Or.inl ⟨by rfl, fun w' hSw => by clear hSw; go_simp⟩) hHeld ?_
            simp only [Act.put, List.setIfInBounds_toArray, List.set_cons_zero, List.set_cons_succ]
            refine wpAnyH_take (i := 8) (oi := ⟨some 117, _, _, _, _, none⟩) (v := .bool ok) rfl (by kernel_rfl) (by kernel_rfl) (by kernel_rfl) (fun _ _ _ h => h) (Or.inl ⟨by rfl, fun w' hSw => by clear hSw; go_simp⟩) hHeld ?_
            simp only [Act.put, List.setIfInBounds_toArray, List.set_cons_zero, List.set_cons_succ]
            have c0 := VF.out.c0
            have c1 := VF.out.c1
            have c2 := VF.out.c2
            have f0' := VF.out.f 0
            have f1' := VF.out.f 1
            have f2' := VF.out.f 2
            refine wpAnyH_ready (rs := [10]) (by kernel_rfl) (by simp) ?_
            refine AllReadyH.cons (o := ⟨none, _, _, _, _, none⟩) rfl (fun K hK => ?_) AllReadyH.nil
            go_simp
            refine hK.out _ _ (((hHeld.setCell (p := ⟨_, 0, none⟩) VF.out.lo _).setCell (p := ⟨_, 1, none⟩) VF.out.lo _).setCell (p := ⟨_, 2, none⟩) VF.out.lo _) (fun hHeld' => ?_)
            have PP := hide (VF.out.put (.slice e0 A.length f0) (.slice e1 B.length f1) (.slice e2 C.length f2))
            have HVs := hide (HVn.out.put3 HND.out (.slice e0 A.length f0) (.slice e1 B.length f1) (.slice e2 C.length f2))
            clear hK K c0 c1 c2 f0' f1' f2' hHeld
            have hHeld := hHeld'
            clear hHeld'
            refine wpAnyH_take (i := 11) (oi := ⟨some 18, _, _, _, _, none⟩) (v := .int .i64 mm) rfl (by kernel_rfl) (by kernel_rfl) (by kernel_rfl) (fun _ _ _ h => h) (Or.inl ⟨by rfl, fun w' hSw => by clear hSw; go_simp⟩) hHeld ?_
            simp only [Act.put, List.setIfInBounds_toArray, List.set_cons_zero, List.set_cons_succ]
            refine wpAnyH_take (i := 12) (oi := ⟨some 19, _, _, _, _, none⟩) (v := .bool ok) rfl (by kernel_rfl) (by kernel_rfl) (by kernel_rfl) (fun _ _ _ h => h) (Or.inl ⟨by rfl, fun w' hSw => by clear hSw; go_simp⟩) hHeld ?_
            simp only [Act.put, List.setIfInBounds_toArray, List.set_cons_zero, List.set_cons_succ]
            refine wpAnyH_done (by kernel_rfl) ?_ _
            refine NoPanic.normal ?_
            have HBc := hide hHeld
            clear hHeld VF
            go_wp2_with fail
            go_meet
            case rel => exact ⟨_, _, _, _, rfl, rfl, rfl, PP, HVs, HBc⟩
        · go_simp
          refine hK.out _ _ (hHeld.trans ((below_new _ _).mono hHeld.size)) (fun hHeld' => ?_)
          have VF : Hid (VH17 wm.heap.size w3.heap.size (w3.alloc (.cells #[.slice none 0 0, .slice none 0 0, .slice none 0 0] 40))) := hide (VH17.new _ hHeld.size _)
          have T3' := hide (T3.out.below (below_new _ (.cells #[.slice none 0 0, .slice none 0 0, .slice none 0 0] 40)))
          clear T3
          have T3 := T3'
          clear T3'
          clear hK K hHeld
          have hHeld := hHeld'
          clear hHeld'
          generalize w3.alloc (.cells #[.slice none 0 0, .slice none 0 0, .slice none 0 0] 40) = WA at *
          generalize w3.heap.size = D at VF ⊢
          refine wpAnyH_ready (rs := [3]) (by kernel_rfl) (by simp) ?_
          refine AllReadyH.cons (o := ⟨some 113, _, _, _, _, none⟩) rfl (fun K hK => ?_) AllReadyH.nil
          go_simp
          refine (HTH.out _ g1 g2 g3 (HLm.out.below hHeld).b).mono ?_
          rintro _ w4 ⟨x4, y4, z4, rfl, hb4, _, o1, o2, o3⟩
          have r1 := hide (arow_owns HHN.out.symm o1)
          have r2 := hide (arow_owns HHM.out.symm o2)
          have r3 := hide (arow_owns HHQ.out.symm o3)
          refine hK.out _ _ (hHeld.trans (hb4.mono hHeld.size)) (fun hHeld' => ?_)
          have VF' := hide (VF.out.below hb4)
          clear VF
          have VF := VF'
          clear VF'
          have T3' := hide (T3.out.below hb4)
          clear T3
          have T3 := T3'
          clear T3'
          clear hK K hb4 o1 o2 o3 hHeld
          have hHeld := hHeld'
          clear hHeld'
          refine wpAnyH_ready (rs := [4]) (by kernel_rfl) (by simp) ?_
          refine AllReadyH.cons (o := ⟨some 114, _, _, _, _, none⟩) rfl (fun K hK => ?_) AllReadyH.nil
          go_simp
          refine (HIC.out _ _ _ _ _ _ _ _ _ T3.out r1.out r2.out r3.out).mono ?_
          rintro _ w5 ⟨v0, v1, v2, rfl, hb5, hv⟩
          obtain ⟨e0, f0, e1, f1, e2, f2, rfl, rfl, rfl⟩ := hv.form
          have HND := hide fun (g : Nat) (hg : HIn (.slice e0 A.length f0) (.slice e1 B.length f1) (.slice e2 C.length f2) g) => Nat.ne_of_gt (Nat.lt_of_lt_of_le VF.out.lt (hv.lt hg).1)
          have HVn := hide (hv.low (Nat.zero_le _))
          refine hK.out _ _ (hHeld.trans (hb5.mono hHeld.size)) (fun hHeld' => ?_)
          have VF' := hide (VF.out.below hb5)
          clear VF
          have VF := VF'
          clear VF'
          clear T3 r1 r2 r3
          clear hK K hb5 hv hHeld
          have hHeld := hHeld'
          clear hHeld'
          refine wpAnyH_take (i := 5) (oi := ⟨some 109, _, _, _, _, none⟩) (v := .tuple #[.agg #[.slice e0 A.length f0, .slice e1 B.length f1, .slice e2 C.length f2], .int .i64 mm, .bool ok]) rfl (by kernel_rfl) (by kernel_rfl) (by kernel_rfl) (fun _ _ _ h => h) (Or.inl ⟨by rfl, fun w' hSw => by clear hSw; go_simp⟩) hHeld ?_
          simp only [Act.put, List.setIfInBounds_toArray, List.set_cons_zero, List.set_cons_succ]
          refine wpAnyH_take (i := 6) (oi := ⟨some 115, _, _, _, _, none⟩) (v := .agg #[.slice e0 A.length f0, .slice e1 B.length f1, .slice e2 C.length f2]) rfl (by kernel_rfl) (by kernel_rfl) (by kernel_rfl) (fun _ _ _ h => h) (Or.inl ⟨by rfl, fun w' hSw => by clear hSw; go_simp⟩) hHeld ?_
          simp only [Act.put, List.setIfInBounds_toArray, List.set_cons_zero, List.set_cons_succ]
          refine wpAnyH_take (i := 7) (oi := ⟨some 116, _, _, _, _, none⟩) (v := .int .i64 mm) rfl (by kernel_rfl) (by kernel_rfl) (by kernel_rfl) (fun _ _ _ h => h) (Or.inl ⟨by rfl, fun w' hSw => by clear hSw; go_simp⟩) hHeld ?_
          simp only [Act.put, List.setIfInBounds_toArray, List.set_cons_zero, List.set_cons_succ]
          refine wpAnyH_take (i := 8) (oi := ⟨some 117, _, _, _, _, none⟩) (v := .bool ok) rfl (by kernel_rfl) (by kernel_rfl) (by kernel_rfl) (fun _ _ _ h => h) (Or.inl ⟨by rfl, fun w' hSw => by clear hSw; go_simp⟩) hHeld ?_
          simp only [Act.put, List.setIfInBounds_toArray, List.set_cons_zero, List.set_cons_succ]
          have c0 := VF.out.c0
          have c1 := VF.out.c1
          have c2 := VF.out.c2
          have f0' := VF.out.f 0
          have f1' := VF.out.f 1
          have f2' := VF.out.f 2
          refine wpAnyH_ready (rs := [10]) (by kernel_rfl) (by simp) ?_
          refine AllReadyH.cons (o := ⟨none, _, _, _, _, none⟩) rfl (fun K hK => ?_) AllReadyH.nil
          go_simp
          refine hK.out _ _ (((hHeld.setCell (p := ⟨_, 0, none⟩) VF.out.lo _).setCell (p := ⟨_, 1, none⟩) VF.out.lo _).setCell (p := ⟨_, 2, none⟩) VF.out.lo _) (fun hHeld' => ?_)
          have PP := hide (VF.out.put (.slice e0 A.length f0) (.slice e1 B.length f1) (.slice e2 C.length f2))
          have HVs := hide (HVn.out.put3 HND.out (.slice e0 A.length f0) (.slice e1 B.length f1) (.slice e2 C.length f2))
          clear hK K c0 c1 c2 f0' f1' f2' hHeld
          have hHeld := hHeld'
          clear hHeld'
          refine wpAnyH_take (i := 11) (oi := ⟨some 18, _, _, _, _, none⟩) (v := .int .i64 mm) rfl (by kernel_rfl) (by kernel_rfl) (by kernel_rfl) (fun _ _ _ h => h) (Or.inl ⟨by rfl, fun w' hSw => by clear hSw; go_simp⟩) hHeld ?_
          simp only [Act.put, List.setIfInBounds_toArray, List.set_cons_zero, List.set_cons_succ]
          refine wpAnyH_take (i := 12) (oi := ⟨some 19, _, _, _, _, none⟩) (v := .bool ok) rfl (by kernel_rfl) (by kernel_rfl) (by kernel_rfl) (fun _ _ _ h => h) (Or.inl ⟨by rfl, fun w' hSw => by clear hSw; go_simp⟩) hHeld ?_
          simp only [Act.put, List.setIfInBounds_toArray, List.set_cons_zero, List.set_cons_succ]
          refine wpAnyH_done (by kernel_rfl) ?_ _
          refine NoPanic.normal ?_
          have HBc := hide hHeld
          clear hHeld VF
          go_wp2_with fail
          go_meet
          case rel => exact ⟨_, _, _, _, rfl, rfl, rfl, PP, HVs, HBc⟩
      · go_simp
        refine hK.out _ _ (hHeld.trans ((below_new _ _).mono hHeld.size)) (fun hHeld' => ?_)
        have VF : Hid (VH17 wm.heap.size Wd.heap.size (Wd.alloc (.cells #[.slice none 0 0, .slice none 0 0, .slice none 0 0] 40))) := hide (VH17.new _ hHeld.size _)
        clear hK K hHeld
        have hHeld := hHeld'
        clear hHeld'
        generalize Wd.alloc (.cells #[.slice none 0 0, .slice none 0 0, .slice none 0 0] 40) = WA at *
        generalize Wd.heap.size = D at VF ⊢
        refine wpAnyH_ready (rs := [1]) (by kernel_rfl) (by simp) ?_
        refine AllReadyH.cons (o := ⟨some 111, _, _, _, _, none⟩) rfl (fun K hK => ?_) AllReadyH.nil
        go_simp
        refine (HTS.out _ hng hnl (HLm.out.below hHeld).b).mono ?_
        rintro _ w3 ⟨X3, Y3, rfl, hb3, _, _, t3⟩
        have T3 := hide t3
        refine hK.out _ _ (hHeld.trans (hb3.mono hHeld.size)) (fun hHeld' => ?_)
        have VF' := hide (VF.out.below hb3)
        clear VF
        have VF := VF'
        clear VF'
        clear hK K hb3 t3 hHeld
        have hHeld := hHeld'
        clear hHeld'
        refine wpAnyH_ready (rs := [3]) (by kernel_rfl) (by simp) ?_
        refine AllReadyH.cons (o := ⟨some 113, _, _, _, _, none⟩) rfl (fun K hK => ?_) AllReadyH.nil
        go_simp
        refine (HTH.out _ g1 g2 g3 (HLm.out.below hHeld).b).mono ?_
        rintro _ w4 ⟨x4, y4, z4, rfl, hb4, _, o1, o2, o3⟩
        have r1 := hide (arow_owns HHN.out.symm o1)
        have r2 := hide (arow_owns HHM.out.symm o2)
        have r3 := hide (arow_owns HHQ.out.symm o3)
        refine hK.out _ _ (hHeld.trans (hb4.mono hHeld.size)) (fun hHeld' => ?_)
        have VF' := hide (VF.out.below hb4)
        clear VF
        have VF := VF'
        clear VF'
        have T3' := hide (T3.out.below hb4)
        clear T3
        have T3 := T3'
        clear T3'
        clear hK K hb4 o1 o2 o3 hHeld
        have hHeld := hHeld'
        clear hHeld'
        refine wpAnyH_ready (rs := [4]) (by kernel_rfl) (by simp) ?_
        refine AllReadyH.cons (o := ⟨some 114, _, _, _, _, none⟩) rfl (fun K hK => ?_) AllReadyH.nil
        go_simp
        refine (HIC.out _ _ _ _ _ _ _ _ _ T3.out r1.out r2.out r3.out).mono ?_
        rintro _ w5 ⟨v0, v1, v2, rfl, hb5, hv⟩
        obtain ⟨e0, f0, e1, f1, e2, f2, rfl, rfl, rfl⟩ := hv.form
        have HND := hide fun (g : Nat) (hg : HIn (.slice e0 A.length f0) (.slice e1 B.length f1) (.slice e2 C.length f2) g) => Nat.ne_of_gt (Nat.lt_of_lt_of_le VF.out.lt (hv.lt hg).1)
        have HVn := hide (hv.low (Nat.zero_le _))
        refine hK.out _ _ (hHeld.trans (hb5.mono hHeld.size)) (fun hHeld' => ?_)
        have VF' := hide (VF.out.below hb5)
        clear VF
        have VF := VF'
        clear VF'
        clear T3 r1 r2 r3
        clear hK K hb5 hv hHeld
        have hHeld := hHeld'
        clear hHeld'
        refine wpAnyH_take (i := 5) (oi := ⟨some 109, _, _, _, _, none⟩) (v := .tuple #[.agg #[.slice e0 A.length f0, .slice e1 B.length f1, .slice e2 C.length f2], .int .i64 mm, .bool ok]) rfl (by kernel_rfl) (by kernel_rfl) (by kernel_rfl) (fun _ _ _ h => h) (Or.inl ⟨by rfl, fun w' hSw => by clear hSw; go_simp⟩) hHeld ?_
        simp only [Act.put, List.setIfInBounds_toArray, List.set_cons_zero, List.set_cons_succ]
        refine wpAnyH_take (i := 6) (oi := ⟨some 115, _, _, _, _, none⟩) (v := .agg #[.slice e0 A.length f0, .slice e1 B.length f1, .slice e2 C.length f2]) rfl (by kernel_rfl) (by kernel_rfl) (by kernel_rfl) (fun _ _ _ h => h) (Or.inl ⟨by rfl, fun w' hSw => by clear hSw; go_simp⟩) hHeld ?_
        simp only [Act.put, List.setIfInBounds_toArray, List.set_cons_zero, List.set_cons_succ]
        refine wpAnyH_take (i := 7) (oi := ⟨some 116, _, _, _, _, none⟩) (v := .int .i64 mm) rfl (by kernel_rfl) (by kernel_rfl) (by kernel_rfl) (fun _ _ _ h => h) (Or.inl ⟨by rfl, fun w' hSw => by clear hSw; go_simp⟩) hHeld ?_
        simp only [Act.put, List.setIfInBounds_toArray, List.set_cons_zero, List.set_cons_succ]
        refine wpAnyH_take (i := 8) (oi := ⟨some 117, _, _, _, _, none⟩) (v := .bool ok) rfl (by kernel_rfl) (by kernel_rfl) (by kernel_rfl) (fun _ _ _ h => h) (Or.inl ⟨by rfl, fun w' hSw => by clear hSw; go_simp⟩) hHeld ?_
        simp only [Act.put, List.setIfInBounds_toArray, List.set_cons_zero, List.set_cons_succ]
        have c0 := VF.out.c0
        have c1 := VF.out.c1
        have c2 := VF.out.c2
        have f0' := VF.out.f 0
        have f1' := VF.out.f 1
        have f2' := VF.out.f 2
        refine wpAnyH_ready (rs := [10]) (by kernel_rfl) (by simp) ?_
        refine AllReadyH.cons (o := ⟨none, _, _, _, _, none⟩) rfl (fun K hK => ?_) AllReadyH.nil
        go_simp
        refine hK.out _ _ (((hHeld.setCell (p := ⟨_, 0, none⟩) VF.out.lo _).setCell (p := ⟨_, 1, none⟩) VF.out.lo _).setCell (p := ⟨_, 2, none⟩) VF.out.lo _) (fun hHeld' => ?_)
        have PP := hide (VF.out.put (.slice e0 A.length f0) (.slice e1 B.length f1) (.slice e2 C.length f2))
        have HVs := hide (HVn.out.put3 HND.out (.slice e0 A.length f0) (.slice e1 B.length f1) (.slice e2 C.length f2))
        clear hK K c0 c1 c2 f0' f1' f2' hHeld
        have hHeld := hHeld'
        clear hHeld'
        refine wpAnyH_take (i := 11) (oi := ⟨some 18, _, _, _, _, none⟩) (v := .int .i64 mm) rfl (by kernel_rfl) (by kernel_rfl) (by kernel_rfl) (fun _ _ _ h => h) (Or.inl ⟨by rfl, fun w' hSw => by clear hSw; go_simp⟩) hHeld ?_
        simp only [Act.put, List.setIfInBounds_toArray, List.set_cons_zero, List.set_cons_succ]
        refine wpAnyH_take (i := 12) (oi := ⟨some 19, _, _, _, _, none⟩) (v := .bool ok) rfl (by kernel_rfl) (by kernel_rfl) (by kernel_rfl) (fun _ _ _ h => h) (Or.inl ⟨by rfl, fun w' hSw => by clear hSw; go_simp⟩) hHeld ?_
        simp only [Act.put, List.setIfInBounds_toArray, List.set_cons_zero, List.set_cons_succ]
        refine wpAnyH_done (by kernel_rfl) ?_ _
        refine NoPanic.normal ?_
        have HBc := hide hHeld
        clear hHeld VF
        go_wp2_with fail
        go_meet
        case rel => exact ⟨_, _, _, _, rfl, rfl, rfl, PP, HVs, HBc⟩
    case rest =>
      obtain ⟨D', v0, v1, v2, rfl, rfl, rfl, PD, HVc, HBc⟩ := hcut
      obtain ⟨a0, b0, a1, b1, a2, b2, rfl, rfl, rfl⟩ := HVc.out.form
      have HL19 := hide (HLm.out.below HBc.out)
      have HX19 := hide (HXm.out.below HBc.out)
      have HH19 := hide (HHm.out.below HBc.out)
      clear HLm HXm HHm HBc
      obtain ⟨y0, y1, y2, _⟩ := HL19.out.v
      obtain ⟨t0, t1, t2, _⟩ := PD.out
      go_wp2_with fail
      refine (eqHV (by omega) (by omega) (by omega) HVc.out HL19.out.V).mono ?_
      rintro _ w20 ⟨rfl, hb20⟩
      have HL20 := hide (HL19.out.below hb20)
      have HX20 := hide (HX19.out.below hb20)
      have HH20 := hide (HH19.out.below hb20)
      clear hb20 HL19 HX19 HH19 HVc PD y0 y1 y2 t0 t1 t2
      obtain ⟨s0, s1, s2, _⟩ := HX20.out
      go_wp2_with fail
      refine (heldHV (by omega) (by omega) (by omega) (by omega) (by omega) HH20.out).mono ?_
      rintro _ w21 ⟨rfl, hb21⟩
      have HB21 := hide (HL20.out.below hb21).b
      clear hb21 HL20 HX20 HH20 s0 s1 s2
      go_wp2_with fail
      go_ret
      exact ⟨rfl, HB21.out⟩
theorem rn_both {gs : List Gd} {ls : List (Int × Int)} {ws cs os : List Int} (h : gs.length ≤ 1048576) (h' : ls.length ≤ 1048576) (hw : ws.length ≤ 1048576) (hq : os.length ≤ 1048576) : ∃ (ok : Bool) (mm : Int) (A B C : List Int), A.length ≤ 1000 ∧ B.length ≤ 1000 ∧ C.length ≤ 1000 ∧ RnAns 14 gs.length ls.length ws.length cs.length os.length mm ok gs ls ws cs os A B C ∧ RnAns 15 gs.length ls.length ws.length cs.length os.length mm ok gs ls ws cs os A B C := by
  obtain ⟨r, ok, R1, R2, e1, e0, e2, _, _, f1, f2⟩ := sp_both17 h h'
  cases hb : rnB ok R1 ws cs os gs.length
  · refine ⟨false, 0, [], [], [], by simp, by simp, by simp, fun W X Y a b o c d e hsh t q1 q2 q3 => ?_, fun W X Y a b o c d e hsh t q1 q2 q3 => ?_⟩
    · exact (srn_no (hide f1) (hide e1) e0 (hide hsh) (hide t) (hide e2) (hide rfl) hw (hide rfl) (hide rfl) hq (hide q1) (hide q2) (hide q3) (hide hb)).mono fun e w' ⟨he, hb⟩ => ⟨_, _, _, he, hb, HV.nil3 _ _⟩
    · exact (rn_no (hide f2) (hide e1) (hide hsh) (hide t) (hide e2) (hide rfl) (hide rfl) (hide rfl) hq (hide q1) (hide q2) (hide q3) (hide hb)).mono fun e w' ⟨he, hb⟩ => ⟨_, _, _, he, hb, HV.nil3 _ _⟩
  · have hb' := hb
    unfold rnB at hb'
    rw [Bool.and_eq_true, Bool.and_eq_true] at hb'
    obtain ⟨_, _, hl, hl10, _⟩ := Hs.hf_yes hb'.2.2
    refine ⟨true, ((Hs.unl os (Hs.ownL R1 (Hs.hfC R1 ws) ws) ws.length : Nat) : Int), ws, Hs.hfC R1 ws, Hs.ownL R1 (Hs.hfC R1 ws) ws, by omega, by rw [Hs.hfC_len]; omega, by rw [Hs.ownL_len]; omega, fun W X Y a b o c d e hsh t q1 q2 q3 => ?_, fun W X Y a b o c d e hsh t q1 q2 q3 => ?_⟩
    · exact srn_yes (hide f1) e0 (hide hsh) (hide t) (hide e2) (hide rfl) hw (hide rfl) (hide rfl) hq (hide q1) (hide q2) (hide q3) (hide hb)
    · exact rn_yes (hide f2) (hide hsh) (hide t) (hide e2) (hide rfl) (hide rfl) (hide rfl) hq (hide q1) (hide q2) (hide q3) (hide hb)
theorem lRn17_walk {a a' : Option Addr} {n c n' c' : Nat} {gs : List Gd} {ls : List (Int × Int)} {ha hb ho : Option Addr} {hc hd he : Nat} {ws cs os : List Int} {w : World} (HN : Hid (gs.length = n)) (HM : Hid (n ≤ maxLen)) (HF : Hid (Fits gs)) (HA : Hid (GRow w a gs)) (HN' : Hid (ls.length = n')) (HM' : Hid (n' ≤ maxLen)) (HA' : Hid (LRow w a' ls))
    (hl : ws.length ≤ maxLen ∧ cs.length ≤ maxLen ∧ os.length ≤ maxLen) (h1 : ARow w ha ws) (h2 : ARow w hb cs) (h3 : ARow w ho os) :
    Calls Tryz.prog 4 #[.agg #[.slice a n c, .slice a' n' c'], .agg #[.slice ha ws.length hc, .slice hb cs.length hd, .slice ho os.length he]] w fun e w' => e = .returned (.bool true) ∧ Below w.heap.size w w' := by
  have e1 := HN.out
  have e2 := HN'.out
  subst e1 e2
  by_cases h : gs.length ≤ 1048576 ∧ ls.length ≤ 1048576 ∧ ws.length ≤ 1048576 ∧ os.length ≤ 1048576
  · obtain ⟨ok, mm, A, B, C, l1, l2, l3, f1, f2⟩ := rn_both h.1 h.2.1 h.2.2.1 h.2.2.2 (cs := cs)
    exact lRn17_main HN HM HF HA HN' HM' HA' (hide rfl) (hide rfl) (hide rfl) hl (hide h1) (hide h2) (hide h3) l1 l2 l3 (hide fun _ _ _ _ => f1) (hide fun _ _ _ _ => f2)
  · exact lRn17_main (A := []) (B := []) (C := []) (ok := false) (mm := 0) HN HM HF HA HN' HM' HA' (hide rfl) (hide rfl) (hide rfl) hl (hide h1) (hide h2) (hide h3) (by simp) (by simp) (by simp) (hide fun g1 g2 g3 g4 => absurd ⟨g1, g2, g3, g4⟩ h) (hide fun g1 g2 g3 g4 => absurd ⟨g1, g2, g3, g4⟩ h)
end Go.Proofs.YtlbagigghpiifabGreat
