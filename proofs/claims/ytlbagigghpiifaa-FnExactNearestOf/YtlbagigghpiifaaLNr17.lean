/-
  At any house the function answers as the model does: the law's own walk.
-/
import Derived.Test.YtlbagigghpiifaaHq17
import Derived.Test.YtlbagigghpiifaaHn17
import Derived.Deep.DeepCutAuto
import Derived.Deep.RegionHeld3
namespace Go.Proofs.Ytlbagigghpiifaa
open Go.RowKit

set_option maxHeartbeats 1000000 in
theorem lNr17_long {a b o : Option Addr} {n m q c d e' : Nat} {k : Int} {w : World} (l1 : n ≤ maxLen) (l2 : m ≤ maxLen) (l3 : q ≤ maxLen) (h : 1048576 < n + m + q) :
    Calls Try.prog 7 #[.agg #[.slice a n c, .slice b m d, .slice o q e'], .int .i64 k] w fun e w' => e = .returned (.bool true) ∧ Below w.heap.size w w' := by
  have hb0 := below_new w (.cells #[.slice a n c, .slice b m d, .slice o q e'] 38)
  go_enter Try.func7, Try.ntmps7
  go_wp2_with fail
  refine (szH_no (by omega) (by omega) l1 l2 l3 (by omega)).mono ?_
  rintro _ w1 ⟨rfl, hb1⟩
  go_wp2_with fail
  go_ret
  exact ⟨rfl, hb0.trans (hb1.mono hb0.size)⟩
set_option maxRecDepth 100000 in
set_option maxHeartbeats 4000000 in
theorem lNr17_main {a b o : Option Addr} {n m q c d e' : Nat} {k : Int} {ws cs os : List Int} {w : World} (HN : Hid (ws.length = n)) (HM : Hid (cs.length = m)) (HQ : Hid (os.length = q)) (h : n + m + q ≤ 1048576) (HA : Hid (ARow w a ws)) (HB : Hid (ARow w b cs)) (HO : Hid (ARow w o os)) :
    Calls Try.prog 7 #[.agg #[.slice a n c, .slice b m d, .slice o q e'], .int .i64 k] w fun e w' => e = .returned (.bool true) ∧ Below w.heap.size w w' := by
  have hleft : ¬ (1048576 : Int) - (n : Int) - (m : Int) - (q : Int) < 0 := by omega
  have HSP := hide fun (W : World) (x y z : Nat) (r0 : ARow W (some ⟨x, 0, none⟩) ws) (r1 : ARow W (some ⟨y, 0, none⟩) cs) (r2 : ARow W (some ⟨z, 0, none⟩) os) => snr_any (k := k) (c := n) (d := m) (e := q) HN (by omega) HM HQ (by omega) (hide r0) (hide r1) (hide r2)
  have HIM := hide fun (W : World) (x y z : Nat) (r0 : ARow W (some ⟨x, 0, none⟩) ws) (r1 : ARow W (some ⟨y, 0, none⟩) cs) (r2 : ARow W (some ⟨z, 0, none⟩) os) => nr_any (k := k) (c := n) (d := m) (e := q) HN HM HQ (by omega) (hide r0) (hide r1) (hide r2)
  generalize Hs.nearI ws cs os k = X at HSP HIM
  generalize Hs.nearB ws cs os k = G at HSP HIM
  have hne : (G != G) = false := by simp
  have hnx : (X != X) = false := by simp
  have HB0 := hide (below_new w (.cells #[.slice a n c, .slice b m d, .slice o q e'] 38))
  have HX0 := hide (HBox.new w (.slice a n c) (.slice b m d) (.slice o q e') 38)
  go_enter Try.func7, Try.ntmps7
  go_wp2_with fail
  refine (szH_yes (by omega) (by omega) (by omega)).mono ?_
  rintro _ w1 ⟨rfl, hb1⟩
  have HB1 := hide (HB0.out.trans (hb1.mono HB0.out.size))
  have HX1 := hide (HX0.out.below hb1)
  obtain ⟨x0, x1, x2, _⟩ := HX1.out
  clear hb1 HB0 HX0
  go_wp2_with fail
  refine (toH_any HN HM HQ (by omega) (by omega) (by omega) (hide (HA.out.below HB1.out)) (hide (HB.out.below HB1.out)) (hide (HO.out.below HB1.out))).mono ?_
  rintro _ w2 ⟨x, y, z, rfl, hb2, _, o1, o2, o3⟩
  have HB2 := hide (HB1.out.trans (hb2.mono HB1.out.size))
  have HX2 := hide (HX1.out.below hb2)
  have r1 := arow_owns HN.out.symm o1
  have r2 := arow_owns HM.out.symm o2
  have r3 := arow_owns HQ.out.symm o3
  clear hb2 o1 o2 o3 x0 x1 x2 HB1 HX1
  go_wp2_with fail
  refine (HSP.out _ _ _ _ r1 r2 r3).mono ?_
  rintro _ w3 ⟨rfl, hb3⟩
  have HB3 := hide (HB2.out.trans (hb3.mono HB2.out.size))
  have HX3 := hide (HX2.out.below hb3)
  obtain ⟨x0, x1, x2, _⟩ := HX3.out
  clear hb3 r1 r2 r3 HB2 HX2
  go_wp2_with fail
  refine (toH_any HN HM HQ (by omega) (by omega) (by omega) (hide (HA.out.below HB3.out)) (hide (HB.out.below HB3.out)) (hide (HO.out.below HB3.out))).mono ?_
  rintro _ w4 ⟨x', y', z', rfl, hb4, _, o1, o2, o3⟩
  have bn := below_new w4 (.cells #[.slice (some ⟨x', 0, none⟩) n n, .slice (some ⟨y', 0, none⟩) m m, .slice (some ⟨z', 0, none⟩) q q] 41)
  have HB4 := hide ((HB3.out.trans (hb4.mono HB3.out.size)).trans (bn.mono (HB3.out.trans (hb4.mono HB3.out.size)).size))
  have HX4 := hide ((HX3.out.below hb4).below bn)
  have HY4 := hide (HBox.new w4 (.slice (some ⟨x', 0, none⟩) n n) (.slice (some ⟨y', 0, none⟩) m m) (.slice (some ⟨z', 0, none⟩) q q) 41)
  have R1 := hide ((arow_owns HN.out.symm o1).below bn)
  have R2 := hide ((arow_owns HM.out.symm o2).below bn)
  have R3 := hide ((arow_owns HQ.out.symm o3).below bn)
  clear hb4 bn o1 o2 o3 x0 x1 x2 HB3 HX3
  go_wp2_with fail
  generalize w4.alloc (.cells #[.slice (some ⟨x', 0, none⟩) n n, .slice (some ⟨y', 0, none⟩) m m, .slice (some ⟨z', 0, none⟩) q q] 41) = W4 at *
  generalize w4.heap.size = D at *
  refine (HIM.out _ _ _ _ R1.out R2.out R3.out).mono ?_
  rintro _ w5 ⟨rfl, hb5⟩
  have HB5 := hide (HB4.out.trans (hb5.mono HB4.out.size))
  have HX5 := hide (HX4.out.below hb5)
  have HY5 := hide (HY4.out.below hb5)
  have S1 := hide (R1.out.below hb5)
  have S2 := hide (R2.out.below hb5)
  have S3 := hide (R3.out.below hb5)
  clear hb5 HB4 HX4 HY4 R1 R2 R3
  go_upto_region 10 with fail
  refine wp_region_noPanic ?_
  refine wp_region_held_drew (S := fun w' => Below w5.heap.size w5 w') (by kernel_rfl) ((Below.refl _ _).drew) (fun hHeld => ?_)
  refine wpAnyH_take (i := 0) (oi := ⟨some 39, _, _, _, _, none⟩) (v := .agg #[.slice (some ⟨x', 0, none⟩) n n, .slice (some ⟨y', 0, none⟩) m m, .slice (some ⟨z', 0, none⟩) q q]) rfl (by kernel_rfl) (by kernel_rfl) (by kernel_rfl) (fun _ _ _ h => h) (Or.inl ⟨by rfl, fun w' hSw => by obtain ⟨x0, x1, x2, _⟩ := HY5.out.below hSw; clear hSw; go_simp⟩) hHeld ?_
  simp only [Act.put, List.setIfInBounds_toArray, List.set_cons_zero, List.set_cons_succ]
  refine wpAnyH_take (i := 1) (oi := ⟨some 40, _, _, _, _, none⟩) (v := .agg #[.slice a n c, .slice b m d, .slice o q e']) rfl (by kernel_rfl) (by kernel_rfl) (by kernel_rfl) (fun _ _ _ h => h) (Or.inl ⟨by rfl, fun w' hSw => by obtain ⟨x0, x1, x2, _⟩ := HX5.out.below hSw; clear hSw; go_simp⟩) hHeld ?_
  simp only [Act.put, List.setIfInBounds_toArray, List.set_cons_zero, List.set_cons_succ]
  refine wpAnyH_ready (rs := [2]) (by kernel_rfl) (by simp) ?_
  refine AllReadyH.cons (o := ⟨some 41, _, _, _, _, none⟩) rfl (fun K hK => ?_) AllReadyH.nil
  go_simp
  have hb6 := HB5.out.trans (hHeld.mono HB5.out.size)
  refine (toH_any HN HM HQ (by omega) (by omega) (by omega) (hide (HA.out.below hb6)) (hide (HB.out.below hb6)) (hide (HO.out.below hb6))).mono ?_
  rintro _ w6 ⟨x2, y2, z2, rfl, hb7, _, o1, o2, o3⟩
  refine hK.out _ _ (hHeld.trans (hb7.mono hHeld.size)) (fun hHeld => ?_)
  clear hK K hb7 hb6
  refine wpAnyH_ready (rs := [3]) (by kernel_rfl) (by simp) ?_
  refine AllReadyH.cons (o := ⟨some 42, _, _, _, _, none⟩) rfl (fun K hK => ?_) AllReadyH.nil
  go_simp
  refine (eqH_any HN HM HQ (by omega) (by omega) (by omega) (S1.out.below hHeld) (S2.out.below hHeld) (S3.out.below hHeld) (arow_owns HN.out.symm o1) (arow_owns HM.out.symm o2) (arow_owns HQ.out.symm o3)).mono ?_
  rintro _ w7 ⟨rfl, hb8⟩
  refine hK.out _ _ (hHeld.trans (hb8.mono hHeld.size)) (fun hHeld => ?_)
  clear hK K hb8
  refine wpAnyH_take (i := 4) (oi := ⟨some 43, _, _, _, _, none⟩) (v := .bool false) rfl (by kernel_rfl) (by kernel_rfl) (by kernel_rfl) (fun _ _ _ h => h) (Or.inl ⟨by rfl, fun w' hSw => by clear hSw; go_simp⟩) hHeld ?_
  simp only [Act.put, List.setIfInBounds_toArray, List.set_cons_zero, List.set_cons_succ]
  refine wpAnyH_done (by kernel_rfl) ?_ _
  refine NoPanic.normal ?_
  have HBE := hide (HB5.out.trans (hHeld.mono HB5.out.size))
  clear hHeld
  go_wp2_with fail
  go_ret
  exact ⟨rfl, HBE.out⟩
theorem lNr17_walk {a b o : Option Addr} {c d e' : Nat} {k : Int} {ws cs os : List Int} {w : World} (hl : ws.length ≤ maxLen ∧ cs.length ≤ maxLen ∧ os.length ≤ maxLen) (ha : ARow w a ws) (hb : ARow w b cs) (ho : ARow w o os) :
    Calls Try.prog 7 #[.agg #[.slice a ws.length c, .slice b cs.length d, .slice o os.length e'], .int .i64 k] w fun e w' => e = .returned (.bool true) ∧ Below w.heap.size w w' := by
  by_cases h : ws.length + cs.length + os.length ≤ 1048576
  · exact lNr17_main (hide rfl) (hide rfl) (hide rfl) h (hide ha) (hide hb) (hide ho)
  · exact lNr17_long hl.1 hl.2.1 hl.2.2 (by omega)
end Go.Proofs.Ytlbagigghpiifaa
