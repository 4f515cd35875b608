/-
  What TravelOf of the model answers where all is as said; both in one word each.
-/
import Derived.Test.YtlbagigghpiifaaHl17
import Derived.Deep.AppendLies
import Derived.Deep.DeepCutAuto
import Derived.Deep.RegionHeld3
namespace Go.Proofs.Ytlbagigghpiifaa
open Go.RowKit

theorem take_far17 (L : List (Int × Int)) {k : Nat} (hk : k < L.length) {x y : Int} (h : L.getD k (0, 0) = (x, y)) : fcells (L.take k) ++ [.int .i64 x, .int .i64 y] = fcells (L.take (k + 1)) := by
  rw [List.take_add_one, show L[k]?.toList = [(x, y)] by rw [← h]; simp [hk], fcells_snoc]
set_option maxHeartbeats 4000000 in
theorem str_go {p b a o : Option Addr} {n m c d e f : Nat} {ps cs ws os : List Int} {w : World} (HR : Hid (ps.length = m)) (HM : Hid (cs.length = m)) (HN : Hid (ws.length = n)) (HQ : Hid (os.length = n)) (HPr : Hid (ARow w p ps)) (HB : Hid (ARow w b cs)) (HA : Hid (ARow w a ws)) (HOr : Hid (ARow w o os)) (HD : Hid (Hs.trB ps cs ws os = true)) :
    Calls Try.prog 14 #[.slice p m f, .slice b m d, .slice a n c, .slice o n e] w fun e w' => e = .returned (fb (Fr.sumN (Hs.farL ps cs ws os), Fr.sumD (Hs.farL ps cs ws os)) (Fr.sumB (Hs.farL ps cs ws os))) ∧ Below w.heap.size w w' := by
  obtain ⟨i0, hi, hz0, hz1, hz2⟩ := info_parts infF
  obtain ⟨_, _, n10, m8, t1, t2, t3, t4⟩ := Hs.tr_yes HM.out HN.out HD.out
  have HP := hide t1
  have HC := hide t2
  have HW := hide t3
  have HO := hide t4
  have hd := HD.out
  rw [Hs.trB, Bool.and_eq_true] at hd
  obtain ⟨f1, f2, f3⟩ := Hs.day_yes hd.1
  have H1 := hide hd.1
  have H3 := hide hd.2
  have m1 : 1 ≤ m := (cnt_few HM (Hs.slotsB_yes f3).1).1
  have n1 : 1 ≤ n := by
    have h1 := (Hs.slotsB_yes f3).2.1
    have h2 := Hs.cntB_at (Hs.slotsB_yes f3).1 (i := 0) (by rw [HM.out]; omega)
    have h3 := (Pf.sum_bd (Hs.cntB_yes (Hs.slotsB_yes f3).1).2.2.1).1
    have := HN.out
    have := HM.out
    omega
  have hb0 := below_new w (.cells #[.int .i64 0, .int .i64 0] 30)
  have HA1 := hide (HA.out.below hb0)
  have HB1 := hide (HB.out.below hb0)
  have HP1 := hide (HPr.out.below hb0)
  have HO1 := hide (HOr.out.below hb0)
  have HL : Hid ((Hs.farL ps cs ws os).length = n) := hide ((Hs.farL_len ps cs ws os).trans HQ.out)
  have he : ((n : Int) != (n : Int)) = false := by simp
  clear hb0 hd f1 f2 f3 t1 t2 t3 t4
  go_enter Try.func14, Try.ntmps14
  go_wp2_with fail
  refine (sall17_eq HR HM HN (by omega) HP1 HB1 HA1 H1).mono ?_
  rintro _ w1 ⟨rfl, hw⟩
  subst hw
  go_wp2_with fail
  refine (sfit_eq HM m1 m8 HQ (by omega) HB1 HO1 H3).mono ?_
  rintro _ w2 ⟨rfl, hb2⟩
  have HB2 := hide hb2
  have hz0w : w.heap.size + 1 ≤ w2.heap.size := by have := hb2.size; simpa using this
  clear hb2 HA1 HB1 HP1 HO1
  go_wp2_with fail
  go_loopw [10, 11, 12, 34] (fun s10 _ _ s wr => ∃ (k : Nat) (V : Value), s10 = V ∧ s = .int .i64 k ∧ k ≤ n ∧ Hid (wr.ownsRow (w.heap.size + 1) 30 2 V k (fcells ((Hs.farL ps cs ws os).take k))) ∧ Hid (Below (w.alloc (.cells #[.int .i64 0, .int .i64 0] 30)).heap.size (w.alloc (.cells #[.int .i64 0, .int .i64 0] 30)) wr)) (fun _ _ _ s _ => n - (intOf s).toNat)
  case atStart => exact ⟨0, _, rfl, rfl, Nat.zero_le _, hide (World.ownsRow_nil _ _ _ _), HB2⟩
  case round =>
    clear HB2
    obtain ⟨k, V, hV, rfl, hk, HOW, HBX⟩ := hrel
    have hV' := hV.symm
    subst hV'
    have b0 := below_new w (.cells #[.int .i64 0, .int .i64 0] 30)
    have HBw := hide (b0.trans (HBX.out.mono b0.size))
    have hzr : w.heap.size + 1 ≤ wr.heap.size := by have := HBX.out.size; simpa using this
    clear b0
    by_cases hlt : k < n
    · have i0' : (0 : Int) ≤ (k : Int) := by omega
      have i1 : (k : Int) < (n : Int) := by omega
      obtain ⟨hx0, hx1⟩ := HO.out k hlt
      obtain ⟨hw0, hw1⟩ := HW.out k hlt
      obtain ⟨bo, oo, rfl, r1⟩ := (HOr.out.below HBw.out).at (i := k) (by rw [HQ.out]; exact hlt)
      obtain ⟨ba, oa, rfl, r2⟩ := (HA.out.below HBw.out).at (i := k) (by rw [HN.out]; exact hlt)
      have HLA := hide (Hs.farL_at ps cs ws os (s := k) (by rw [HQ.out]; exact hlt))
      generalize hxx : os.getD k 0 = x at *
      obtain ⟨j, rfl⟩ := Int.eq_ofNat_of_zero_le hx0
      have hjm : j < m := by omega
      rw [Int.toNat_natCast] at HLA
      obtain ⟨bp, op, rfl, r3⟩ := (HPr.out.below HBw.out).at (i := j) (by rw [HR.out]; exact hjm)
      obtain ⟨bb, ob, rfl, r4⟩ := (HB.out.below HBw.out).at (i := j) (by rw [HM.out]; exact hjm)
      obtain ⟨p0, p1⟩ := HP.out j hjm
      obtain ⟨c0, c1⟩ := HC.out j hjm
      have j0 : (0 : Int) ≤ (j : Int) := by omega
      have j1 : (j : Int) < (m : Int) := by omega
      generalize hY0 : ws.getD k 0 = y at *
      generalize hZ0 : ps.getD j 0 = z at *
      generalize hV0 : cs.getD j 0 = v at *
      have hyz0 : 0 ≤ y * z := Int.mul_nonneg (by omega) (by omega)
      have hyz1 : y * z ≤ 1000 * 30 := Int.mul_le_mul hw1 p1 (by omega) (by omega)
      have mi : IntKind.i64.wrap (y * z) = y * z := by rw [IntKind.wrap_i64]; omega
      have HCL := hide fun (W : World) => make_pos (y * z) v W (by omega) (by omega) (by omega) (by omega)
      have hml : Hid ((Hs.farL ps cs ws os).getD k (0, 0) = (Fr.mkN (y * z) v, Fr.mkD (y * z) v)) := hide HLA.out
      generalize Fr.mkN (y * z) v = X at *
      generalize Fr.mkD (y * z) v = Y at *
      have HRD : Hid (∀ W, Below (w.alloc (.cells #[.int .i64 0, .int .i64 0] 30)).heap.size (w.alloc (.cells #[.int .i64 0, .int .i64 0] 30)) W → W.cell? ⟨ba, oa + k, none⟩ = some (.int .i64 y) ∧ W.cell? ⟨bp, op + j, none⟩ = some (.int .i64 z) ∧ W.cell? ⟨bb, ob + j, none⟩ = some (.int .i64 v)) := hide fun W hb' => by
        have b0 := below_new w (.cells #[.int .i64 0, .int .i64 0] 30)
        have hb := b0.trans (hb'.mono b0.size)
        obtain ⟨_, _, e1, q1⟩ := (HA.out.below hb).at (i := k) (by rw [HN.out]; exact hlt)
        cases e1
        obtain ⟨_, _, e2, q2⟩ := (HPr.out.below hb).at (i := j) (by rw [HR.out]; exact hjm)
        cases e2
        obtain ⟨_, _, e3, q3⟩ := (HB.out.below hb).at (i := j) (by rw [HM.out]; exact hjm)
        cases e3
        rw [hY0] at q1
        rw [hZ0] at q2
        rw [hV0] at q3
        exact ⟨q1, q2, q3⟩
      clear r2 r3 r4 HLA hyz0 hyz1 hxx hY0 hZ0 hV0
      go_upto_region 7 with fail
      refine wp_region_noPanic ?_
      refine wp_region_held_drew (S := fun w' => Below (w.alloc (.cells #[.int .i64 0, .int .i64 0] 30)).heap.size (w.alloc (.cells #[.int .i64 0, .int .i64 0] 30)) w') (by kernel_rfl) HBX.out.drew (fun hHeld => ?_)
      refine wpAnyH_take (i := 0) (oi := ⟨some 39, _, _, _, _, none⟩) (v := V) rfl (by kernel_rfl) (by kernel_rfl) (by kernel_rfl) (fun _ _ _ h => h) (Or.inl ⟨by rfl, fun w' hSw => by clear hSw; go_simp⟩) hHeld ?_
      simp only [Act.put, List.setIfInBounds_toArray, List.set_cons_zero, List.set_cons_succ]
      refine wpAnyH_take (i := 1) (oi := ⟨some 40, _, _, _, _, none⟩) (v := .slice (some ⟨ba, oa, none⟩) n c) rfl (by kernel_rfl) (by kernel_rfl) (by kernel_rfl) (fun _ _ _ h => h) (Or.inl ⟨by rfl, fun w' hSw => by clear hSw; go_simp⟩) hHeld ?_
      simp only [Act.put, List.setIfInBounds_toArray, List.set_cons_zero, List.set_cons_succ]
      refine wpAnyH_take (i := 2) (oi := ⟨some 41, _, _, _, _, none⟩) (v := .int .i64 (k : Int)) rfl (by kernel_rfl) (by kernel_rfl) (by kernel_rfl) (fun _ _ _ h => h) (Or.inl ⟨by rfl, fun w' hSw => by clear hSw; go_simp⟩) hHeld ?_
      simp only [Act.put, List.setIfInBounds_toArray, List.set_cons_zero, List.set_cons_succ]
      refine wpAnyH_take (i := 3) (oi := ⟨some 42, _, _, _, _, none⟩) (v := .pointer (some ⟨ba, oa + k, none⟩)) rfl (by kernel_rfl) (by kernel_rfl) (by kernel_rfl) (fun _ _ _ h => h) (Or.inl ⟨by rfl, fun w' hSw => by clear hSw; go_simp⟩) hHeld ?_
      simp only [Act.put, List.setIfInBounds_toArray, List.set_cons_zero, List.set_cons_succ]
      refine wpAnyH_take (i := 4) (oi := ⟨some 43, _, _, _, _, none⟩) (v := .int .i64 y) rfl (by kernel_rfl) (by kernel_rfl) (by kernel_rfl) (fun _ _ _ h => h) (Or.inl ⟨by rfl, fun w' hSw => by obtain ⟨q1, q2, q3⟩ := HRD.out _ hSw; clear hSw; go_simp⟩) hHeld ?_
      simp only [Act.put, List.setIfInBounds_toArray, List.set_cons_zero, List.set_cons_succ]
      refine wpAnyH_take (i := 5) (oi := ⟨some 44, _, _, _, _, none⟩) (v := .slice (some ⟨bp, op, none⟩) m f) rfl (by kernel_rfl) (by kernel_rfl) (by kernel_rfl) (fun _ _ _ h => h) (Or.inl ⟨by rfl, fun w' hSw => by clear hSw; go_simp⟩) hHeld ?_
      simp only [Act.put, List.setIfInBounds_toArray, List.set_cons_zero, List.set_cons_succ]
      refine wpAnyH_take (i := 6) (oi := ⟨some 45, _, _, _, _, none⟩) (v := .int .i64 (j : Int)) rfl (by kernel_rfl) (by kernel_rfl) (by kernel_rfl) (fun _ _ _ h => h) (Or.inl ⟨by rfl, fun w' hSw => by clear hSw; go_simp⟩) hHeld ?_
      simp only [Act.put, List.setIfInBounds_toArray, List.set_cons_zero, List.set_cons_succ]
      refine wpAnyH_take (i := 7) (oi := ⟨some 46, _, _, _, _, none⟩) (v := .pointer (some ⟨bp, op + j, none⟩)) rfl (by kernel_rfl) (by kernel_rfl) (by kernel_rfl) (fun _ _ _ h => h) (Or.inl ⟨by rfl, fun w' hSw => by clear hSw; go_simp⟩) hHeld ?_
      simp only [Act.put, List.setIfInBounds_toArray, List.set_cons_zero, List.set_cons_succ]
      refine wpAnyH_take (i := 8) (oi := ⟨some 47, _, _, _, _, none⟩) (v := .int .i64 z) rfl (by kernel_rfl) (by kernel_rfl) (by kernel_rfl) (fun _ _ _ h => h) (Or.inl ⟨by rfl, fun w' hSw => by obtain ⟨q1, q2, q3⟩ := HRD.out _ hSw; clear hSw; go_simp⟩) hHeld ?_
      simp only [Act.put, List.setIfInBounds_toArray, List.set_cons_zero, List.set_cons_succ]
      refine wpAnyH_take (i := 9) (oi := ⟨some 48, _, _, _, _, none⟩) (v := .int .i64 (y * z)) rfl (by kernel_rfl) (by kernel_rfl) (by kernel_rfl) (fun _ _ _ h => h) (Or.inl ⟨by rfl, fun w' hSw => by clear hSw; go_simp⟩) hHeld ?_
      simp only [Act.put, List.setIfInBounds_toArray, List.set_cons_zero, List.set_cons_succ]
      refine wpAnyH_take (i := 10) (oi := ⟨some 49, _, _, _, _, none⟩) (v := .slice (some ⟨bb, ob, none⟩) m d) rfl (by kernel_rfl) (by kernel_rfl) (by kernel_rfl) (fun _ _ _ h => h) (Or.inl ⟨by rfl, fun w' hSw => by clear hSw; go_simp⟩) hHeld ?_
      simp only [Act.put, List.setIfInBounds_toArray, List.set_cons_zero, List.set_cons_succ]
      refine wpAnyH_take (i := 11) (oi := ⟨some 50, _, _, _, _, none⟩) (v := .int .i64 (j : Int)) rfl (by kernel_rfl) (by kernel_rfl) (by kernel_rfl) (fun _ _ _ h => h) (Or.inl ⟨by rfl, fun w' hSw => by clear hSw; go_simp⟩) hHeld ?_
      simp only [Act.put, List.setIfInBounds_toArray, List.set_cons_zero, List.set_cons_succ]
      refine wpAnyH_take (i := 12) (oi := ⟨some 51, _, _, _, _, none⟩) (v := .pointer (some ⟨bb, ob + j, none⟩)) rfl (by kernel_rfl) (by kernel_rfl) (by kernel_rfl) (fun _ _ _ h => h) (Or.inl ⟨by rfl, fun w' hSw => by clear hSw; go_simp⟩) hHeld ?_
      simp only [Act.put, List.setIfInBounds_toArray, List.set_cons_zero, List.set_cons_succ]
      refine wpAnyH_take (i := 13) (oi := ⟨some 52, _, _, _, _, none⟩) (v := .int .i64 v) rfl (by kernel_rfl) (by kernel_rfl) (by kernel_rfl) (fun _ _ _ h => h) (Or.inl ⟨by rfl, fun w' hSw => by obtain ⟨q1, q2, q3⟩ := HRD.out _ hSw; clear hSw; go_simp⟩) hHeld ?_
      simp only [Act.put, List.setIfInBounds_toArray, List.set_cons_zero, List.set_cons_succ]
      refine wpAnyH_ready (rs := [14]) (by kernel_rfl) (by simp) ?_
      refine AllReadyH.cons (o := ⟨some 53, _, _, _, _, none⟩) rfl (fun K hK => ?_) AllReadyH.nil
      go_simp
      refine (HCL.out _).mono ?_
      rintro _ w5 ⟨rfl, hb5⟩
      have OA := own_below HOW.out (((Below.refl wr.heap.size wr).drew).trans hb5)
      have hz5 := (((Below.refl wr.heap.size wr).drew).trans hb5).size
      refine hK.out _ _ (hHeld.trans (hb5.mono hHeld.size)) (fun hHeld2 => ?_)
      clear hK K hb5 hHeld
      refine wpAnyH_ready (rs := [15]) (by kernel_rfl) (by simp) ?_
      refine AllReadyH.cons (o := ⟨some 54, _, _, _, _, none⟩) rfl (fun K hK => ?_) AllReadyH.nil
      go_simp
      refine hK.out _ _ (hHeld2.trans ((below_new _ _).mono hHeld2.size)) (fun hHeld3 => ?_)
      clear hK K
      refine wpAnyH_ready (rs := [16]) (by kernel_rfl) (by simp) ?_
      refine AllReadyH.cons (o := ⟨some 55, _, _, _, _, none⟩) rfl (fun K hK => ?_) AllReadyH.nil
      refine step_append_lies _ (by rfl) _ _ _ (by rfl) (w.heap.size + 1) 30 i0 _ 2 16 Try.underlying53 hi hz0 hz1 hz2 rfl (by omega) V k (fcells ((Hs.farL ps cs ws os).take k)) (by rfl) (OA.alloc _) ⟨w5.heap.size, 0, none⟩ 1 1 [.int .i64 X, .int .i64 Y] (by rfl) (by rfl) (new_frac w5 (X, Y) _ rfl) (frac_cells (X, Y)) (by omega) (by unfold maxLen; omega) (by omega) (by simp; omega) (w5.heap.size + 1) (by simp) ?_
      intro gg cap1 w6 hown' hgrow hat hlt'
      have hS6 := hHeld2.trans (own_grow (B := (w.alloc (.cells #[.int .i64 0, .int .i64 0] 30)).heap.size) OA hgrow (by simp) (by simp; omega))
      rw [take_far17 _ (by rw [HL.out]; exact hlt) hml.out] at hown'
      have HOW6 := hide hown'
      refine hK.out _ _ hS6 (fun hHeld4 => ?_)
      clear hK K hHeld2 hHeld3 OA hgrow hat hlt' hown'
      refine wpAnyH_take (i := 17) (oi := ⟨some 10, _, _, _, _, none⟩) (v := .slice (some ⟨gg, 0, none⟩) (k + 1 : Nat) cap1) rfl (by kernel_rfl) (by kernel_rfl) (by kernel_rfl) (fun _ _ _ h => h) (Or.inl ⟨by rfl, fun w' hSw => by clear hSw; go_simp⟩) hHeld4 ?_
      simp only [Act.put, List.setIfInBounds_toArray, List.set_cons_zero, List.set_cons_succ]
      refine wpAnyH_done (by kernel_rfl) ?_ _
      refine NoPanic.normal ?_
      have HBX6 := hide hS6
      clear hHeld4 hS6
      go_wp2_with fail
      go_roundw
      case rel => exact ⟨k + 1, _, rfl, by go_num, by omega, HOW6, HBX6⟩
      case measure => simp only [intOf]; omega
    · have hke : k = n := by omega
      subst hke
      have ho := HOW.out
      rw [show (Hs.farL ps cs ws os).take k = Hs.farL ps cs ws os by rw [← HL.out, List.take_length]] at ho
      obtain ⟨g, cap, rfl, _, g1, row1⟩ := (frow_owns HL.out ho).resolve_left (fun h => by have := h.2; omega)
      have HROW := hide row1
      have hsum := hide (ssumF17 (cap := cap) HROW HL g1)
      generalize hp1 : Fr.sumN (Hs.farL ps cs ws os) = q1 at hsum
      generalize hp2 : Fr.sumD (Hs.farL ps cs ws os) = q2 at hsum
      generalize hp3 : Fr.sumB (Hs.farL ps cs ws os) = qb at hsum
      have HPQ := hide (And.intro hp1 (And.intro hp2 hp3))
      rw [fb_eq] at hsum
      clear ho row1 HOW hp1 hp2 hp3
      go_wp2_with fail
      refine hsum.out.mono ?_
      rintro _ w5 ⟨rfl, hb5⟩
      have hb6 := HBX.out.trans (hb5.mono HBX.out.size)
      obtain ⟨c0, c1, g0, g1'⟩ := res_new' hb6
      clear hb5
      go_wp2_with fail
      exact bodyPost_ret (v := fb (q1, q2) qb) (by simp [results, Try.results14, go_sem, c0, c1, fb]) rfl ⟨by rw [HPQ.out.1, HPQ.out.2.1, HPQ.out.2.2], sres17 hb6 _ _⟩
theorem str_any {p b a o : Option Addr} {n m r q c d e f : Nat} {ps cs ws os : List Int} {w : World} (HR : Hid (ps.length = r)) (HM : Hid (cs.length = m)) (HN : Hid (ws.length = n)) (hn : n ≤ 1048576) (HQ : Hid (os.length = q)) (hq : q ≤ 1048576) (HP : Hid (ARow w p ps)) (HB : Hid (ARow w b cs)) (HA : Hid (ARow w a ws)) (HO : Hid (ARow w o os)) :
    Calls Try.prog 14 #[.slice p r f, .slice b m d, .slice a n c, .slice o q e] w fun e w' => e = .returned (fb (Hs.trF ps cs ws os) (Hs.trG ps cs ws os)) ∧ Below w.heap.size w w' := by
  unfold Hs.trF Hs.trG
  cases h : Hs.trB ps cs ws os
  · exact str_no HR HM HN hn HQ hq HP HB HA HO (hide h)
  · obtain ⟨h1, h2, _⟩ := Hs.tr_yes HM.out HN.out h
    obtain rfl : r = m := HR.out.symm.trans h1
    obtain rfl : q = n := HQ.out.symm.trans h2
    exact str_go HR HM HN HQ HP HB HA HO (hide h)
end Go.Proofs.Ytlbagigghpiifaa
