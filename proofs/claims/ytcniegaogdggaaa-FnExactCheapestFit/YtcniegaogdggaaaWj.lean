/-
  What goTo answers, walked.
-/
import Derived.Test.YtcniegaogdggaaaWi
import Derived.Deep.RegionLaw
namespace Go.Proofs.Ytcniegaogdggaaa
open Go.RowKit

theorem cast_erase : ∀ (l : List Nat) (p : Nat), (Hu.cast l).eraseIdx p = Hu.cast (l.eraseIdx p)
  | [], p => by simp [Hu.cast]
  | x :: l, 0 => by simp [Hu.cast]
  | x :: l, p + 1 => by
    have := cast_erase l p
    simp only [Hu.cast, List.map_cons, List.eraseIdx_cons_succ] at this ⊢
    rw [this]
set_option maxRecDepth 20000 in
set_option maxHeartbeats 8000000 in
theorem go9_any {base b g2 c2 M p : Nat} {v0 v1 : Value} {ls gn : List Int} {lf : List Nat} {xs ys : List Int} {w : World} (hM : lf.length = M + 1) (hp : p ≤ M) (hd : lf.Nodup) (h10 : ∀ x ∈ lf, x < 10) (hxb : ∀ x ∈ lf, 0 ≤ xs.getD x 0 ∧ xs.getD x 0 ≤ 10000000000000) (hb : base ≤ w.heap.size) (hgl : gn.length ≤ 100) (h : Sr w base b v0 v1 (.slice (some ⟨g2, 0, none⟩) (M + 1) c2) ls gn (Hu.cast lf) xs ys) :
    Calls Try.prog 68 #[.pointer (some ⟨b, 0, none⟩), .int .i64 ((lf.getD p 0 : Nat) : Int)] w fun e w' => e = .returned (.tuple #[]) ∧ (∃ v1', Sr w' base b v0 v1' (.slice (some ⟨g2, 0, none⟩) M c2) ls (gn ++ [((lf.getD p 0 : Nat) : Int)]) (Hu.cast (lf.eraseIdx p)) (Hu.decX lf xs (xs.getD (lf.getD p 0) 0)) ys) ∧ Below base w w' := by
  have hpl : p < lf.length := by omega
  have hd10 := h10 _ (getD_mem9 lf hpl)
  have hyb := hxb _ (getD_mem9 lf hpl)
  have hbl := h.sv.lt
  have hg2l := (h.o2.lt g2 rfl).2
  have HV1 := hide (ne_of_lt_opt h.o1 (Nat.le_refl _))
  have HIDX : Hid (∀ j, j < M + 1 → j ≠ p → (Hu.cast lf).getD j 0 ≠ ((lf.getD p 0 : Nat) : Int)) := hide fun j hj hne e => by
    rw [Hu.cast_get lf (by omega)] at e
    have e' : lf.getD j 0 = lf.getD p 0 := by omega
    rw [List.getD_eq_getElem?_getD, List.getD_eq_getElem?_getD, List.getElem?_eq_getElem (show j < lf.length by omega), List.getElem?_eq_getElem hpl] at e'
    simp only [Option.getD_some] at e'
    rcases Nat.lt_or_gt_of_ne hne with hl | hl
    · exact List.pairwise_iff_getElem.1 hd j p (by omega) hpl hl e'
    · exact List.pairwise_iff_getElem.1 hd p j hpl (by omega) hl e'.symm
  have HCD : Hid ((Hu.cast lf).getD p 0 = ((lf.getD p 0 : Nat) : Int)) := hide (Hu.cast_get lf hpl)
  have HER : Hid ((Hu.cast lf).eraseIdx p = Hu.cast (lf.eraseIdx p)) := hide (cast_erase lf p)
  have HEL : Hid ((Hu.cast (lf.eraseIdx p)).length = M) := hide (by rw [Hu.cast_len, List.length_eraseIdx_of_lt hpl]; omega)
  have hM10 : M + 1 ≤ 10 := by
    have := hd.length_le_of_subset (l₂ := List.range 10) (fun x hx => List.mem_range.2 (h10 x hx))
    simp at this; omega
  obtain ⟨D, hD⟩ : ∃ D, D = lf.getD p 0 := ⟨_, rfl⟩
  rw [← hD] at hd10 hyb HIDX HCD ⊢
  have HDe := hide hD
  obtain ⟨Y, hY⟩ : ∃ Y, Y = xs.getD D 0 := ⟨_, rfl⟩
  have bn := below_new w (.cells #[.int .i64 (D : Int)] 3)
  have h1 := h.below bn
  have cq : (w.alloc (.cells #[.int .i64 (D : Int)] 3)).cell? ⟨w.heap.size, 0, none⟩ = some (.int .i64 (D : Int)) := by simp
  have hs1 : (w.alloc (.cells #[.int .i64 (D : Int)] 3)).heap.size = w.heap.size + 1 := World.size_alloc _ _
  obtain ⟨W1, hW1⟩ : ∃ W1, W1 = w.alloc (.cells #[.int .i64 (D : Int)] 3) := ⟨_, rfl⟩
  rw [← hW1] at bn h1 cq hs1
  have HW1 := hide hW1.symm
  have cx := h1.sv.x hd10
  rw [← hY] at cx hyb ⊢
  have HS1 := hide h1
  have HBW := hide (bn.mono hb)
  have c2' := h1.sv.c2
  have HD := hide hd
  have H10 := hide h10
  have HXB := hide hxb
  have HM := hide hM
  have HBB := hide h.bb
  have HX0 := hide (decX_nil (y := Y) h.sv.lx)
  obtain ⟨Q, hQ⟩ : ∃ Q, Q = w.heap.size := ⟨_, rfl⟩
  rw [← hQ] at cq hbl hg2l hs1 hb HV1
  have d0' : (0 : Int) ≤ (D : Int) := by omega
  have d1' : (D : Int) < 10 := by omega
  obtain ⟨N, hN⟩ : ∃ N, N = M + 1 := ⟨_, rfl⟩
  rw [← hN] at HM c2' HS1 HIDX hM10
  have HNe := hide hN
  have HQe := hide hQ
  clear h1 hW1 bn h hd h10 hxb hM hY hN hQ hD
  go_enter Try.func68, Try.ntmps68
  go_upto_region 1 with fail
  rw [HW1.out, ← HQe.out]
  clear HW1
  go_quiet (fail)
  go_wp2_with fail
  have HSd := hide (HS1.out.below (below_drewN (Below.refl _ W1) nq))
  have HBd := hide (below_drewN HBW.out nq)
  have cqd : (W1.drewN nq).cell? ⟨Q, 0, none⟩ = some (.int .i64 (D : Int)) := cq
  have hsd : (W1.drewN nq).heap.size = Q + 1 := hs1
  generalize W1.drewN nq = W2 at *
  have HQ2 := hide cqd
  have HZ2 : Hid (Q < W2.heap.size) := hide (by omega)
  clear HS1 HBW cx c2' cq hs1 cqd hsd
  go_loopw [6, 18] (fun _ s wr => ∃ (j : Nat), s = .int .i64 j ∧ j ≤ N ∧ Hid (Sr wr base b v0 v1 (.slice (some ⟨g2, 0, none⟩) N c2) ls gn (Hu.cast lf) (Hu.decX (lf.take j) xs Y) ys) ∧ Hid (wr.cell? ⟨Q, 0, none⟩ = some (.int .i64 (D : Int))) ∧ Hid (Q < wr.heap.size) ∧ Hid (Below base w wr)) (fun _ s _ => N - (intOf s).toNat)
  case atStart => exact ⟨0, rfl, Nat.zero_le _, hide (by rw [List.take_zero, HX0.out]; exact HSd.out), HQ2, HZ2, HBd⟩
  case round =>
    clear HSd HQ2 HZ2 HBd
    obtain ⟨j, rfl, hj, HS, HQc, HQz, HB⟩ := hrel
    by_cases hlt : j < N
    · have hjl : j < lf.length := by rw [HM.out]; exact hlt
      have hy10 := H10.out _ (getD_mem9 lf hjl)
      have hxq := HXB.out _ (getD_mem9 lf hjl)
      obtain ⟨b2, o2, e2, r2⟩ := (own_arow rfl HS.out.o2).at (i := j) (by rw [Hu.cast_len]; exact hjl)
      cases e2
      rw [Hu.cast_get lf hjl, Nat.zero_add] at r2
      have HAT := hide (decX_at (xs := xs) (y := Y) HD.out hjl hy10)
      have cx := HS.out.sv.x hy10
      have fx := HS.out.sv.fz (3 + lf.getD j 0) (by omega)
      rw [HAT.out] at cx
      have HSX := hide (decX_set (xs := xs) (y := Y) hjl)
      generalize lf.getD j 0 = q at *
      generalize xs.getD q 0 = x at *
      have i0 : (0 : Int) ≤ (j : Int) := by omega
      have i1 : (j : Int) < (N : Int) := by omega
      have q0 : (0 : Int) ≤ (q : Int) := by omega
      have q1 : (q : Int) < 10 := by omega
      have ww : IntKind.i64.wrap (x - Y) = x - Y := by rw [IntKind.wrap_i64]; omega
      have HS2 : Hid (∀ d, Sr ((wr.drewN d).setCell ⟨b, 3 + q, none⟩ (.int .i64 (x - Y))) base b v0 v1 (.slice (some ⟨g2, 0, none⟩) N c2) ls gn (Hu.cast lf) (Hu.decX (lf.take (j + 1)) xs Y) ys) := hide fun d => by
        have := (HS.out.below (below_drewN (Below.refl _ wr) d)).setx hy10 (x - Y)
        rwa [HSX.out] at this
      have HQ3 : Hid (∀ d, ((wr.drewN d).setCell ⟨b, 3 + q, none⟩ (.int .i64 (x - Y))).cell? ⟨Q, 0, none⟩ = some (.int .i64 (D : Int))) := hide fun d => (World.cell?_setCell_other _ _ _ _ (by intro e; simp at e)).trans HQc.out
      have HZ3 : Hid (∀ d, Q < ((wr.drewN d).setCell ⟨b, 3 + q, none⟩ (.int .i64 (x - Y))).heap.size) := hide fun d => by simpa using HQz.out
      have HB2 := hide fun d => (below_drewN HB.out d).setCell (p := ⟨b, 3 + q, none⟩) HBB.out (.int .i64 (x - Y))
      go_wp2_with fail
      go_region
      go_wp2_with fail
      exact ⟨⟨j + 1, by go_num, by omega, hide (HS2.out 1), hide (HQ3.out 1), hide (HZ3.out 1), hide (HB2.out 1)⟩, by simp only [intOf]; omega⟩
    · have hje : j = N := by omega
      subst hje
      have hS : Sr wr base b v0 v1 (.slice (some ⟨g2, 0, none⟩) j c2) ls gn (Hu.cast lf) (Hu.decX lf xs Y) ys := by
        have := HS.out
        rwa [List.take_of_length_le (by rw [HM.out]; omega)] at this
      have hS1 := hS.below ((Below.refl _ wr).drew)
      have hbs := HB.out.size
      have hQz := HQz.out
      obtain ⟨g3, cap3, w3, hr3, own3, hg3, hat3⟩ := push_9 (w := wr.drew) (t := 27) (x := .int .i64 (D : Int)) Try.underlying27 infoI rfl rfl (by decide) hS1.o1 (by omega) (by show base ≤ wr.heap.size; omega)
      obtain ⟨S4, A3, B4, hgb, hn2⟩ := hS1.push1 (by show base ≤ wr.heap.size; omega) own3 hg3 hat3
      have e1 := A3.c1
      have f1 := A3.fz 1 (by omega)
      have c1 := hS.sv.c1
      have cQ := HQc.out
      have ca1 : ∀ o, (wr.alloc o).cell? ⟨b, 1, none⟩ = some v1 := fun o => ((below_new wr o).cell (p := ⟨b, 1, none⟩) HS.out.sv.lt).trans c1
      have hq3 : w3.heap[Q]? = wr.heap[Q]? := (hg3.block Q (by rw [World.size_alloc]; show Q < wr.heap.size + 1; omega) (fun e => HV1.out e.symm)).trans ((below_new wr.drew _).block Q hQz)
      have cQ4 : (w3.setCell ⟨b, 1, none⟩ (.slice (some ⟨g3, 0, none⟩) (gn.length + 1) cap3)).cell? ⟨Q, 0, none⟩ = some (.int .i64 (D : Int)) := (World.cell?_setCell_other _ _ _ _ (by intro e; simp at e)).trans ((World.cell?_of_block (w := wr) (a := ⟨Q, 0, none⟩) hq3).trans cQ)
      have hz4 : Q < (w3.setCell ⟨b, 1, none⟩ (.slice (some ⟨g3, 0, none⟩) (gn.length + 1) cap3)).heap.size := by
        have h1 := hg3.size
        have h2 : (wr.drew.alloc (.cells #[.int .i64 (D : Int)] 3)).heap.size = wr.heap.size + 1 := World.size_alloc _ _
        rw [World.size_setCell]; omega
      obtain ⟨w4, hw4⟩ : ∃ w4, w4 = w3.setCell ⟨b, 1, none⟩ (.slice (some ⟨g3, 0, none⟩) (gn.length + 1) cap3) := ⟨_, rfl⟩
      rw [← hw4] at S4 B4 cQ4 hz4
      have hjM := HNe.out
      subst hjM
      have HDF := hide (df_any (d := (D : Int)) (by rw [Hu.cast_len]; exact HM.out) hp HCD.out HIDX.out (by omega) cQ4 (by omega) hz4 (show w4.ownsRow base 3 1 (.slice (some ⟨g2, 0, none⟩) (M + 1) c2) (M + 1) (ints (Hu.cast lf)) from by
        have := S4.o2
        rwa [Hu.cast_len, HM.out] at this))
      have HS4 := hide S4
      have c24 := S4.sv.c2
      have HB4 := hide (HB.out.drew.trans (B4.mono (Nat.le_refl _)))
      have HW4 := hide hw4.symm
      have HR3 := hide hr3
      clear S4 A3 B4 own3 hg3 hat3 hS hS1 hq3 hr3 hw4
      go_upto_region 7 with fail
      go_region_law ((refine step_append_run9 (by rfl) (.tmp 38) (.tmp 40) 27 27 (by rfl) v1 (.slice (some ⟨wr.heap.size, 0, none⟩) 1 1) (by simp [go_sem]) (by simp [go_sem]) (.slice (some ⟨g3, 0, none⟩) (gn.length + 1) cap3) w3 (HR3.out _) ?_))
      all_goals (
        rw [HW4.out]
        go_wp2_with fail
        refine HDF.out.mono ?_
        rintro e w5 ⟨rfl, own5, hg5⟩
        obtain ⟨S6, A5, B6⟩ := HS4.out.cut2 HEL.out (by rw [← HER.out]; exact own5) hg5
        have e2 := A5.c2
        have f2 := A5.fz 2 (by omega)
        have HS6 := hide S6
        have HB6 := hide (HB4.out.trans B6)
        clear own5 hg5 S6 A5 B6
        go_wp2_with fail
        go_end0
        exact ⟨rfl, ⟨_, HS6.out⟩, HB6.out⟩)
end Go.Proofs.Ytcniegaogdggaaa
