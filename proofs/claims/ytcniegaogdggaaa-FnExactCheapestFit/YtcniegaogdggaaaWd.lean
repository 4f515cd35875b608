/-
  What see answers, walked.
-/
import Derived.Test.YtcniegaogdggaaaWc
import Derived.Deep.DeepCutAuto
namespace Go.Proofs.Ytcniegaogdggaaa
open Go.RowKit

theorem getD_mem9 (l : List Nat) {i : Nat} (h : i < l.length) : l.getD i 0 ∈ l := mem9 l 0 h
theorem own_arow {w : World} {base n c m : Nat} {a : Option Addr} {xs : List Int} (hx : xs.length = m) (h : w.ownsRow base 3 1 (.slice a n c) m (ints xs)) : ARow w a xs := by
  obtain ⟨a', c', e, r⟩ := own_row hx h
  cases e
  exact r
set_option maxRecDepth 20000 in
set_option maxHeartbeats 4000000 in
theorem see_any {base b i N c2 : Nat} {v0 v1 : Value} {a2 : Option Addr} {ls gn : List Int} {lf : List Nat} {xs ys rs : List Int} {w : World} (hr : rs.length = 10) (hN : lf.length = N) (hd : lf.Nodup) (h10 : ∀ x ∈ lf, x < 10) (hb : base ≤ w.heap.size) (hls : ls.length ≤ 100) (h : Sr w base b v0 v1 (.slice a2 N c2) ls gn (Hu.cast lf) xs ys) :
    Calls Try.prog 64 #[.pointer (some ⟨b, 0, none⟩), .int .i64 (i : Int), .agg (tv rs)] w fun e w' => e = .returned (.tuple #[]) ∧ (∃ v0', Sr w' base b v0' v1 (.slice a2 N c2) (ls ++ [(i : Int)]) gn (Hu.cast lf) (Hu.seeX lf rs xs) (Hu.seeY lf rs xs ys i)) ∧ Below base w w' := by
  have bn := below_new w (.cells (tv rs) 65)
  have hR := R10.new w rs hr 65
  have hsW : (w.alloc (.cells (tv rs) 65)).heap.size = w.heap.size + 1 := World.size_alloc _ _
  obtain ⟨W1, hW1⟩ : ∃ W1, W1 = w.alloc (.cells (tv rs) 65) := ⟨_, rfl⟩
  rw [← hW1] at bn hR hsW
  have HW1 := hide hW1.symm
  clear hW1
  have h1 := h.below bn
  have hbl := h.sv.lt
  have N10 : N ≤ 10 := by
    have := hd.length_le_of_subset (l₂ := List.range 10) (fun x hx => List.mem_range.2 (h10 x hx))
    simp at this; omega
  obtain ⟨g3, cap3, w3, hr3, own3, hg3, hat3⟩ := push_9 (t := 27) (x := .int .i64 (i : Int)) Try.underlying27 infoI rfl rfl (by decide) h1.o0 (by omega) (by omega)
  obtain ⟨S4, A3, B4⟩ := h1.push0 (by omega) own3 hg3 hat3
  have e0 := A3.c0
  have f0 := A3.fz 0 (by omega)
  have c0 := h1.sv.c0
  have hz3 : w.heap.size < w3.heap.size := Nat.lt_of_lt_of_le (by simp; omega) hg3.size
  have hR4 : R10 (w3.setCell ⟨b, 0, none⟩ (.slice (some ⟨g3, 0, none⟩) (ls.length + 1) cap3)) w.heap.size rs := (hR.keep (w' := w3) (Nat.le_trans (by simp) hg3.size) ((hg3.block w.heap.size (by simp; omega) (fun e => by have := (h.o0.lt _ e.symm).2; omega)).trans ((below_new _ _).block _ (by omega)))).other (by omega)
  have HB4 := hide ((bn.mono hb).trans B4)
  have e2 := S4.sv.c2
  obtain ⟨w4, hw4⟩ : ∃ w4, w4 = w3.setCell ⟨b, 0, none⟩ (.slice (some ⟨g3, 0, none⟩) (ls.length + 1) cap3) := ⟨_, rfl⟩
  rw [← hw4] at S4 hR4 HB4 e2
  have HW4 := hide hw4.symm
  obtain ⟨v0', hv0⟩ : ∃ v0', v0' = Value.slice (some ⟨g3, 0, none⟩) (ls.length + 1) cap3 := ⟨_, rfl⟩
  rw [← hv0] at S4
  have HS4 := hide S4
  have HR4 := hide hR4
  have HD := hide hd
  have H10 := hide h10
  have HN := hide hN
  have HBB := hide h.bb
  have HX0 := hide (seeX_nil (rs := rs) h.sv.lx)
  have HY0 := hide (seeY_nil (rs := rs) (xs := xs) (y := (i : Int)) h.sv.ly)
  clear bn hR h1 own3 hg3 hat3 S4 A3 B4 hR4 hw4 hv0 hd h10 hN h
  go_enter Try.func64, Try.ntmps64
  clear hsW
  go_upto_region 1 with fail
  rw [HW1.out]
  go_upto_region 2 with (at_builtin; refine Lib.wpList_append_run _ rfl _ _ _ _ rfl _ _ rfl rfl _ _ (hr3 _) ?_)
  rw [HW4.out]
  clear hr3 e0 f0 c0 HW1 HW4
  go_wp2_with fail
  obtain ⟨R, hRe⟩ : ∃ R, R = w.heap.size := ⟨_, rfl⟩
  rw [← hRe] at HR4 ⊢
  have hbR : b < R := by omega
  have hbaR : base ≤ R := by omega
  clear hRe hz3
  go_loopw [7, 23] (fun _ s wr => ∃ (j : Nat), s = .int .i64 j ∧ j ≤ N ∧ Hid (Sr wr base b v0' v1 (.slice a2 N c2) (ls ++ [(i : Int)]) gn (Hu.cast lf) (Hu.seeX (lf.take j) rs xs) (Hu.seeY (lf.take j) rs xs ys i)) ∧ Hid (R10 wr R rs) ∧ Hid (Below base w wr)) (fun _ s _ => N - (intOf s).toNat)
  case atStart => exact ⟨0, rfl, Nat.zero_le _, hide (by rw [List.take_zero, HX0.out, HY0.out]; exact HS4.out), HR4, HB4⟩
  case round =>
    clear HS4 HR4 HB4 e2
    obtain ⟨j, rfl, hj, HS, HR, HB⟩ := hrel
    by_cases hlt : j < N
    · have hjl : j < lf.length := by rw [HN.out]; exact hlt
      have hy10 := H10.out _ (getD_mem9 lf hjl)
      obtain ⟨b2, o2, rfl, r2⟩ := (own_arow rfl HS.out.o2).at (i := j) (by rw [Hu.cast_len]; exact hjl)
      rw [Hu.cast_get lf hjl] at r2
      have HAT := hide (seeX_at (rs := rs) (xs := xs) HD.out hjl hy10)
      have cx := HS.out.sv.x hy10
      have fx := HS.out.sv.fz (3 + lf.getD j 0) (by omega)
      have cy := HS.out.sv.y hy10
      have fy := HS.out.sv.fz (13 + lf.getD j 0) (by omega)
      have cr := (HR.out.2.2 _ hy10).1
      rw [HAT.out] at cx
      have HSX := hide (fun h => seeX_set (rs := rs) (xs := xs) hjl h)
      have HSY := hide (fun h => seeY_set (rs := rs) (xs := xs) (ys := ys) (y := (i : Int)) hjl h)
      have HTX := hide (fun h => seeX_same (rs := rs) (xs := xs) hjl h)
      have HTY := hide (fun h => seeY_same (rs := rs) (xs := xs) (ys := ys) (y := (i : Int)) hjl h)
      generalize (Hu.seeY (lf.take j) rs xs ys (i : Int)).getD (lf.getD j 0) 0 = y0 at cy
      generalize lf.getD j 0 = q at *
      generalize rs.getD q 0 = r at *
      generalize xs.getD q 0 = x at *
      have i0 : (0 : Int) ≤ (j : Int) := by omega
      have i1 : (j : Int) < (N : Int) := by omega
      have q0 : (0 : Int) ≤ (q : Int) := by omega
      have q1 : (q : Int) < 10 := by omega
      by_cases hrx : r < x
      · have HS2 : Hid (∀ d, Sr (((wr.drewN d).setCell ⟨b, 3 + q, none⟩ (.int .i64 r)).setCell ⟨b, 13 + q, none⟩ (.int .i64 (i : Int))) base b v0' v1 (.slice (some ⟨b2, o2, none⟩) N c2) (ls ++ [(i : Int)]) gn (Hu.cast lf) (Hu.seeX (lf.take (j + 1)) rs xs) (Hu.seeY (lf.take (j + 1)) rs xs ys i)) := hide fun d => by
          have := ((HS.out.below (below_drewN (Below.refl _ wr) d)).setx hy10 r).sety hy10 (i : Int)
          rwa [HSX.out hrx, HSY.out hrx] at this
        have HR2 := hide fun d => ((HR.out.below (below_drewN (Below.refl _ wr) d)).other (b' := b) (k := 3 + q) (v := .int .i64 r) (by omega)).other (b' := b) (k := 13 + q) (v := .int .i64 (i : Int)) (by omega)
        have HB2 := hide fun d => ((below_drewN HB.out d).setCell (p := ⟨b, 3 + q, none⟩) HBB.out (.int .i64 r)).setCell (p := ⟨b, 13 + q, none⟩) HBB.out (.int .i64 (i : Int))
        have cy2 : (wr.setCell ⟨b, 3 + q, none⟩ (.int .i64 r)).cell? ⟨b, 13 + q, none⟩ = some (.int .i64 y0) := (World.cell?_setCell_other _ _ _ _ (by intro e; simp at e)).trans cy
        go_wp2_with fail
        go_quiet (fail)
        go_wp2_with fail
        go_region
        go_wp2_with fail
        exact ⟨⟨j + 1, by go_num, by omega, hide (HS2.out _), hide (HR2.out _), hide (HB2.out _)⟩, by simp only [intOf]; omega⟩
      · have HS2 : Hid (∀ d, Sr (wr.drewN d) base b v0' v1 (.slice (some ⟨b2, o2, none⟩) N c2) (ls ++ [(i : Int)]) gn (Hu.cast lf) (Hu.seeX (lf.take (j + 1)) rs xs) (Hu.seeY (lf.take (j + 1)) rs xs ys i)) := hide fun d => by
          rw [HTX.out hrx, HTY.out hrx]
          exact HS.out.below (below_drewN (Below.refl _ wr) d)
        have HR2 := hide fun d => HR.out.below (below_drewN (Below.refl _ wr) d)
        have HB2 := hide fun d => below_drewN HB.out d
        go_wp2_with fail
        go_quiet (fail)
        go_wp2_with fail
        exact ⟨⟨j + 1, by go_num, by omega, hide (HS2.out _), hide (HR2.out _), hide (HB2.out _)⟩, by simp only [intOf]; omega⟩
    · have hje : j = N := by omega
      subst hje
      have HF : Hid (Sr wr base b v0' v1 (.slice a2 j c2) (ls ++ [(i : Int)]) gn (Hu.cast lf) (Hu.seeX lf rs xs) (Hu.seeY lf rs xs ys i)) := hide (by
        have := HS.out
        rwa [List.take_of_length_le (by rw [HN.out]; omega)] at this)
      go_wp2_with fail
      go_end0
      exact ⟨rfl, ⟨v0', HF.out⟩, HB.out⟩
end Go.Proofs.Ytcniegaogdggaaa
