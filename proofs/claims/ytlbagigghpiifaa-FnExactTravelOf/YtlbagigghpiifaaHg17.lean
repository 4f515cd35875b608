/-
  What the program's SlotsFor answers: whose each slot is.
-/
import Derived.Test.YtlbagigghpiifaaHf17
namespace Go.Proofs.Ytlbagigghpiifaa
open Go.RowKit Go.Sort

theorem DyBox.grown {w w' : World} {B g : Nat} {v0 v1 v2 v3 : Value} (h : DyBox w B v0 v1 v2 v3) (hg : w.grownBy w' (some g)) (hne : B ≠ g) : DyBox w' B v0 v1 v2 v3 := by
  have k : ∀ i, w'.cell? ⟨B, i, none⟩ = w.cell? ⟨B, i, none⟩ := fun i => World.cell?_of_block (w := w) (a := ⟨B, i, none⟩) (hg.block B h.2.2.2.2 (by simpa using hne))
  exact ⟨(k 0).trans h.1, (k 1).trans h.2.1, (k 2).trans h.2.2.1, (k 3).trans h.2.2.2.1, Nat.lt_of_lt_of_le h.2.2.2.2 hg.size⟩
theorem grow_set17 {w wr : World} {g : Nat} (hg : w.grownBy wr (some g)) {p : Nat} {v : Value} {w' : World} (h : wr.grownBy w' (some g)) (_ : w' = wr.setCell ⟨g, p, none⟩ v) : w.grownBy w' (some g) :=
  ⟨h.os.trans hg.os, h.tape.trans hg.tape, h.output.trans hg.output, Nat.le_trans hg.size h.size, fun b hb hne => (h.block b (Nat.lt_of_lt_of_le hb hg.size) hne).trans (hg.block b hb hne)⟩
set_option maxHeartbeats 8000000 in
theorem bo_any {a b o p : Option Addr} {n m q c d e f : Nat} {ps cs ws : List Int} {w : World} (HN : Hid (ws.length = n)) (HM : Hid (cs.length = m)) (HR : Hid (ps.length = m)) (HF : Hid (Sh.flowB ps = true)) (HC : Hid (Hs.slotsB cs ws = true)) (HA : Hid (ARow w a ws)) (HB : Hid (ARow w b cs)) (HP : Hid (ARow w p ps)) :
    Calls Try.prog 30 #[.agg #[.slice a n c, .slice b m d, .slice o q e, .slice p m f]] w fun e w' => ∃ g, e = .returned (.slice (some ⟨g, 0, none⟩) n n) ∧ Below w.heap.size w w' ∧ w.heap.size ≤ g ∧ Ow w' g n (Hs.ownL ps cs ws) := by
  have hn10 : n ≤ 10 := by have := (Hs.slotsB_yes HC.out).2.2.2; have := HN.out; omega
  have hm8 : m ≤ 8 := by have := (Hs.cntB_yes (Hs.slotsB_yes HC.out).1).2.1; have := HM.out; omega
  have hmk := makeI_run n (by omega)
  have hb0 := below_new w (.cells #[.slice a n c, .slice b m d, .slice o q e, .slice p m f] 50)
  have hx0 := DyBox.new w (.slice a n c) (.slice b m d) (.slice o q e) (.slice p m f) 50
  have hz0 : (w.alloc (.cells #[.slice a n c, .slice b m d, .slice o q e, .slice p m f] 50)).heap.size = w.heap.size + 1 := by simp
  have hm0 := made_own (w.alloc (.cells #[.slice a n c, .slice b m d, .slice o q e, .slice p m f] 50)) n (by omega)
  have hb1 := below_new (w.alloc (.cells #[.slice a n c, .slice b m d, .slice o q e, .slice p m f] 50)) (.cells (madeCells #[.int .i64 0] n) 3)
  rw [hz0] at hm0
  have HX1 := hide (hx0.below hb1)
  have HW1 := hide (hb0.trans (hb1.mono hb0.size))
  have HM1 := hide hm0
  have hz1 : ((w.alloc (.cells #[.slice a n c, .slice b m d, .slice o q e, .slice p m f] 50)).alloc (.cells (madeCells #[.int .i64 0] n) 3)).heap.size = w.heap.size + 2 := by simp
  have HZ := hide hz1
  have HGL := hide (Hs.goodsL_len ps cs)
  have HGA : Hid ((Hs.exp cs (Hs.goodsL ps cs)).length = n) := hide ((Hs.goodsL_all (by rw [HM.out, HR.out]) HC.out).trans HN.out)
  clear hb0 hx0 hz0 hm0 hb1 hz1
  go_enter Try.func30, Try.ntmps30
  go_wp2_with fail
  generalize hW1 : (w.alloc (.cells #[.slice a n c, .slice b m d, .slice o q e, .slice p m f] 50)).alloc (.cells (madeCells #[.int .i64 0] n) 3) = W1 at *
  clear hW1 hmk
  refine (nf_any HN.out (by omega) (HA.out.below HW1.out)).mono ?_
  rintro _ w2 ⟨rfl, hb2, own2⟩
  obtain ⟨O2, _⟩ := Ow.mk' own2
  have hz2 : w.heap.size + 1 < w2.heap.size := by have := hb2.size; have := HZ.out; omega
  have HX2 := hide (HX1.out.below hb2)
  have HW2 := hide (HW1.out.trans (hb2.mono HW1.out.size))
  have HM2 := hide (owns_keep HM1.out (hb2.block _ (by have := HZ.out; omega)))
  have HS2 := hide O2
  have hG1 : w.heap.size + 1 < W1.heap.size + 1 := by have := HZ.out; omega
  generalize W1.heap.size + 1 = G1 at *
  obtain ⟨x0, x1, x2, x3, _⟩ := HX2.out
  clear own2 O2 hb2 HX1 HW1 HM1 HZ
  go_wp2_with fail
  refine (mfe_any HM HR HF (hide (Hs.slotsB_yes HC.out).1) (hide (HB.out.below HW2.out)) (hide (HP.out.below HW2.out))).mono ?_
  rintro _ w3 ⟨G2, rfl, hb3, hG2, O3⟩
  have HX3 := hide (HX2.out.below hb3)
  have HW3 := hide (HW2.out.trans (hb3.mono HW2.out.size))
  have HM3 := hide (owns_keep HM2.out (hb3.block _ (by omega)))
  have HS3 := hide (HS2.out.below hb3)
  have HG3 := hide O3
  have hz3 := hb3.size
  clear O3 hb3 HX2 HW2 HM2 HS2 x0 x1 x2 x3
  go_wp2_with fail
  go_loopw [4, 6, 7, 9, 22] (fun v4 _ _ _ s wr => ∃ (k t u : Nat) (ys : List Int), v4 = .slice (some ⟨G1, u, none⟩) (n - t : Nat) (n - t : Nat) ∧ (t < n → u = t) ∧ s = .int .i64 k ∧ k ≤ m ∧ t ≤ n ∧ Hid (t = Hs.upto cs (Hs.goodsL ps cs) k) ∧ Hid (ys = putTo (Hs.exp cs (Hs.goodsL ps cs)) (Rk.rank (negs ws)) n t) ∧ Hid (wr.ownsRow (w.heap.size + 1) 3 1 (.slice (some ⟨w.heap.size + 1, 0, none⟩) n n) n (ints ys)) ∧ Hid (w3.grownBy wr (some (w.heap.size + 1)))) (fun _ _ _ _ s _ => m - (intOf s).toNat)
  case atStart => exact ⟨0, 0, 0, List.replicate n 0, by simp, fun _ => rfl, rfl, Nat.zero_le _, Nat.zero_le _, hide rfl, hide rfl, HM3, hide (World.grownBy.refl _ _)⟩
  case round =>
    obtain ⟨k, t, u, ys, rfl, hut, rfl, hk, ht, HTU, HY, HO, HG⟩ := hrel
    obtain ⟨x0, x1, x2, x3, _⟩ := HX3.out.grown HG.out (by omega)
    have HWr := hide (HW3.out.trans (grown_below' HG.out (by omega) HW3.out.size))
    by_cases hkm : k < m
    · have i0 : (0 : Int) ≤ (k : Int) := by omega
      have i1 : (k : Int) < (m : Int) := by omega
      have hkg : k < (Hs.goodsL ps cs).length := by rw [HGL.out, HR.out]; exact hkm
      obtain ⟨_, _, e1, r1⟩ := ((HG3.out.grown HG.out (by omega)).row (by rw [nats_len, HGL.out, HR.out])).at (i := k) (by rw [nats_len]; exact hkg)
      cases e1
      rw [nats_get, Nat.zero_add] at r1
      have hxm : (Hs.goodsL ps cs).getD k 0 < m := by rw [← HR.out]; exact Hs.goodsL_lt (by rw [HR.out]; exact hkm)
      have hc1 := Hs.cntB_at (Hs.slotsB_yes HC.out).1 (i := (Hs.goodsL ps cs).getD k 0) (by rw [HM.out]; exact hxm)
      have HUS := hide (Hs.upto_succ cs (Hs.goodsL ps cs) hkg)
      have hul := Hs.upto_le cs (Hs.goodsL ps cs) (k + 1)
      rw [HUS.out, HGA.out, ← HTU.out] at hul
      have HEA := hide fun (j : Nat) (hj : j < (cs.getD ((Hs.goodsL ps cs).getD k 0) 0).toNat) => Hs.exp_at cs (Hs.goodsL ps cs) hkg hj
      rw [← HTU.out] at HEA HUS
      obtain ⟨bb, ob, rfl, r2⟩ := (HB.out.below HWr.out).at (i := (Hs.goodsL ps cs).getD k 0) (by rw [HM.out]; exact hxm)
      generalize hxx : (Hs.goodsL ps cs).getD k 0 = x at *
      generalize hcc : cs.getD x 0 = cI at *
      obtain ⟨cn, rfl⟩ := Int.eq_ofNat_of_zero_le (show 0 ≤ cI by omega)
      rw [Int.toNat_natCast] at HUS hul HEA
      obtain rfl : t = u := (hut (by omega)).symm
      have j0 : (0 : Int) ≤ (x : Int) := by omega
      have j1 : (x : Int) < (m : Int) := by omega
      have l0 : (0 : Int) ≤ (cn : Int) := by omega
      have l1 : (cn : Int) ≤ ((n - t : Nat) : Int) := by omega
      clear hxx hcc
      go_wp2_with fail
      go_loopw [9, 36] (fun _ s wr => ∃ (j : Nat) (zs : List Int), s = .int .i64 j ∧ j ≤ cn ∧ Hid (zs = putTo (Hs.exp cs (Hs.goodsL ps cs)) (Rk.rank (negs ws)) n (t + j)) ∧ Hid (wr.ownsRow (w.heap.size + 1) 3 1 (.slice (some ⟨w.heap.size + 1, 0, none⟩) n n) n (ints zs)) ∧ Hid (w3.grownBy wr (some (w.heap.size + 1)))) (fun _ s _ => cn - (intOf s).toNat)
      case atStart => exact ⟨0, ys, rfl, Nat.zero_le _, HY, HO, HG⟩
      case round =>
        obtain ⟨j, zs, rfl, hj, HZ, HOI, HGI⟩ := hrel
        by_cases hjc : j < cn
        · have p0 : (0 : Int) ≤ (j : Int) := by omega
          have p1 : (j : Int) < (cn : Int) := by omega
          obtain ⟨_, _, e3, r3⟩ := ((HS3.out.grown HGI.out (by omega)).row (by rw [nats_len, Rk.rank_len, negs_len, HN.out])).at (i := t + j) (by rw [nats_len, Rk.rank_len, negs_len, HN.out]; omega)
          cases e3
          rw [nats_get, Nat.zero_add] at r3
          have hp : (Rk.rank (negs ws)).getD (t + j) 0 < n := by have := rk_nth_lt (vs := negs ws) (k := t + j) (by rw [negs_len, HN.out]; omega); rwa [negs_len, HN.out] at this
          have HST0 : Hid (zs.set ((Rk.rank (negs ws)).getD (t + j) 0) (x : Int) = putTo (Hs.exp cs (Hs.goodsL ps cs)) (Rk.rank (negs ws)) n (t + (j + 1))) := hide (by
            rw [HZ.out, ← Nat.add_assoc]
            show _ = List.set _ _ _
            rw [HEA.out j hjc])
          generalize (Rk.rank (negs ws)).getD (t + j) 0 = y at *
          have y0 : (0 : Int) ≤ (y : Int) := by omega
          have y1 : (y : Int) < (n : Int) := by omega
          have hzl : zs.length = n := by rw [HZ.out, putTo_len]
          have c0 : wr.cell? ⟨w.heap.size + 1, y, none⟩ = some (.int .i64 (zs.getD y 0)) := by rw [HOI.out.cellAt y (by omega), ints_get zs y (by omega)]
          have f0 := HOI.out.frozenAt y
          obtain ⟨st1, st2⟩ := HOI.out.stored y (.int .i64 (x : Int))
          rw [ints_set] at st1
          have HST := hide st1
          have HG4 := hide (grow_set17 HGI.out st2 rfl)
          clear st1 st2 x0 x1 x2 x3 r1 r2
          go_wp2_with fail
          go_roundw
          case rel => exact ⟨j + 1, zs.set y (x : Int), by go_num, by omega, HST0, HST, HG4⟩
          case measure => simp only [intOf]; omega
        · have hje : j = cn := by omega
          subst hje
          clear x0 x1 x2 x3 r1 r2
          go_wp2_with fail
          by_cases hnj : n - t = j
          · simp only [if_pos hnj]
            go_roundw
            case rel => exact ⟨k + 1, t + j, t, zs, by rw [Nat.sub_sub], fun h => by omega, by go_num, by omega, by omega, hide HUS.out.symm, HZ, HOI, HGI⟩
            case measure => simp only [intOf]; omega
          · simp only [if_neg hnj]
            go_roundw
            case rel => exact ⟨k + 1, t + j, t + j, zs, by rw [Nat.sub_sub], fun _ => rfl, by go_num, by omega, by omega, hide HUS.out.symm, HZ, HOI, HGI⟩
            case measure => simp only [intOf]; omega
    · have hke : k = m := by omega
      subst hke
      have htn : t = n := by rw [HTU.out, ← HGA.out, ← Hs.upto_all, HGL.out, HR.out]
      have hys : ys = Hs.ownL ps cs ws := by rw [HY.out, Hs.ownL, HN.out, htn]; rfl
      have ho := HO.out
      rw [hys] at ho
      obtain ⟨O5, _⟩ := Ow.mk' ho
      have HO5 := hide O5
      clear O5 ho hys x0 x1 x2 x3
      go_wp2_with fail
      go_ret
      exact ⟨_, rfl, HWr.out, by omega, HO5.out⟩
end Go.Proofs.Ytlbagigghpiifaa
