/-
  What the model's SlotsFor answers: whose each slot is.
-/
import Derived.Test.YtlbagigghpiifaaHh17
namespace Go.Proofs.Ytlbagigghpiifaa
open Go.RowKit Go.Sort

set_option maxHeartbeats 8000000 in
theorem ss_any {p b a : Option Addr} {n m c d f : Nat} {ps cs ws : List Int} {w : World} (HN : Hid (ws.length = n)) (HM_ : Hid (cs.length = m)) (HR : Hid (ps.length = m)) (HF : Hid (Sh.flowB ps = true)) (HC : Hid (Hs.slotsB cs ws = true)) (HA : Hid (ARow w a ws)) (HB : Hid (ARow w b cs)) (HP : Hid (ARow w p ps)) :
    Calls Try.prog 27 #[.slice p m f, .slice b m d, .slice a n c] w fun e w' => ∃ g, e = .returned (.slice (some ⟨g, 0, none⟩) n n) ∧ Below w.heap.size w w' ∧ w.heap.size ≤ g ∧ Ow w' g n (Hs.ownL ps cs ws) := by
  have hn10 : n ≤ 10 := by have := (Hs.slotsB_yes HC.out).2.2.2; have := HN.out; omega
  have hm8 : m ≤ 8 := by have := (Hs.cntB_yes (Hs.slotsB_yes HC.out).1).2.1; have := HM_.out; omega
  have hmk := makeI_run n (by omega)
  have HGW := hide (Hs.slotsB_yes HC.out).2.2.1
  have HGL := hide (Hs.goodsL_len ps cs)
  have HGA : Hid ((Hs.exp cs (Hs.goodsL ps cs)).length = n) := hide ((Hs.goodsL_all (by rw [HM_.out, HR.out]) HC.out).trans HN.out)
  have HSG := hide fun (W : World) (hp : ARow W p ps) (hb : ARow W b cs) => sgoods_any (c := f) (d := d) HR HM_ (by omega) (hide fun i hi => Sh.flowB_at HF.out (by rw [HR.out]; exact hi)) (hide fun i hi => Hs.cntB_at (Hs.slotsB_yes HC.out).1 (by rw [HM_.out]; exact hi)) (hide hp) (hide hb)
  go_enter Try.func27, Try.ntmps27
  go_wp2_with fail
  go_loopw [7, 9, 18] (fun s7 _ s wr => ∃ (k : Nat), s = .int .i64 k ∧ k ≤ n ∧ wr.ownsRow w.heap.size 3 1 s7 k (ints ((negs ws).take k)) ∧ Below w.heap.size w wr) (fun _ _ s _ => n - (intOf s).toNat)
  case atStart => exact ⟨0, rfl, Nat.zero_le _, World.ownsRow_nil _ _ _ _, Below.refl _ _⟩
  case round =>
    obtain ⟨k, rfl, hk, hown, hB⟩ := hrel
    by_cases hlt : k < n
    · obtain ⟨ba, oa, rfl, r1⟩ := (HA.out.below hB).at (i := k) (by rw [HN.out]; exact hlt)
      have i0 : (0 : Int) ≤ (k : Int) := by omega
      have i1 : (k : Int) < (n : Int) := by omega
      have hx := Pf.inB_yes (Pf.allB_get HGW.out (show k < ws.length by rw [HN.out]; exact hlt))
      obtain ⟨v', w3, hr3, own3, hg3⟩ := push_int (x := - ws.getD k 0) hown (by omega) hB.size
      rw [← negs_step ws (by rw [HN.out]; exact hlt)] at own3
      have HO3 := hide own3
      have HB3 := hide (hB.trans (grown_under' hg3 hown (Nat.le_refl _) hB.size))
      generalize ws.getD k 0 = x at *
      have nx : wrap64 (-x) = -x := by unfold wrap64; omega
      clear hmk own3 hg3 hown hx
      go_wp2_with (first | (at_builtin; refine Lib.wpList_append_run _ rfl _ _ _ _ rfl _ _ rfl rfl _ _ (hr3 _) ?_))
      go_roundw
      case rel => exact ⟨k + 1, by go_num, by omega, HO3.out, HB3.out⟩
      case measure => simp only [intOf]; omega
    · have hke : k = n := by omega
      subst hke
      rw [show (negs ws).take k = negs ws by rw [← HN.out, ← negs_len ws, List.take_length]] at hown
      obtain ⟨an, cn, rfl, hrn⟩ := own_any7 (by rw [negs_len, HN.out]) hown
      have HRN := hide hrn
      have HBw := hide hB
      clear hown hrn hB
      go_wp2_with fail
      refine (srank_any (by rw [negs_len, HN.out]) (by omega) HRN.out).mono ?_
      rintro _ w2 ⟨v2, rfl, hb2, own2⟩
      obtain ⟨at2, ca, rfl, _⟩ := own_any7 (by rw [nats_len, Rk.rank_len, negs_len, HN.out]) own2
      have HBw2 := hide (HBw.out.trans (hb2.mono HBw.out.size))
      have HM := hide (made_own w2 k (by omega))
      have HBm := hide ((Below.refl w2.heap.size w2).alloc (Nat.le_refl _) (.cells (madeCells #[.int .i64 0] k) 3))
      have HO2 := hide (own_below own2 HBm.out)
      have HL2 : Hid (∀ g, (Value.slice at2 k ca).ownBlock = some g → g < w2.heap.size) := hide fun g e => (own2.lt g e).2
      have HZ : Hid (w2.heap.size < (w2.alloc (.cells (madeCells #[.int .i64 0] k) 3)).heap.size) := hide (by simp)
      have HBw3 := hide (HBw2.out.trans (HBm.out.mono HBw2.out.size))
      have hzw := HBw2.out.size
      clear own2 hb2 HRN
      go_wp2_with fail
      generalize hW : w2.alloc (.cells (madeCells #[.int .i64 0] k) 3) = W at *
      clear hW hmk
      refine (HSG.out _ (HP.out.below HBw3.out) (HB.out.below HBw3.out)).mono ?_
      rintro _ w3 ⟨v3, rfl, hb3, own3⟩
      obtain ⟨ag, cg, rfl, hrg⟩ := own_any7 (by rw [nats_len]; exact HGL.out.trans HR.out) own3
      have HM3 := hide (owns_keep HM.out (hb3.block _ HZ.out))
      have HBw4 := hide (HBw3.out.trans (hb3.mono HBw3.out.size))
      have HRS3 : Hid (∀ w', w3.grownBy w' (some w2.heap.size) → ARow w' at2 (nats (Rk.rank (negs ws)))) := hide fun w' hg => by
        have h := (own_below HO2.out hb3).kept hg (by
          right
          intro e
          have := HL2.out _ e
          omega)
        obtain ⟨a', c', e, hr⟩ := own_any7 (by rw [nats_len, Rk.rank_len, negs_len, HN.out]) h
        cases e
        exact hr
      have HRG3 : Hid (∀ w', w3.grownBy w' (some w2.heap.size) → ARow w' ag (nats (Hs.goodsL ps cs))) := hide fun w' hg => by
        have h := own3.kept hg (by
          right
          intro e
          have h1 := (own3.lt w2.heap.size e).1
          have h2 := HZ.out
          omega)
        obtain ⟨a', c', e, hr⟩ := own_any7 (by rw [nats_len]; exact HGL.out.trans HR.out) h
        cases e
        exact hr
      have hz4 := HBw3.out.size
      have hz5 := hb3.size
      have hz6 := HZ.out
      clear own3 hrg hb3 HM HBm HO2 HL2
      go_wp2_with fail
      go_loopw [12, 14, 15, 37] (fun s12 _ _ s wr => ∃ (q t : Nat) (ys : List Int), s12 = .int .i64 t ∧ s = .int .i64 q ∧ q ≤ m ∧ t ≤ k ∧ Hid (t = Hs.upto cs (Hs.goodsL ps cs) q) ∧ Hid (ys = putTo (Hs.exp cs (Hs.goodsL ps cs)) (Rk.rank (negs ws)) k t) ∧ Hid (wr.ownsRow w2.heap.size 3 1 (.slice (some ⟨w2.heap.size, 0, none⟩) k k) k (ints ys)) ∧ Hid (w3.grownBy wr (some w2.heap.size))) (fun _ _ _ s _ => m - (intOf s).toNat)
      case atStart => exact ⟨0, 0, List.replicate k 0, rfl, rfl, Nat.zero_le _, Nat.zero_le _, hide rfl, hide rfl, HM3, hide (World.grownBy.refl _ _)⟩
      case round =>
        obtain ⟨q, t, ys, rfl, rfl, hq, ht, HTU, HY, HO, HG⟩ := hrel
        have HWr := hide (HBw4.out.trans (grown_below' HG.out (by omega) HBw4.out.size))
        by_cases hqm : q < m
        · have i0 : (0 : Int) ≤ (q : Int) := by omega
          have i1 : (q : Int) < (m : Int) := by omega
          have hkg : q < (Hs.goodsL ps cs).length := by rw [HGL.out, HR.out]; exact hqm
          obtain ⟨bg, og, rfl, r1⟩ := (HRG3.out _ HG.out).at (i := q) (by rw [nats_len]; exact hkg)
          rw [nats_get] at r1
          have hxm : (Hs.goodsL ps cs).getD q 0 < m := by rw [← HR.out]; exact Hs.goodsL_lt (by rw [HR.out]; exact hqm)
          have hc1 := Hs.cntB_at (Hs.slotsB_yes HC.out).1 (i := (Hs.goodsL ps cs).getD q 0) (by rw [HM_.out]; exact hxm)
          have HUS := hide (Hs.upto_succ cs (Hs.goodsL ps cs) hkg)
          have hul := Hs.upto_le cs (Hs.goodsL ps cs) (q + 1)
          rw [HUS.out, HGA.out, ← HTU.out] at hul
          have HEA := hide fun (j : Nat) (hj : j < (cs.getD ((Hs.goodsL ps cs).getD q 0) 0).toNat) => Hs.exp_at cs (Hs.goodsL ps cs) hkg hj
          rw [← HTU.out] at HEA HUS
          obtain ⟨bb, ob, rfl, r2⟩ := (HB.out.below HWr.out).at (i := (Hs.goodsL ps cs).getD q 0) (by rw [HM_.out]; exact hxm)
          generalize hxx : (Hs.goodsL ps cs).getD q 0 = x at *
          generalize hcc : cs.getD x 0 = cI at *
          obtain ⟨cn, rfl⟩ := Int.eq_ofNat_of_zero_le (show 0 ≤ cI by omega)
          rw [Int.toNat_natCast] at HUS hul HEA
          have j0 : (0 : Int) ≤ (x : Int) := by omega
          have j1 : (x : Int) < (m : Int) := by omega
          clear hxx hcc
          go_wp2_with fail
          go_loopw [12, 15] (fun s12 s15 wr => ∃ (j u r : Nat) (zs : List Int), s12 = .int .i64 (u : Int) ∧ s15 = .int .i64 (r : Int) ∧ Hid (u = t + j ∧ r + j = cn) ∧ Hid (zs = putTo (Hs.exp cs (Hs.goodsL ps cs)) (Rk.rank (negs ws)) k u) ∧ Hid (wr.ownsRow w2.heap.size 3 1 (.slice (some ⟨w2.heap.size, 0, none⟩) k k) k (ints zs)) ∧ Hid (w3.grownBy wr (some w2.heap.size))) (fun _ s _ => (intOf s).toNat)
          case atStart => exact ⟨0, t, cn, ys, rfl, rfl, hide ⟨rfl, rfl⟩, HY, HO, HG⟩
          case round =>
            obtain ⟨j, u, r, zs, rfl, rfl, HJ, HZ2, HOI, HGI⟩ := hrel
            obtain ⟨hu, hr⟩ := HJ.out
            clear r1 r2
            by_cases hjc : 0 < r
            · have p0 : (0 : Int) < (r : Int) := by omega
              have p1 : (0 : Int) ≤ (u : Int) := by omega
              have p2 : (u : Int) < (k : Int) := by omega
              obtain ⟨bs, os, rfl, r3⟩ := (HRS3.out _ HGI.out).at (i := u) (by rw [nats_len, Rk.rank_len, negs_len, HN.out]; omega)
              rw [nats_get] at r3
              have hp : (Rk.rank (negs ws)).getD u 0 < k := by have := rk_nth_lt (vs := negs ws) (k := u) (by rw [negs_len, HN.out]; omega); rwa [negs_len, HN.out] at this
              have HST0 : Hid (zs.set ((Rk.rank (negs ws)).getD u 0) (x : Int) = putTo (Hs.exp cs (Hs.goodsL ps cs)) (Rk.rank (negs ws)) k (u + 1)) := hide (by
                rw [HZ2.out]
                show _ = List.set _ _ _
                rw [show (Hs.exp cs (Hs.goodsL ps cs)).getD u 0 = x by rw [hu]; exact HEA.out j (by omega)])
              generalize (Rk.rank (negs ws)).getD u 0 = y at *
              have y0 : (0 : Int) ≤ (y : Int) := by omega
              have y1 : (y : Int) < (k : Int) := by omega
              have hzl : zs.length = k := by rw [HZ2.out, putTo_len]
              have c0 : wr.cell? ⟨w2.heap.size, y, none⟩ = some (.int .i64 (zs.getD y 0)) := by rw [HOI.out.cellAt y (by omega), ints_get zs y (by omega)]
              have f0 := HOI.out.frozenAt y
              obtain ⟨st1, st2⟩ := HOI.out.stored y (.int .i64 (x : Int))
              rw [ints_set] at st1
              have HST := hide st1
              have HG4 := hide (grow_set17 HGI.out st2 rfl)
              have HJ2 : Hid (u + 1 = t + (j + 1) ∧ (r - 1) + (j + 1) = cn) := hide ⟨by omega, by omega⟩
              have es : wrap64 ((r : Int) - 1) = ((r - 1 : Nat) : Int) := by rw [wrap_id _ (by omega) (by omega)]; omega
              clear st1 st2 hu hr HJ
              go_wp2_with fail
              go_roundw
              case rel => exact ⟨j + 1, u + 1, r - 1, zs.set y (x : Int), by go_num, by first | rfl | go_num | (congr 1; omega), HJ2, HST0, HST, HG4⟩
              case measure => simp only [intOf]; omega
            · have hr0 : r = 0 := by omega
              subst hr0
              have hjc2 : j = cn := by omega
              subst hjc2
              subst hu
              go_wp2_with fail
              go_roundw
              case rel => exact ⟨q + 1, t + j, zs, rfl, by go_num, by omega, by omega, hide HUS.out.symm, HZ2, HOI, HGI⟩
              case measure => simp only [intOf]; omega
        · have hke : q = m := by omega
          subst hke
          have htn : t = k := by rw [HTU.out, ← HGA.out, ← Hs.upto_all, HGL.out, HR.out]
          have hys : ys = Hs.ownL ps cs ws := by rw [HY.out, Hs.ownL, HN.out, htn]; rfl
          have ho := HO.out
          rw [hys] at ho
          obtain ⟨O5, _⟩ := Ow.mk' ho
          have HO5 := hide O5
          clear O5 ho hys
          go_wp2_with fail
          go_ret
          exact ⟨_, rfl, HWr.out, by omega, HO5.out⟩
end Go.Proofs.Ytlbagigghpiifaa
