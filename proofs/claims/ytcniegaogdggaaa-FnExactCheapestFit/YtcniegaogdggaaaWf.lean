/-
  What restOf and shiftPrices answer.
-/
import Derived.Test.YtcniegaogdggaaaWe
import Derived.Test.YtcniegaogdggaaaQa
namespace Go.Proofs.Ytcniegaogdggaaa
open Go.RowKit

theorem ix_tv {ys : List Int} {k : Nat} (hy : ys.length = 10) (hk : k < 10) (w : World) : (Instr.index 65 (.agg (tv ys)) (.int .i64 (k : Int))).run Try.prog w = .ok (.int .i64 (ys.getD k 0)) w := by
  have h1 : (0 : Int) ≤ (k : Int) := by omega
  have h2 : (k : Int) < ((10 : Nat) : Int) := by omega
  obtain ⟨i, hi⟩ := info3
  have hp := part_tv ys w (i := k) (by omega)
  simp only [Instr.index, asIntOf, Sem.run_bind, Sem.run_pure, Result.andThen_ok, run_underlying u64]
  rw [if_pos ⟨h1, h2⟩]
  simp only [Sem.run_bind, run_sizeOf w hi, cells3, Result.andThen_ok, Int.toNat_natCast]
  exact hp
/-- The value of a fitting: costs, the fit, prices of loads and of bins. -/
def fv (e : Option Addr) (n ce FT PU PV : Nat) : Array Value := #[.slice e n ce, .slice (some ⟨FT, 0, none⟩) n n, .slice (some ⟨PU, 0, none⟩) n n, .slice (some ⟨PV, 0, none⟩) n n]
set_option maxRecDepth 20000 in
set_option maxHeartbeats 4000000 in
theorem ro9_any {e : Option Addr} {n ce FT PU PV i : Nat} {C : List (List Int)} {us vs : List Int} {w : World} (hg : Hu.costB C = true) (hl : C.length = n) (hu : us.length = n) (hv : vs.length = n) (hi : i < n) (gu : Pf.allB us (-100000) 100000 = true) (gv : Pf.allB vs (-100000) 100000 = true) (hc : CRow w e C) (ou : ARow w (some ⟨PU, 0, none⟩) us) (ov : ARow w (some ⟨PV, 0, none⟩) vs) :
    Calls Try.prog 65 #[.agg (fv e n ce FT PU PV), .int .i64 (i : Int)] w fun e w' => e = .returned (.agg (tv (Hu.restR C us vs i))) ∧ Below w.heap.size w w' := by
  have gl := Hu.costB_len hg
  rw [hl] at gl
  obtain ⟨n1, n10⟩ := gl
  have HCi := hide ((Hu.costB_row hg (show i < C.length by rw [hl]; exact hi)).1.trans hl)
  have HBP := hide fun (W : World) (r1 : ARow W (some ⟨PU, 0, none⟩) us) (r2 : ARow W (some ⟨PV, 0, none⟩) vs) => bp_any (c := n) (d := n) hu hv n1 n10 hi gu gv r1 r2
  have HBB : Hid (∀ b, b < 10 → -200000 ≤ (Hu.bothR us vs i).getD b 0 ∧ (Hu.bothR us vs i).getD b 0 ≤ 200000) := hide fun b hb => by
    rw [Hu.bothR_get _ _ _ hb, Hu.bothAt]
    split
    · have h1 := Pf.inB_yes (Pf.allB_get gv (show b < vs.length by omega))
      have h2 := Pf.inB_yes (Pf.allB_get gu (show i < us.length by omega))
      omega
    · omega
  have HCB : Hid (∀ b, b < 10 → 0 ≤ (Hu.pad (C.getD i [])).getD b 0 ∧ (Hu.pad (C.getD i [])).getD b 0 ≤ 100) := hide fun b hb => by
    rw [Hu.pad_get _ hb]
    obtain ⟨h1, h2⟩ := Hu.costB_row hg (show i < C.length by rw [hl]; exact hi)
    by_cases hbl : b < (C.getD i []).length
    · exact Pf.inB_yes (Pf.allB_get h2 hbl)
    · rw [List.getD_eq_getElem?_getD, List.getElem?_eq_none (by omega)]; simp
  have HC := hide hc
  have HU := hide ou
  have HV := hide ov
  have HL := hide hl
  have HIX := hide fun (k : Nat) (hk : k < 10) => ix_tv (Hu.bothR_len us vs i) hk
  clear hc ou ov hg hl gu gv
  obtain ⟨bc, oc, rfl, hbc, hcc⟩ := HC.out.resolve_left (by intro e; have := HL.out; rw [e] at this; simp at this; omega)
  obtain ⟨ai, ci, r1, R1⟩ := hcc i (by rw [HL.out]; exact hi)
  rw [HCi.out] at r1
  have bnA := below_new w (.cells (fv (some ⟨bc, oc, none⟩) n ce FT PU PV) 60)
  have bnB := below_new (w.alloc (.cells (fv (some ⟨bc, oc, none⟩) n ce FT PU PV) 60)) (.cells #[.int .i64 0, .int .i64 0, .int .i64 0, .int .i64 0, .int .i64 0, .int .i64 0, .int .i64 0, .int .i64 0, .int .i64 0, .int .i64 0] 65)
  have Z0 := z10_new (w.alloc (.cells (fv (some ⟨bc, oc, none⟩) n ce FT PU PV) 60)) 65
  have f0 : (w.alloc (.cells (fv (some ⟨bc, oc, none⟩) n ce FT PU PV) 60)).cell? ⟨w.heap.size, 0, none⟩ = some (.slice (some ⟨bc, oc, none⟩) n ce) := by simp [fv, go_sem]
  have f2 : (w.alloc (.cells (fv (some ⟨bc, oc, none⟩) n ce FT PU PV) 60)).cell? ⟨w.heap.size, 2, none⟩ = some (.slice (some ⟨PU, 0, none⟩) n n) := by simp [fv, go_sem]
  have f3 : (w.alloc (.cells (fv (some ⟨bc, oc, none⟩) n ce FT PU PV) 60)).cell? ⟨w.heap.size, 3, none⟩ = some (.slice (some ⟨PV, 0, none⟩) n n) := by simp [fv, go_sem]
  rw [World.size_alloc] at Z0
  have bnW := bnA.trans (bnB.mono (by simp))
  have hz : w.heap.size + 1 < ((w.alloc (.cells (fv (some ⟨bc, oc, none⟩) n ce FT PU PV) 60)).alloc (.cells #[.int .i64 0, .int .i64 0, .int .i64 0, .int .i64 0, .int .i64 0, .int .i64 0, .int .i64 0, .int .i64 0, .int .i64 0, .int .i64 0] 65)).heap.size := by simp
  have g0 := (bnB.cell (p := ⟨w.heap.size, 0, none⟩) (by simp)).trans f0
  have g2 := (bnB.cell (p := ⟨w.heap.size, 2, none⟩) (by simp)).trans f2
  have g3 := (bnB.cell (p := ⟨w.heap.size, 3, none⟩) (by simp)).trans f3
  obtain ⟨W1, hW1⟩ : ∃ W1, W1 = (w.alloc (.cells (fv (some ⟨bc, oc, none⟩) n ce FT PU PV) 60)).alloc (.cells #[.int .i64 0, .int .i64 0, .int .i64 0, .int .i64 0, .int .i64 0, .int .i64 0, .int .i64 0, .int .i64 0, .int .i64 0, .int .i64 0] 65) := ⟨_, rfl⟩
  rw [← hW1] at Z0 bnW hz g0 g2 g3
  have HW1 := hide hW1.symm
  have r2 := (bnW.cell (p := ⟨bc, oc + i, none⟩) hbc).trans r1
  have HRO := hide (ro_any (c := ci) HCi.out n1 n10 (R1.below bnW))
  have HBW := hide bnW
  have HZ0 := hide Z0
  have i0 : (0 : Int) ≤ (i : Int) := by omega
  have i1 : (i : Int) < (n : Int) := by omega
  clear bnA bnB bnW f0 f2 f3 hW1 R1 hcc r1 Z0
  generalize fv (some ⟨bc, oc, none⟩) n ce FT PU PV = arr at *
  go_enter Try.func65, Try.ntmps65
  go_upto_region 1 with fail
  rw [HW1.out]
  clear HW1
  go_wp2_with fail
  refine HRO.out.mono ?_
  rintro e w2 ⟨rfl, hb2⟩
  go_upto_region 2 with (refine wr_store rfl _ _ rfl rfl rfl (hide (z10_new _ _)) (Hu.pad_len _) ?_; intro w3 A3 T3)
  have hb3 := below_in hb2 ((below_new w2 _).trans (T3.2.1 _ (Nat.le_refl _)))
  have q2 := (hb3.cell (p := ⟨w.heap.size, 2, none⟩) (by show w.heap.size < _; omega)).trans g2
  have q3 := (hb3.cell (p := ⟨w.heap.size, 3, none⟩) (by show w.heap.size < _; omega)).trans g3
  have HZ3 := hide (HZ0.out.below hb3)
  have HB3 := hide (HBW.out.trans (hb3.mono HBW.out.size))
  have hR2 : w.heap.size + 1 < w2.heap.size := by have := hb2.size; omega
  have HA3 := hide A3
  obtain ⟨R, hRe⟩ : ∃ R, R = w2.heap.size := ⟨_, rfl⟩
  rw [← hRe] at HA3 hR2 ⊢
  clear A3 T3 hb2 hb3 g0 g2 g3 hRe r2
  go_wp2_with fail
  refine (HBP.out _ (HU.out.below HB3.out) (HV.out.below HB3.out)).mono ?_
  rintro e w4 ⟨rfl, hb4⟩
  have HA4 := hide (HA3.out.below hb4)
  have HZ4 := hide (HZ3.out.below hb4)
  have HB4 := hide (HB3.out.trans (hb4.mono HB3.out.size))
  clear hb4 HA3 HZ3 HB3
  go_wp2_with fail
  go_loopw [6, 7, 18] (fun _ _ s wr => ∃ (k : Nat) (zs : List Int), s = .int .i64 k ∧ k ≤ 10 ∧ Hid (R10 wr R zs) ∧ Hid (R10 wr (w.heap.size + 1) z10) ∧ Hid (∀ j, j < 10 → zs.getD j 0 = if j < k then (Hu.restR C us vs i).getD j 0 else (Hu.pad (C.getD i [])).getD j 0) ∧ Hid (Below w.heap.size w wr)) (fun _ _ s _ => 10 - (intOf s).toNat)
  case atStart => exact ⟨0, Hu.pad (C.getD i []), rfl, Nat.zero_le _, HA4, HZ4, hide fun j hj => by simp, HB4⟩
  case round =>
    clear HA4 HZ4 HB4
    obtain ⟨k, zs, rfl, hk, HX, HZ, HD, HB⟩ := hrel
    by_cases hlt : k < 10
    · have j0 : (0 : Int) ≤ (k : Int) := by omega
      have j1 : (k : Int) < 10 := by omega
      have c0 := (HX.out.2.2 k hlt).1
      have f0 := (HX.out.2.2 k hlt).2
      rw [HD.out k hlt, if_neg (by omega)] at c0
      have hix := HIX.out k hlt
      have b1 := HBB.out k hlt
      have b2 := HCB.out k hlt
      have HRS : Hid ((Hu.restR C us vs i).getD k 0 = (Hu.pad (C.getD i [])).getD k 0 - (Hu.bothR us vs i).getD k 0) := hide (by rw [Hu.restR, Hu.tab_get _ hlt])
      have HSET : Hid (∀ j, j < 10 → (zs.set k ((Hu.pad (C.getD i [])).getD k 0 - (Hu.bothR us vs i).getD k 0)).getD j 0 = if j < k + 1 then (Hu.restR C us vs i).getD j 0 else (Hu.pad (C.getD i [])).getD j 0) := hide fun j hj => by
        rw [Hu.set_get9 _ _ _ _ (by have := HX.out.1; omega)]
        by_cases e : j = k
        · subst e; rw [if_pos rfl, if_pos (by omega), HRS.out]
        · rw [if_neg e, HD.out j hj]
          by_cases q : j < k
          · rw [if_pos q, if_pos (by omega)]
          · rw [if_neg q, if_neg (by omega)]
      generalize (Hu.pad (C.getD i [])).getD k 0 = x at *
      generalize (Hu.bothR us vs i).getD k 0 = y at *
      have HST := hide (HX.out.set k (x - y) hlt)
      have HZT := hide (HZ.out.other (b' := R) (k := k) (v := .int .i64 (x - y)) (by omega))
      have HBT := hide (HB.out.setCell (p := ⟨R, k, none⟩) (by show w.heap.size ≤ R; omega) (.int .i64 (x - y)))
      go_wp2_with fail
      go_roundw
      case rel => exact ⟨k + 1, zs.set k (x - y), by go_num, by omega, HST, HZT, HSET, HBT⟩
      case measure => simp only [intOf]; omega
    · have hke : k = 10 := by omega
      subst hke
      have HE : Hid (zs = Hu.restR C us vs i) := hide (Hu.ext10 HX.out.1 (Hu.tab_len _ _) (fun j hj => by rw [HD.out j hj, if_pos hj]))
      rw [HE.out] at HX
      go_wp2_with (first | (refine wr_load rfl _ rfl rfl HX ?_) | (refine wr_store rfl _ _ rfl rfl rfl HZ (Hu.tab_len _ _) ?_; intro w5 A5 T5))
      exact bodyPost_ret (v := .agg (tv (Hu.restR C us vs i))) (res_row Try.results65 rfl A5) rfl ⟨rfl, HB.out.trans (T5.2.1 _ (by omega))⟩
end Go.Proofs.Ytcniegaogdggaaa
