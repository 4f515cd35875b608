/-
  What TightAt of the program and of the model answer.
-/
import Derived.Test.YtcniegaogdggaaaQu
import Derived.Test.YtcniegaogdggaaaQx
import Derived.Test.YtcniegaogdggaaaHv
namespace Go.Proofs.Ytcniegaogdggaaa
open Go.RowKit

theorem tightL_len (C : List (List Int)) (us vs : List Int) : (Hu.tightL C us vs).length = C.length := by simp [Hu.tightL]
theorem tightR_len (C : List (List Int)) (us vs : List Int) (i : Nat) : (Hu.tightR C us vs i).length = C.length := by simp [Hu.tightR]
theorem tightL_get (C : List (List Int)) (us vs : List Int) {i : Nat} (h : i < C.length) : (Hu.tightL C us vs).getD i [] = Hu.tightR C us vs i := by simp [Hu.tightL, h]
theorem tight_set (C : List (List Int)) (us vs : List Int) (i : Nat) (zs : List Bool) (k : Nat) (hz : zs.length = C.length) (hk : k < C.length) (h : zs.take k = (Hu.tightR C us vs i).take k) : (zs.set k (Hu.tightAt C us vs i k)).take (k + 1) = (Hu.tightR C us vs i).take (k + 1) := by
  apply List.ext_getElem
  · simp [hz, Hu.tightR]
  · intro j h1 h2
    simp at h1 h2
    simp only [List.getElem_take, List.getElem_set]
    by_cases e : k = j
    · subst e; simp [Hu.tightR]
    · simp only [e, if_false]
      have : (zs.take k)[j]? = ((Hu.tightR C us vs i).take k)[j]? := by rw [h]
      simp [show j < k by omega, show j < zs.length by omega, show j < (Hu.tightR C us vs i).length by rw [tightR_len]; omega] at this
      exact this
theorem tight_snoc (C : List (List Int)) (us vs : List Int) (i : Nat) {j : Nat} (hj : j < C.length) : (Hu.tightR C us vs i).take j ++ [Hu.tightAt C us vs i j] = (Hu.tightR C us vs i).take (j + 1) := by
  rw [List.take_add_one, List.getElem?_eq_getElem (by rw [tightR_len]; exact hj)]
  simp [Hu.tightR]
theorem tightL_snoc (C : List (List Int)) (us vs : List Int) {k : Nat} (hk : k < C.length) : (Hu.tightL C us vs).take k ++ [Hu.tightR C us vs k] = (Hu.tightL C us vs).take (k + 1) := by
  rw [List.take_add_one, List.getElem?_eq_getElem (by rw [tightL_len]; exact hk)]
  simp [Hu.tightL]
theorem bls_snoc (xs : List Bool) (x : Bool) : bls (xs ++ [x]) = bls xs ++ [.bool x] := by simp [bls]
theorem infoB : ∃ i, Try.prog.info? 4 = some i ∧ i.zero = some (.bool false) ∧ i.size = 1 ∧ i.bytes = 1 := by
  have h : (Try.prog.info? 4).map (fun i => (i.zero, i.size, i.bytes)) = some (some (.bool false), 1, 1) := by kernel_rfl
  obtain ⟨i, hi, hzz⟩ := Option.map_eq_some_iff.1 h
  simp only [Prod.mk.injEq] at hzz
  exact ⟨i, hi, hzz.1, hzz.2.1, hzz.2.2⟩
theorem infoBs : ∃ i, Try.prog.info? 71 = some i ∧ i.zero = some (.slice none 0 0) ∧ i.size = 1 ∧ i.bytes = 24 := by
  have h : (Try.prog.info? 71).map (fun i => (i.zero, i.size, i.bytes)) = some (some (.slice none 0 0), 1, 24) := by kernel_rfl
  obtain ⟨i, hi, hzz⟩ := Option.map_eq_some_iff.1 h
  simp only [Prod.mk.injEq] at hzz
  exact ⟨i, hi, hzz.1, hzz.2.1, hzz.2.2⟩
theorem makeGs_run (n : Nat) (hn : n ≤ 1048576) (w : World) : (Instr.makeSlice 48 (.int .i64 (n : Int)) (.int .i64 (n : Int))).run Try.prog w = .ok (.slice (some ⟨w.heap.size, 0, none⟩) n n) (w.alloc (.cells (madeCells #[.slice none 0 0] n) 71)) := by
  obtain ⟨i, hi, hz, hs, hb⟩ := infoBs
  have := run_make (P := Try.prog) w 48 71 i _ Try.underlying48 hi hz .i64 .i64 (n : Int) (n : Int) (by omega) (by omega) (by rw [hb]; omega) (by omega)
  simpa [hs, Value.cells] using this
theorem madeGs_own (w : World) (n : Nat) (hn : n ≤ 1048576) (gs : List Nat) (F : List (List Bool)) : (w.alloc (.cells (madeCells #[.slice none 0 0] n) 71)).ownsRow w.heap.size 71 1 (.slice (some ⟨w.heap.size, 0, none⟩) n n) n (gvals gs F 0 n) := by
  have h := World.ownsRow_lit (base := w.heap.size) (e := 71) (size := 1) w (madeCells #[.slice none 0 0] n) n (Nat.le_refl _) (by unfold maxLen; omega) (by simp [madeCells])
  rw [toList_madeCells_one] at h
  have e : gvals gs F 0 n = List.replicate n (.slice none 0 0) := by
    apply List.ext_getElem <;> simp [gvals]
  rw [e]
  simpa using h
set_option maxRecDepth 20000 in
set_option maxHeartbeats 8000000 in
theorem ta_yes {e a b : Option Addr} {l f c d : Nat} {C : List (List Int)} {us vs : List Int} {w : World} (hg : Hu.bothB C us vs = true) (hl : C.length = l) (hn : us.length = l) (hm : vs.length = l) (hc : CRow w e C) (ha : ARow w a us) (hb : ARow w b vs) :
    Calls Try.prog 33 #[.slice e l f, .agg #[.slice a l c, .slice b l d]] w fun e w' => ∃ B, e = .returned (.tuple #[.slice (some ⟨B, 0, none⟩) l l, .bool true]) ∧ w.heap.size ≤ B ∧ Below w.heap.size w w' ∧ GOw w' B w'.heap.size (Hu.tightL C us vs) := by
  obtain ⟨g1, g2, g3⟩ := Hu.bothB_yes hg
  obtain ⟨g4, g5, g6, g7⟩ := Hu.prB_yes g2
  have gl := Hu.costB_len g1
  rw [hl] at gl
  obtain ⟨l1, l10⟩ := gl
  have bn := below_new w (.cells #[.slice a l c, .slice b l d] 29)
  have HC := hide (hc.below bn)
  have HA := hide (ha.below bn)
  have HB := hide (hb.below bn)
  have HL := hide hl
  have HN := hide hn
  have HM := hide hm
  have HG := hide hg
  have HBP := hide fun (W : World) (i : Nat) (hi : i < l) (r1 : ARow W a us) (r2 : ARow W b vs) => bp_any (c := c) (d := d) hn hm l1 l10 hi g6 g7 r1 r2
  have HCL := hide fun (i : Nat) (hi : i < l) => (Hu.costB_row g1 (show i < C.length by rw [hl]; exact hi)).1.trans hl
  have HTL : Hid ((Hu.tightL C us vs).length = l) := hide (by rw [tightL_len, hl])
  have HTG := hide fun (i : Nat) (hi : i < l) => tightL_get C us vs (show i < C.length by rw [hl]; exact hi)
  have HTR := hide fun (i : Nat) => (tightR_len C us vs i).trans hl
  have HTS := hide fun (i : Nat) (zs : List Bool) (k : Nat) (hz : zs.length = l) (hk : k < l) => tight_set C us vs i zs k (by rw [hz, hl]) (by rw [hl]; exact hk)
  have HTA : Hid (∀ i, i < l → ∀ j, j < l → ((Hu.bothR us vs i).getD j 0 == (C.getD i []).getD j 0) = Hu.tightAt C us vs i j) := hide fun i hi j hj => by
    rw [Hu.bothR_get _ _ _ (by omega), Hu.bothAt, if_pos (by omega)]
    unfold Hu.tightAt Hu.ct
    by_cases h : vs.getD j 0 + us.getD i 0 = (C.getD i []).getD j 0
    · rw [decide_eq_true (show us.getD i 0 + vs.getD j 0 = (C.getD i []).getD j 0 by omega), beq_iff_eq.2 h]
    · rw [decide_eq_false (show ¬ us.getD i 0 + vs.getD j 0 = (C.getD i []).getD j 0 by omega), beq_eq_false_iff_ne.2 h]
  have hmk := makeGs_run l (by omega)
  have HMI := hide (makeB_run l (by omega))
  generalize Hu.tightL C us vs = F at *
  clear hc ha hb hl hn hm hg g1 g2 g3 g4 g5 g6 g7 bn
  go_enter Try.func33, Try.ntmps33
  go_wp2_with fail
  refine (bo_eq HL HN HM HC HA HB HG).mono ?_
  rintro e w1 ⟨rfl, hb1⟩
  have HB1 := hide ((below_new w (.cells #[.slice a l c, .slice b l d] 29)).trans (hb1.mono (by simp)))
  have HP1 := hide ((PBox.new w (.slice a l c) (.slice b l d) 29).below hb1)
  have HC1 := hide (HC.out.below hb1)
  have HA1 := hide (HA.out.below hb1)
  have HV1 := hide (HB.out.below hb1)
  clear hb1 HC HA HB
  have q2 := HP1.out.2.2
  have hz1 := HB1.out.size
  go_wp2_with fail
  clear hmk
  go_loopw [7, 8, 9, 10, 11, 21] (fun _ _ _ _ _ s wr => ∃ (k : Nat) (gs : List Nat), s = .int .i64 k ∧ k ≤ l ∧ Hid (GSo wr w1.heap.size w1.heap.size gs F k l) ∧ Hid (Below w1.heap.size w1 wr)) (fun _ _ _ _ _ s _ => l - (intOf s).toNat)
  case atStart => exact ⟨0, [], rfl, Nat.zero_le _, hide ⟨rfl, madeGs_own w1 l (by omega) [] _, fun i hi => absurd hi (Nat.not_lt_zero _), by simp, by simp⟩, hide (below_new _ _)⟩
  case round =>
    obtain ⟨k, gs, rfl, hk, HS, HBr⟩ := hrel
    by_cases hlt : k < l
    · obtain ⟨b1, off, ai, ci, rfl, hb, r0, R1⟩ := HC1.out.at (i := k) (by rw [HL.out]; exact hlt)
      have r1 := (HBr.out.cell (p := ⟨b1, off + k, none⟩) hb).trans r0
      have HR := hide R1
      have HCk := hide (HCL.out k hlt)
      rw [HCL.out k hlt] at r1
      obtain ⟨p0, p1, p2⟩ := HP1.out.below HBr.out
      have HTk := hide (HTG.out k hlt)
      have HTAk := hide (HTA.out k hlt)
      have j0 : (0 : Int) ≤ (k : Int) := by omega
      have j1 : (k : Int) < (l : Int) := by omega
      clear R1 r0
      go_wp2_with fail
      refine (HBP.out _ k hlt (HA1.out.below HBr.out) (HV1.out.below HBr.out)).mono ?_
      rintro e w2 ⟨rfl, hb2⟩
      have HB2 := hide hb2
      clear hb2
      go_wp2_with (refine wr_store rfl _ _ rfl rfl rfl (hide (z10_new _ _)) (Hu.bothR_len _ _ _) ?_; intro w3 A3 T3; have hb3 := (below_new w2 _).trans (T3.2.1 _ (Nat.le_refl _)); clear T3; have HS3 := HS.out.below (below_in HB2.out hb3); have oB := HS3.2.1; obtain ⟨hB0, hB1⟩ := oB.lt _ rfl; have c0 : w3.cell? ⟨w1.heap.size, k, none⟩ = some (.slice none 0 0) := (by rw [oB.cellAt k (by omega)]; simp [gvals, hlt]); have f0 := oB.frozenAt k; have ca : ∀ o, (w3.alloc o).cell? ⟨w1.heap.size, k, none⟩ = some (.slice none 0 0) := (fun o => ((below_new w3 o).cell (p := ⟨w1.heap.size, k, none⟩) hB1).trans c0); have fa : ∀ o, (w3.alloc o).frozen? ⟨w1.heap.size, k, none⟩ = false := (fun o => ((below_new w3 o).frozen (p := ⟨w1.heap.size, k, none⟩) hB1).trans f0); have hmk2 := HMI.out; clear oB)
      have HE3 := hide (World.setCell_alloc_past (w := w3) (.cells (madeCells #[.bool false] l) 4) w1.heap.size k (.slice (some ⟨w3.heap.size, 0, none⟩) l l) hB1)
      have own4 := madeB_own (w3.setCell ⟨w1.heap.size, k, none⟩ (.slice (some ⟨w3.heap.size, 0, none⟩) l l)) l (by omega)
      have d0 : ((w3.setCell ⟨w1.heap.size, k, none⟩ (.slice (some ⟨w3.heap.size, 0, none⟩) l l)).alloc (.cells (madeCells #[.bool false] l) 4)).cell? ⟨w1.heap.size, k, none⟩ = some (.slice (some ⟨w3.heap.size, 0, none⟩) l l) := ((below_new _ _).cell (p := ⟨w1.heap.size, k, none⟩) (by simpa using hB1)).trans (World.cell?_setCell_same _ _ _ c0)
      have HBw3 := hide (HBr.out.trans ((below_in HB2.out hb3).mono HBr.out.size))
      have HB4 := hide ((HBw3.out.setCell (p := ⟨w1.heap.size, k, none⟩) (Nat.le_refl _) (.slice (some ⟨w3.heap.size, 0, none⟩) l l)).trans ((below_new (w3.setCell ⟨w1.heap.size, k, none⟩ (.slice (some ⟨w3.heap.size, 0, none⟩) l l)) (.cells (madeCells #[.bool false] l) 4)).mono (by simpa using HBw3.out.size)))
      have hz3 := A3.2.1
      have hzb := HBr.out.size
      have hzc := HB2.out.size
      have A4 := (A3.other (b' := w1.heap.size) (k := k) (v := .slice (some ⟨w3.heap.size, 0, none⟩) l l) (by have := (HS.out.2.1.lt w1.heap.size rfl).2; omega)).below (below_new _ (.cells (madeCells #[.bool false] l) 4))
      rw [World.size_setCell] at own4
      obtain ⟨w4, hw4⟩ : ∃ w4, w4 = (w3.setCell ⟨w1.heap.size, k, none⟩ (.slice (some ⟨w3.heap.size, 0, none⟩) l l)).alloc (.cells (madeCells #[.bool false] l) 4) := ⟨_, rfl⟩
      rw [← hw4] at own4 d0 HB4 HE3 A4 ⊢
      have hz4 : w3.heap.size < w4.heap.size := (own4.lt _ rfl).2
      obtain ⟨X, hX⟩ : ∃ X, X = w3.heap.size := ⟨_, rfl⟩
      obtain ⟨R, hR⟩ : ∃ R, R = w2.heap.size := ⟨_, rfl⟩
      rw [← hX] at own4 d0 HE3 hz4 hB1 hz3 ⊢
      rw [← hR] at A4 hz3 ⊢
      have HO4 := hide (owns_low own4 (show w1.heap.size ≤ X by omega))
      have HA4 := hide A4
      have HXe := hide hX
      have HS3' := hide HS3
      clear own4 hw4 hmk2 ca fa c0 f0 hX hR A3 A4 HS3 hb3
      go_loopw [10, 11, 37] (fun _ _ s wi => ∃ (j : Nat) (zs : List Bool), s = .int .i64 j ∧ j ≤ l ∧ zs.length = l ∧ Hid (zs.take j = (Hu.tightR C us vs k).take j) ∧ Hid (wi.ownsRow w1.heap.size 4 1 (.slice (some ⟨X, 0, none⟩) l l) l (bls zs)) ∧ Hid (w4.grownBy wi (some X)) ∧ Hid (Below w1.heap.size w1 wi)) (fun _ _ s _ => l - (intOf s).toNat)
      case atStart => exact ⟨0, List.replicate l false, rfl, Nat.zero_le _, by simp, hide (by simp), HO4, hide (World.grownBy.refl _ _), HB4⟩
      case round =>
        clear HO4 HB4
        obtain ⟨j, zs, rfl, hj, hzl, HT, HO, HGr, HBi⟩ := hrel
        by_cases hjl : j < l
        · obtain ⟨b2, o2, rfl, hb2, hr2⟩ := HR.out.resolve_left (by intro e; have := HCk.out; rw [e] at this; simp at this; omega)
          have r2 := (HBi.out.cell (p := ⟨b2, o2 + j, none⟩) hb2).trans (hr2 j (by rw [HCk.out]; exact hjl))
          have t0 : (0 : Int) ≤ (j : Int) := by omega
          have t1 : (j : Int) < (l : Int) := by omega
          have t2 : (j : Int) < 10 := by omega
          have d1 : wr.cell? ⟨w1.heap.size, k, none⟩ = some (.slice (some ⟨X, 0, none⟩) l l) := (World.cell?_of_block (w := w4) (a := ⟨w1.heap.size, k, none⟩) (HGr.out.block w1.heap.size (by omega) (by simp; omega))).trans d0
          have a1 : wr.cell? ⟨R, j, none⟩ = some (.int .i64 ((Hu.bothR us vs k).getD j 0)) := (World.cell?_of_block (w := w4) (a := ⟨R, j, none⟩) (HGr.out.block R (by omega) (by simp; omega))).trans (HA4.out.2.2 j (by omega)).1
          have c3 : wr.cell? ⟨X, j, none⟩ = some (.bool (zs.getD j false)) := by rw [HO.out.cellAt j (by omega), bls_get zs j (by omega) false]
          have f3 := HO.out.frozenAt j
          have HSET := hide (HTS.out k zs j hzl hjl HT.out)
          rw [← HTAk.out j hjl] at HSET
          generalize (C.getD k []).getD j 0 = x at *
          generalize (Hu.bothR us vs k).getD j 0 = y at *
          obtain ⟨st1, st2⟩ := HO.out.stored j (.bool (y == x))
          rw [bls_set] at st1
          have HST := hide st1
          have HG2 : Hid (w4.grownBy (wr.setCell ⟨X, j, none⟩ (.bool (y == x))) (some X)) := hide ⟨st2.os.trans HGr.out.os, st2.tape.trans HGr.out.tape, st2.output.trans HGr.out.output, Nat.le_trans HGr.out.size st2.size, fun b hb hne => (st2.block b (Nat.lt_of_lt_of_le hb HGr.out.size) hne).trans (HGr.out.block b hb hne)⟩
          have HB5 := hide (HBi.out.setCell (p := ⟨X, j, none⟩) (by show w1.heap.size ≤ X; omega) (.bool (y == x)))
          clear hr2 st1 st2
          generalize zs.getD j false = z at c3
          go_wp2_with fail
          go_region
          go_wp2_with fail
          go_roundw
          case rel => exact ⟨j + 1, zs.set j (y == x), by go_num, by omega, by simpa using hzl, HSET, HST, hide ⟨HG2.out.os, HG2.out.tape, HG2.out.output, HG2.out.size, HG2.out.block⟩, hide HB5.out.drew⟩
          case measure => simp only [intOf]; omega
        · have hje : j = l := by omega
          subst hje
          have HE : Hid (zs = F.getD k []) := hide (by
            have := HT.out
            rw [HTk.out]
            rwa [List.take_of_length_le (by omega), List.take_of_length_le (by rw [HTR.out]; omega)] at this)
          have HS2 := hide (HS3'.out.fill (w2 := _) (w4 := wr) (g := X) (n := j) (below_new _ (.cells (madeCells #[.bool false] j) 4)) (by rw [HXe.out]; exact Nat.le_refl _) (by rw [HE3.out]; exact HGr.out) (by rw [← HE.out]; exact HO.out) (by rw [← HE.out]; exact hzl))
          go_wp2_with fail
          go_roundw
          case rel => exact ⟨k + 1, gs ++ [X], by go_num, by omega, HS2, HBi⟩
          case measure => simp only [intOf]; omega
    · have hke : k = l := by omega
      subst hke
      have HO : Hid (GOw wr w1.heap.size wr.heap.size F) := hide ⟨Nat.le_refl _, (HS.out.2.1.lt _ rfl).2, gs, fun g hg => (HS.out.lt hg).2, by rw [HTL.out]; exact HS.out⟩
      have HBe := hide (HB1.out.trans (HBr.out.mono HB1.out.size))
      go_wp2_with fail
      go_ret2
      exact ⟨w1.heap.size, rfl, hz1, HBe.out, HO.out⟩
set_option maxHeartbeats 2000000 in
theorem ta_no {e a b : Option Addr} {l n m f c d : Nat} {C : List (List Int)} {us vs : List Int} {w : World} (hg : Hu.bothB C us vs = false) (hl : C.length = l) (hn : us.length = n) (hm : vs.length = m) (hc : CRow w e C) (ha : ARow w a us) (hb : ARow w b vs) :
    Calls Try.prog 33 #[.slice e l f, .agg #[.slice a n c, .slice b m d]] w fun e w' => e = .returned (.tuple #[.slice none 0 0, .bool false]) ∧ Below w.heap.size w w' := by
  have bn := below_new w (.cells #[.slice a n c, .slice b m d] 29)
  have HC := hide (hc.below bn)
  have HA := hide (ha.below bn)
  have HB := hide (hb.below bn)
  have HL := hide hl
  have HN := hide hn
  have HM := hide hm
  have HG := hide hg
  clear hc ha hb hl hn hm hg bn
  go_enter Try.func33, Try.ntmps33
  go_wp2_with fail
  refine (bo_eq HL HN HM HC HA HB HG).mono ?_
  rintro e w1 ⟨rfl, hb1⟩
  have HB1 := hide ((below_new w (.cells #[.slice a n c, .slice b m d] 29)).trans (hb1.mono (by simp)))
  clear hb1 HC HA HB
  go_wp2_with fail
  go_ret2
  exact ⟨rfl, HB1.out⟩
end Go.Proofs.Ytcniegaogdggaaa
