/-
  What slices.Min and ReduceRows of the program and ReduceRows of the model answer.
-/
import Derived.Test.YtcniegaogdggaabQa2
import Derived.Test.YtcniegaogdggaabQw
import Derived.Test.YtcniegaogdggaabQb
import Derived.Test.YtcniegaogdggaabHv
namespace Go.Proofs.Ytcniegaogdggaab
open Go.RowKit

theorem least_step (r : List Int) (k : Nat) : min (Hu.leastTo r k) (r.getD k 0) = Hu.leastTo r (k + 1) := by
  rw [Hu.leastTo]
  split <;> omega
theorem least_one (r : List Int) : Hu.leastTo r 1 = r.getD 0 0 := by simp [Hu.leastTo]
theorem redR_set (r zs : List Int) (k : Nat) (hz : zs.length = r.length) (hk : k < r.length) (h : zs.take k = (Hu.redR r).take k) : (zs.set k (r.getD k 0 - Hu.lst r)).take (k + 1) = (Hu.redR r).take (k + 1) := by
  apply List.ext_getElem
  · simp [hz, Hu.redR]
  · intro i h1 h2
    simp at h1 h2
    simp only [List.getElem_take, List.getElem_set]
    by_cases e : k = i
    · subst e; simp [Hu.redR, hk]
    · simp only [e, if_false]
      have : (zs.take k)[i]? = ((Hu.redR r).take k)[i]? := by rw [h]
      simp [show i < k by omega, show i < zs.length by omega, show i < (Hu.redR r).length by rw [Hu.redR_len]; omega] at this
      exact this
set_option maxHeartbeats 1000000 in
theorem min_any {a : Option Addr} {n c : Nat} {r : List Int} {w : World} (hn : r.length = n) (h1 : 1 ≤ n) (h10 : n ≤ 10) (ha : ARow w a r) :
    Calls Try.prog 15 #[.slice a n c] w fun e w' => e = .returned (.int .i64 (Hu.lst r)) ∧ w' = w := by
  obtain ⟨b0, o0, rfl, r0⟩ := ha.at (i := 0) (by omega)
  have HA := hide ha
  have HN := hide hn
  have HS := hide (least_step r)
  have H1 := hide (least_one r)
  have HE : Hid (Hu.leastTo r n = Hu.lst r) := hide (by rw [Hu.lst, hn])
  have i0 : ¬ (n : Int) < 1 := by omega
  have i1 : (0 : Int) < (n : Int) := by omega
  rw [← H1.out, Nat.add_zero] at r0
  clear ha hn
  go_enter Try.func15, Try.ntmps15
  go_wp2_with fail
  go_loop [3, 4] (fun s3 s => ∃ (k : Nat) (x : Int), s = .int .i64 k ∧ s3 = .int .i64 x ∧ 1 ≤ k ∧ k ≤ n ∧ Hid (x = Hu.leastTo r k)) (fun _ s => n - (intOf s).toNat)
  case atStart => exact ⟨1, _, rfl, rfl, Nat.le_refl _, h1, hide rfl⟩
  case round =>
    obtain ⟨k, x, rfl, rfl, k1, hk, HX⟩ := hrel
    by_cases hlt : k < n
    · obtain ⟨b, off, e0, r1⟩ := HA.out.at (i := k) (by rw [HN.out]; exact hlt)
      cases e0
      have j0 : (0 : Int) ≤ (k : Int) := by omega
      have j1 : (k : Int) < (n : Int) := by omega
      have HX1 : Hid (min x (r.getD k 0) = Hu.leastTo r (k + 1)) := hide (by rw [HX.out]; exact HS.out k)
      generalize r.getD k 0 = y at *
      go_wp2_with fail
      go_round
      case rel => exact ⟨k + 1, min x y, by go_num, by go_num, by omega, by omega, HX1⟩
      case measure => simp only [intOf]; omega
    · have hke : k = n := by omega
      subst hke
      go_wp2_with fail
      go_ret
      exact ⟨ret_int (HX.out.trans HE.out), rfl⟩
set_option maxRecDepth 20000 in
set_option maxHeartbeats 8000000 in
theorem rr_yes {a : Option Addr} {l c : Nat} {C : List (List Int)} {w : World} (hg : Hu.costB C = true) (hl : C.length = l) (hc : CRow w a C) :
    Calls Try.prog 7 #[.slice a l c] w fun e w' => e = .returned (.tuple #[.slice (some ⟨w.heap.size, 0, none⟩) l l, .bool true]) ∧ Below w.heap.size w w' ∧ COw w' w.heap.size w'.heap.size (Hu.redL C) := by
  have gl := Hu.costB_len hg
  rw [hl] at gl
  obtain ⟨l1, l10⟩ := gl
  have HC := hide hc
  have HL := hide hl
  have HG := hide hg
  have HCL := hide fun (i : Nat) (hi : i < l) => (Hu.costB_row hg (show i < C.length by rw [hl]; exact hi)).1.trans hl
  have HCA := hide fun (i : Nat) (hi : i < l) => (Hu.costB_row hg (show i < C.length by rw [hl]; exact hi)).2
  have HRL : Hid ((Hu.redL C).length = l) := hide (by rw [Hu.redL_len, hl])
  have HRG := hide fun (i : Nat) (hi : i < l) => Hu.redL_get C (show i < C.length by rw [hl]; exact hi)
  have hmk := makeC2_run l (by omega)
  have HMI := hide (makeI_run l (by omega))
  clear hc hl hg
  go_enter Try.func7, Try.ntmps7
  go_wp2_with fail
  refine (gc_eq HL HC HG).mono ?_
  rintro e w1 ⟨rfl, hw1⟩
  obtain rfl : w = w1 := hw1.symm
  go_wp2_with fail
  clear hmk
  go_loopw [5, 6, 7, 8, 9, 18] (fun _ _ _ _ _ s wr => ∃ (k : Nat) (gs : List Nat), s = .int .i64 k ∧ k ≤ l ∧ Hid (CSo wr w.heap.size w.heap.size gs (Hu.redL C) k l) ∧ Hid (Below w.heap.size w wr)) (fun _ _ _ _ _ s _ => l - (intOf s).toNat)
  case atStart => exact ⟨0, [], rfl, Nat.zero_le _, hide ⟨rfl, madeC2_own w l (by omega) [] _, fun i hi => absurd hi (Nat.not_lt_zero _), by simp, by simp⟩, hide (below_new _ _)⟩
  case round =>
    obtain ⟨k, gs, rfl, hk, HS, HB⟩ := hrel
    by_cases hlt : k < l
    · obtain ⟨b, off, ai, ci, rfl, hb, r0, R1⟩ := HC.out.at (i := k) (by rw [HL.out]; exact hlt)
      have r1 := (HB.out.cell (p := ⟨b, off + k, none⟩) hb).trans r0
      have HR := hide R1
      have HCk := hide (HCL.out k hlt)
      rw [HCL.out k hlt] at r1
      obtain ⟨Z, hZ⟩ : ∃ Z, Z = Hu.lst (C.getD k []) := ⟨_, rfl⟩
      have HMIN := hide (min_any (w := wr) (c := ci) HCk.out l1 l10 (R1.below HB.out))
      have bz := Hu.lst_bd (HCA.out k hlt) (by rw [HCk.out]; exact l1)
      rw [← hZ] at bz HMIN
      have HZ := hide hZ
      clear hZ r0
      have HAL := hide (HCA.out k hlt)
      have HRk := hide (HRG.out k hlt)
      have j0 : (0 : Int) ≤ (k : Int) := by omega
      have j1 : (k : Int) < (l : Int) := by omega
      have oB := HS.out.2.1
      obtain ⟨hB0, hB1⟩ := oB.lt _ rfl
      have c0 : wr.cell? ⟨w.heap.size, k, none⟩ = some (.slice none 0 0) := by
        rw [oB.cellAt k (by omega)]; simp [cvals, hlt]
      have f0 := oB.frozenAt k
      have ca : ∀ o, (wr.alloc o).cell? ⟨w.heap.size, k, none⟩ = some (.slice none 0 0) := fun o => ((below_new wr o).cell (p := ⟨w.heap.size, k, none⟩) hB1).trans c0
      have fa : ∀ o, (wr.alloc o).frozen? ⟨w.heap.size, k, none⟩ = false := fun o => ((below_new wr o).frozen (p := ⟨w.heap.size, k, none⟩) hB1).trans f0
      have hmk2 := HMI.out
      clear R1 oB
      go_wp2_with fail
      refine HMIN.out.mono ?_
      rintro e w2 ⟨rfl, hw2⟩
      obtain rfl : wr = w2 := hw2.symm
      go_wp2_with fail
      have HE3 := hide (World.setCell_alloc_past (w := wr) (.cells (madeCells #[.int .i64 0] l) 3) w.heap.size k (.slice (some ⟨wr.heap.size, 0, none⟩) l l) hB1)
      have own3 := made_own (wr.setCell ⟨w.heap.size, k, none⟩ (.slice (some ⟨wr.heap.size, 0, none⟩) l l)) l (by omega)
      have d0 : ((wr.setCell ⟨w.heap.size, k, none⟩ (.slice (some ⟨wr.heap.size, 0, none⟩) l l)).alloc (.cells (madeCells #[.int .i64 0] l) 3)).cell? ⟨w.heap.size, k, none⟩ = some (.slice (some ⟨wr.heap.size, 0, none⟩) l l) := ((below_new _ _).cell (p := ⟨w.heap.size, k, none⟩) (by simpa using hB1)).trans (World.cell?_setCell_same _ _ _ c0)
      have HB3 := hide ((HB.out.setCell (p := ⟨w.heap.size, k, none⟩) (Nat.le_refl _) (.slice (some ⟨wr.heap.size, 0, none⟩) l l)).trans ((below_new (wr.setCell ⟨w.heap.size, k, none⟩ (.slice (some ⟨wr.heap.size, 0, none⟩) l l)) (.cells (madeCells #[.int .i64 0] l) 3)).mono (by simpa using HB.out.size)))
      have hRs : w.heap.size < wr.heap.size := hB1
      rw [World.size_setCell] at own3
      obtain ⟨w3, hw3⟩ : ∃ w3, w3 = (wr.setCell ⟨w.heap.size, k, none⟩ (.slice (some ⟨wr.heap.size, 0, none⟩) l l)).alloc (.cells (madeCells #[.int .i64 0] l) 3) := ⟨_, rfl⟩
      rw [← hw3] at own3 d0 HB3 HE3 ⊢
      have hz3 : wr.heap.size < w3.heap.size := (own3.lt _ rfl).2
      obtain ⟨X, hX⟩ : ∃ X, X = wr.heap.size := ⟨_, rfl⟩
      rw [← hX] at own3 d0 HE3 hz3 ⊢
      have HO3 := hide (owns_low own3 (show w.heap.size ≤ X by omega))
      have HXe := hide hX
      have hwX : w.heap.size < X := by omega
      clear own3 hw3 hmk2 ca fa c0 f0 hX hRs
      go_loopw [8, 9, 33] (fun _ _ s wi => ∃ (j : Nat) (zs : List Int), s = .int .i64 j ∧ j ≤ l ∧ zs.length = l ∧ Hid (zs.take j = (Hu.redR (C.getD k [])).take j) ∧ Hid (wi.ownsRow w.heap.size 3 1 (.slice (some ⟨X, 0, none⟩) l l) l (ints zs)) ∧ Hid (w3.grownBy wi (some X)) ∧ Hid (Below w.heap.size w wi)) (fun _ _ s _ => l - (intOf s).toNat)
      case atStart => exact ⟨0, List.replicate l 0, rfl, Nat.zero_le _, by simp, hide (by simp), HO3, hide (World.grownBy.refl _ _), HB3⟩
      case round =>
        clear HO3 HB3
        obtain ⟨j, zs, rfl, hj, hzl, HT, HO, HGr, HBi⟩ := hrel
        by_cases hjl : j < l
        · obtain ⟨b2, o2, rfl, hb2, hr2⟩ := HR.out.resolve_left (by intro e; have := HCk.out; rw [e] at this; simp at this; omega)
          have r2 := (HBi.out.cell (p := ⟨b2, o2 + j, none⟩) hb2).trans (hr2 j (by rw [HCk.out]; exact hjl))
          have t0 : (0 : Int) ≤ (j : Int) := by omega
          have t1 : (j : Int) < (l : Int) := by omega
          have d1 : wr.cell? ⟨w.heap.size, k, none⟩ = some (.slice (some ⟨X, 0, none⟩) l l) := (World.cell?_of_block (w := w3) (a := ⟨w.heap.size, k, none⟩) (HGr.out.block w.heap.size (by omega) (by simp; omega))).trans d0
          have c3 : wr.cell? ⟨X, j, none⟩ = some (.int .i64 (zs.getD j 0)) := by rw [HO.out.cellAt j (by omega), ints_get zs j (by omega)]
          have f3 := HO.out.frozenAt j
          have HSET := hide (redR_set (C.getD k []) zs j (by rw [hzl, HCk.out]) (by rw [HCk.out]; exact hjl) HT.out)
          rw [← HZ.out] at HSET
          have bx := Pf.inB_yes (Pf.allB_get HAL.out (show j < (C.getD k []).length by rw [HCk.out]; exact hjl))
          generalize (C.getD k []).getD j 0 = x at *
          obtain ⟨st1, st2⟩ := HO.out.stored j (.int .i64 (x - Z))
          rw [ints_set] at st1
          have HST := hide st1
          have HG2 : Hid (w3.grownBy (wr.setCell ⟨X, j, none⟩ (.int .i64 (x - Z))) (some X)) := hide ⟨st2.os.trans HGr.out.os, st2.tape.trans HGr.out.tape, st2.output.trans HGr.out.output, Nat.le_trans HGr.out.size st2.size, fun b hb hne => (st2.block b (Nat.lt_of_lt_of_le hb HGr.out.size) hne).trans (HGr.out.block b hb hne)⟩
          have HB2 := hide (HBi.out.setCell (p := ⟨X, j, none⟩) (by show w.heap.size ≤ X; omega) (.int .i64 (x - Z)))
          clear hr2 st1 st2
          generalize zs.getD j 0 = y at c3
          go_wp2_with fail
          go_roundw
          case rel => exact ⟨j + 1, zs.set j (x - Z), by go_num, by omega, by simpa using hzl, HSET, HST, HG2, HB2⟩
          case measure => simp only [intOf]; omega
        · have hje : j = l := by omega
          subst hje
          have HE : Hid (zs = (Hu.redL C).getD k []) := hide (by
            have := HT.out
            rw [HRk.out]
            rwa [List.take_of_length_le (by omega), List.take_of_length_le (by rw [Hu.redR_len, HCk.out]; omega)] at this)
          have HS2 := hide (HS.out.fill (w2 := _) (w4 := wr) (g := X) (n := j) (below_new _ (.cells (madeCells #[.int .i64 0] j) 3)) (by rw [HXe.out]; exact Nat.le_refl _) (by rw [HE3.out]; exact HGr.out) (by rw [← HE.out]; exact HO.out) (by rw [← HE.out]; exact hzl))
          go_wp2_with fail
          go_roundw
          case rel => exact ⟨k + 1, gs ++ [X], by go_num, by omega, HS2, HBi⟩
          case measure => simp only [intOf]; omega
    · have hke : k = l := by omega
      subst hke
      have HO : Hid (COw wr w.heap.size wr.heap.size (Hu.redL C)) := hide ⟨Nat.le_refl _, (HS.out.2.1.lt _ rfl).2, gs, fun g hg => (HS.out.lt hg).2, by rw [HRL.out]; exact HS.out⟩
      go_wp2_with fail
      go_ret2
      exact ⟨rfl, HB.out, HO.out⟩
theorem infoIs : ∃ i, Try.prog.info? 30 = some i ∧ i.zero = some (.slice none 0 0) ∧ i.size = 1 ∧ i.bytes = 24 := by
  have h : (Try.prog.info? 30).map (fun i => (i.zero, i.size, i.bytes)) = some (some (.slice none 0 0), 1, 24) := by kernel_rfl
  obtain ⟨i, hi, hzz⟩ := Option.map_eq_some_iff.1 h
  simp only [Prod.mk.injEq] at hzz
  exact ⟨i, hi, hzz.1, hzz.2.1, hzz.2.2⟩
theorem redR_snoc (r : List Int) {j : Nat} (hj : j < r.length) : (Hu.redR r).take j ++ [r.getD j 0 - Hu.lst r] = (Hu.redR r).take (j + 1) := by
  rw [List.take_add_one, List.getElem?_eq_getElem (by rw [Hu.redR_len]; exact hj)]
  simp [Hu.redR, hj]
theorem redL_snoc (C : List (List Int)) {k : Nat} (hk : k < C.length) : (Hu.redL C).take k ++ [Hu.redR (C.getD k [])] = (Hu.redL C).take (k + 1) := by
  rw [List.take_add_one, List.getElem?_eq_getElem (by rw [Hu.redL_len]; exact hk)]
  simp [Hu.redL, hk]
set_option maxRecDepth 20000 in
set_option maxHeartbeats 8000000 in
theorem srr_yes {a : Option Addr} {l c : Nat} {C : List (List Int)} {w : World} (hg : Hu.costB C = true) (hl : C.length = l) (hc : CRow w a C) :
    Calls Try.prog 5 #[.slice a l c] w fun e w' => ∃ G D, e = .returned (.tuple #[.slice (some ⟨G, 0, none⟩) l D, .bool true]) ∧ Below w.heap.size w w' ∧ CRow w' (some ⟨G, 0, none⟩) (Hu.redL C) := by
  have gl := Hu.costB_len hg
  rw [hl] at gl
  obtain ⟨l1, l10⟩ := gl
  have HC := hide hc
  have HL := hide hl
  have HG := hide hg
  have HCL := hide fun (i : Nat) (hi : i < l) => (Hu.costB_row hg (show i < C.length by rw [hl]; exact hi)).1.trans hl
  have HCA := hide fun (i : Nat) (hi : i < l) => (Hu.costB_row hg (show i < C.length by rw [hl]; exact hi)).2
  have HRL : Hid ((Hu.redL C).length = l) := hide (by rw [Hu.redL_len, hl])
  clear hc hl hg
  go_enter Try.func5, Try.ntmps5
  go_wp2_with fail
  refine (sgc_eq HL (by omega) HC HG).mono ?_
  rintro e w1 ⟨rfl, hw1⟩
  obtain rfl : w = w1 := hw1.symm
  go_wp2_with fail
  go_loopw [4, 6, 7, 9, 10, 12, 18] (fun v _ _ _ _ _ s wr => ∃ (k : Nat) (gs : List (Nat × Nat)), s = .int .i64 k ∧ k ≤ l ∧ Hid (NOw9 wr w.heap.size l k v gs ((Hu.redL C).take k)) ∧ Hid (k = 0 ∨ ∃ G D, v = .slice (some ⟨G, 0, none⟩) k D) ∧ Hid (Below w.heap.size w wr)) (fun _ _ _ _ _ _ s _ => l - (intOf s).toNat)
  case atStart => exact ⟨0, [], rfl, Nat.zero_le _, hide (NOw9.nil _ _ _), hide (Or.inl rfl), hide (Below.refl _ _)⟩
  case round =>
    obtain ⟨k, gs, rfl, hk, HS, HV, HB⟩ := hrel
    by_cases hlt : k < l
    · obtain ⟨b, off, ai, ci, rfl, hb, r0, R1⟩ := HC.out.at (i := k) (by rw [HL.out]; exact hlt)
      have r1 := (HB.out.cell (p := ⟨b, off + k, none⟩) hb).trans r0
      have HCk := hide (HCL.out k hlt)
      rw [HCL.out k hlt] at r1
      obtain ⟨b2, o2, rfl, hb2, hr2⟩ := R1.resolve_left (by intro e; have := HCk.out; rw [e] at this; simp at this; omega)
      have HR2 := hide hr2
      have bz := hide (Hu.lst_bd (HCA.out k hlt) (by rw [HCk.out]; exact l1))
      have HAL := hide (HCA.out k hlt)
      have HSN := hide (redL_snoc C (show k < C.length by rw [HL.out]; exact hlt))
      have j0 : (0 : Int) ≤ (k : Int) := by omega
      have j1 : (k : Int) < (l : Int) := by omega
      have j2 : (0 : Int) < (l : Int) := by omega
      have x0 := (HB.out.cell (p := ⟨b2, o2 + 0, none⟩) hb2).trans (hr2 0 (by rw [HCk.out]; exact l1))
      rw [Nat.add_zero] at x0
      have HX0 : Hid ((C.getD k []).getD 0 0 = Hu.leastTo (C.getD k []) 0) := hide rfl
      have HLS := hide (least_step (C.getD k []))
      have HLE : Hid (Hu.leastTo (C.getD k []) l = Hu.lst (C.getD k [])) := hide (by rw [Hu.lst, HCk.out])
      generalize C.getD k [] = r at *
      generalize r.getD 0 0 = y0 at x0 HX0
      clear R1 r0 hr2
      go_wp2_with fail
      go_loop [7, 9, 27] (fun s7 _ s => ∃ (j : Nat) (y : Int), s = .int .i64 j ∧ s7 = .int .i64 y ∧ j ≤ l ∧ Hid (y = Hu.leastTo r j)) (fun _ _ s => l - (intOf s).toNat)
      case atStart => exact ⟨0, y0, rfl, rfl, Nat.zero_le _, HX0⟩
      case round =>
        obtain ⟨j, y, rfl, rfl, hj, HY⟩ := hrel
        by_cases hjl : j < l
        · have r2 := (HB.out.cell (p := ⟨b2, o2 + j, none⟩) hb2).trans (HR2.out j (by rw [HCk.out]; exact hjl))
          have t0 : (0 : Int) ≤ (j : Int) := by omega
          have t1 : (j : Int) < (l : Int) := by omega
          have HY1 : Hid (min y (r.getD j 0) = Hu.leastTo r (j + 1)) := hide (by rw [HY.out]; exact HLS.out j)
          generalize r.getD j 0 = x at *
          by_cases hxy : x < y
          · have HY2 : Hid (x = Hu.leastTo r (j + 1)) := hide (by rw [← HY1.out]; omega)
            clear HY1
            go_wp2_with fail
            go_round
            case rel => exact ⟨j + 1, x, by go_num, rfl, by omega, HY2⟩
            case measure => simp only [intOf]; omega
          · have HY2 : Hid (y = Hu.leastTo r (j + 1)) := hide (by rw [← HY1.out]; omega)
            clear HY1
            go_wp2_with fail
            go_round
            case rel => exact ⟨j + 1, y, by go_num, rfl, by omega, HY2⟩
            case measure => simp only [intOf]; omega
        · have hje : j = l := by omega
          subst hje
          have HZ := hide (HY.out.trans HLE.out)
          have bz2 := bz.out
          rw [← HZ.out] at bz2
          have HSN9 := hide fun (t : Nat) (ht : t < j) => redR_snoc r (show t < r.length by rw [HCk.out]; exact ht)
          have hwrs := HB.out.size
          go_wp2_with fail
          go_loopw [10, 12, 38] (fun v _ s wi => ∃ (t : Nat), s = .int .i64 t ∧ t ≤ j ∧ Hid (wi.ownsRow wr.heap.size 3 1 v t (ints ((Hu.redR r).take t))) ∧ Hid (t = 0 ∨ ∃ g cap, v = .slice (some ⟨g, 0, none⟩) t cap) ∧ Hid (Below wr.heap.size wr wi)) (fun _ _ s _ => j - (intOf s).toNat)
          case atStart => exact ⟨0, rfl, Nat.zero_le _, hide (World.ownsRow_nil _ _ _ _), hide (Or.inl rfl), hide (Below.refl _ _)⟩
          case round =>
            obtain ⟨t, rfl, ht, HO, HF, HBi⟩ := hrel
            by_cases htl : t < j
            · have r2 := (HBi.out.cell (p := ⟨b2, o2 + t, none⟩) (by show b2 < _; omega)).trans ((HB.out.cell (p := ⟨b2, o2 + t, none⟩) hb2).trans (HR2.out t (by rw [HCk.out]; exact htl)))
              have t0 : (0 : Int) ≤ (t : Int) := by omega
              have t1 : (t : Int) < (j : Int) := by omega
              have bx := Pf.inB_yes (Pf.allB_get HAL.out (show t < r.length by rw [HCk.out]; exact htl))
              have HS9 := hide (HSN9.out t htl)
              rw [← HZ.out] at HS9
              generalize r.getD t 0 = x at *
              obtain ⟨g3, cap3, w3, hr3, own3, hg3, _⟩ := push_9 (t := 30) (x := .int .i64 (x - y)) Try.underlying30 infoI rfl rfl (by decide) HO.out (by omega) HBi.out.size
              have HO3 : Hid (w3.ownsRow _ 3 1 (.slice (some ⟨g3, 0, none⟩) (t + 1) cap3) (t + 1) (ints ((Hu.redR r).take (t + 1)))) := hide (by rw [← HS9.out, ints_snoc]; exact own3)
              have HB3 := hide (HBi.out.trans (((below_new _ (.cells #[.int .i64 (x - y)] 3)).mono HBi.out.size).trans (grown_under' hg3 (HO.out.alloc _) (Nat.le_refl _) (by have := HBi.out.size; simp; omega))))
              clear own3 hg3
              go_wp2_with (first | (at_builtin; refine Lib.wpList_append_run _ rfl _ _ _ _ rfl _ _ rfl rfl _ _ (hr3 _) ?_))
              go_roundw
              case rel => exact ⟨t + 1, by go_num, by omega, HO3, hide (Or.inr ⟨_, _, rfl⟩), HB3⟩
              case measure => simp only [intOf]; omega
            · have hte : t = j := by omega
              subst hte
              obtain ⟨g, cap, rfl⟩ : ∃ g cap, u10 = .slice (some ⟨g, 0, none⟩) t cap := HF.out.resolve_left (by omega)
              have HO' : Hid (wr.ownsRow _ 3 1 (rv9 t (g, cap)) t (ints (Hu.redR r))) := hide (by
                have := HO.out
                rwa [List.take_of_length_le (by rw [Hu.redR_len, HCk.out]; omega)] at this)
              obtain ⟨G4, C4, w4, hr4, own4, hg4, hat4⟩ := push_9 (t := 22) (x := .slice (some ⟨g, 0, none⟩) t cap) Try.underlying22 infoIs rfl rfl (by decide) (g_own HS.out.2.2.1 HBi.out) (by omega) (Nat.le_trans hwrs HBi.out.size)
              obtain ⟨sn1, sn2⟩ := HS.out.snoc HBi.out hwrs HO'.out (by rw [Hu.redR_len, HCk.out]) own4 hg4 hat4
              rw [HSN.out] at sn1
              have HN4 := hide sn1
              have HB4 := hide (HB.out.trans sn2)
              clear own4 hg4 hat4 sn1 sn2 HO HO'
              go_wp2_with (first | (at_builtin; refine Lib.wpList_append_run _ rfl _ _ _ _ rfl _ _ rfl rfl _ _ (hr4 _) ?_))
              go_roundw
              case rel => exact ⟨k + 1, _, by go_num, by omega, HN4, hide (Or.inr ⟨_, _, rfl⟩), HB4⟩
              case measure => simp only [intOf]; omega
    · have hke : k = l := by omega
      subst hke
      obtain ⟨G, D, rfl⟩ : ∃ G D, u4 = .slice (some ⟨G, 0, none⟩) k D := HV.out.resolve_left (by omega)
      have HR : Hid (CRow wr (some ⟨G, 0, none⟩) (Hu.redL C)) := hide (by
        have := HS.out.row
        rwa [List.take_of_length_le (by rw [HRL.out]; omega)] at this)
      go_wp2_with fail
      go_ret2
      exact ⟨G, D, rfl, HB.out, HR.out⟩
end Go.Proofs.Ytcniegaogdggaab
