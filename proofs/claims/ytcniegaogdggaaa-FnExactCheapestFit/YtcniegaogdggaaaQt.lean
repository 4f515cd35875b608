/-
  What rowOf, lesserOf and bothPrices answer: rows of ten.
-/
import Derived.Test.YtcniegaogdggaaaQs
import Derived.Test.YtcniegaogdggaaaJl0
import Derived.Test.YtcniegaogdggaaaHv
namespace Go.Proofs.Ytcniegaogdggaaa
open Go.RowKit

theorem R10.keep {w w' : World} {b : Nat} {xs : List Int} (h : R10 w b xs) (hs : w.heap.size ≤ w'.heap.size) (hb : w'.heap[b]? = w.heap[b]?) : R10 w' b xs :=
  ⟨h.1, Nat.lt_of_lt_of_le h.2.1 hs, fun i hi => ⟨(World.cell?_of_block (w := w) (a := ⟨b, i, none⟩) hb).trans (h.2.2 i hi).1, (World.frozen?_of_block (w := w) (a := ⟨b, i, none⟩) hb).trans (h.2.2 i hi).2⟩⟩
theorem z10_eq : z10 = Hu.pad [] := rfl
theorem z10_len : z10.length = 10 := rfl
/-- What is copied into a row of ten that is 0 all through. -/
theorem cp10 {w : World} {X n : Nat} {a : Option Addr} {c : Nat} {xs : List Int} (hX : w.heap[X]? = some (.cells (tv z10) 65)) (hn : xs.length = n) (h1 : 1 ≤ n) (h10 : n ≤ 10) (ha : ARow w a xs) :
    ∃ w', (∀ ty, (Builtin.copy_ #[27, 27] ty #[.slice (some ⟨X, 0, none⟩) 10 10, .slice a n c]).run Try.prog w = .ok (.int .i64 (n : Int)) w') ∧ R10 w' X (Hu.pad xs) ∧ w.grownBy w' (some X) := by
  rcases ha with h | ⟨b, off, rfl, hb, hc⟩
  · rw [h] at hn; simp at hn; omega
  have hsz : (Try.prog.info? 3).map (·.size) = some 1 := by kernel_rfl
  have hrun := fun ty => run_copy_row (P := Try.prog) w 27 27 ty 3 X 0 10 10 ⟨b, off, none⟩ n c (tv z10) 65 (ints xs) Try.underlying27 hsz hX (by rw [ints_len, hn]; simp only [Nat.min_def]; split <;> omega) (fun i v hi => by
    have hij : i < xs.length := by have := (List.getElem?_eq_some_iff.1 hi).1; rwa [ints_len] at this
    rw [ints_get xs i hij] at hi
    cases hi
    rw [add_plain']
    exact hc i hij) (by rw [ints_len, hn]; show 0 + n ≤ 10; omega) (c_ints _)
  have e : ((tv z10).toList.take 0 ++ ints xs ++ (tv z10).toList.drop (0 + (ints xs).length)) = ints (Hu.pad xs) := by
    rw [ints_len, ← Hu.pad_eq (by omega)]
    have : (tv z10).toList = ints (List.replicate 10 0) := rfl
    rw [this, List.take_zero, List.nil_append, Nat.zero_add]
    unfold ints
    rw [← List.map_drop, ← List.map_append, List.drop_replicate]
  rw [e, ints_len, hn] at hrun
  refine ⟨w.setRow X (tv (Hu.pad xs)), hrun, ?_, ⟨rfl, rfl, rfl, by simp [World.setRow], fun k _ hne => setRow_other w X k _ (by simpa using hne)⟩⟩
  have hh : (w.setRow X (tv (Hu.pad xs))).heap[X]? = some (.cells (tv (Hu.pad xs)) 65) := setRow_heap w X _ _ _ _ hX
  refine ⟨Hu.pad_len _, by have := (Array.getElem?_eq_some_iff.1 hX).1; simpa [World.setRow] using this, fun i hi => ⟨?_, ?_⟩⟩
  · rw [cell_of_row _ _ _ _ _ _ hh, tv]
    have := ints_get (Hu.pad xs) i (by rw [Hu.pad_len]; exact hi)
    simpa using this
  · unfold World.frozen?; rw [hh]; simp
set_option maxHeartbeats 2000000 in
theorem ro_any {a : Option Addr} {n c : Nat} {xs : List Int} {w : World} (hn : xs.length = n) (h1 : 1 ≤ n) (h10 : n ≤ 10) (ha : ARow w a xs) :
    Calls Try.prog 51 #[.slice a n c] w fun e w' => e = .returned (.agg (tv (Hu.pad xs))) ∧ Below w.heap.size w w' := by
  obtain ⟨Z, hZ⟩ : ∃ Z, Z = Obj.cells (tv z10) 65 := ⟨_, rfl⟩
  have bn1 := below_new w Z
  have bn2 := below_new (w.alloc Z) Z
  have A1 := (R10.new w z10 rfl 65)
  rw [← hZ] at A1
  obtain ⟨w2, hr, A2, hg⟩ := cp10 (w := (w.alloc Z).alloc Z) (X := (w.alloc Z).heap.size) (c := c) (by rw [heap_alloc_last, hZ]) hn h1 h10 ((ha.alloc _).alloc _)
  have hB2 : Below (w.heap.size + 1) ((w.alloc Z).alloc Z) w2 := grown_below' hg (by simp) (by simp)
  have HA2 := hide A2
  have HA1 := hide ((A1.below bn2).keep hB2.size (hB2.block _ (by omega)))
  have hB := (bn1.trans (bn2.mono (by simp))).trans (hB2.mono (by omega))
  rw [World.size_alloc] at HA2 hr
  clear A1 A2 bn1 bn2 hB2 hg ha
  have hZ' : Obj.cells #[.int .i64 0, .int .i64 0, .int .i64 0, .int .i64 0, .int .i64 0, .int .i64 0, .int .i64 0, .int .i64 0, .int .i64 0, .int .i64 0] 65 = Z := hZ.symm
  clear hZ
  go_enter Try.func51, Try.ntmps51
  go_wp2_with (first | (at_builtin; refine wpList_copy_run8 rfl _ _ _ _ rfl _ _ rfl rfl _ _ (hr _) ?_) | (refine wr_load rfl _ rfl rfl HA2 ?_) | (refine wr_store rfl _ _ rfl rfl rfl HA1 (Hu.pad_len _) ?_; intro w3 A3 T3))
  exact bodyPost_ret (v := .agg (tv (Hu.pad xs))) (res_row Try.results51 rfl A3) rfl ⟨rfl, hB.trans (T3.2.1 _ (by omega))⟩
set_option maxHeartbeats 4000000 in
theorem le_any {xs ys : List Int} {w : World} (hx : xs.length = 10) (hy : ys.length = 10) :
    Calls Try.prog 50 #[.agg (tv xs), .agg (tv ys)] w fun e w' => e = .returned (.agg (tv (Hu.minR xs ys))) ∧ Below w.heap.size w w' := by
  have HX := hide (R10.new w xs hx 65)
  have HY := hide (R10.new (w.alloc (.cells (tv xs) 65)) ys hy 65)
  have HZ := hide (z10_new ((w.alloc (.cells (tv xs) 65)).alloc (.cells (tv ys) 65)) 65)
  generalize tv xs = X at *
  generalize tv ys = Y at *
  go_enter Try.func50, Try.ntmps50
  go_wp2_with fail
  go_loopw [5, 6] (fun _ s wr => ∃ (k : Nat) (zs : List Int), s = .int .i64 k ∧ k ≤ 10 ∧ Hid (R10 wr w.heap.size zs) ∧ Hid (R10 wr (w.heap.size + 1) ys) ∧ Hid (R10 wr (w.heap.size + 1 + 1) z10) ∧ Hid (∀ i, i < 10 → zs.getD i 0 = if i < k then min (xs.getD i 0) (ys.getD i 0) else xs.getD i 0) ∧ Hid (Below w.heap.size w wr)) (fun _ s _ => 10 - (intOf s).toNat)
  case atStart => exact ⟨0, xs, rfl, Nat.zero_le _, hide ((HX.out.below (below_new _ _)).below (below_new _ _)), hide (by have := HY.out.below (below_new _ (.cells #[.int .i64 0, .int .i64 0, .int .i64 0, .int .i64 0, .int .i64 0, .int .i64 0, .int .i64 0, .int .i64 0, .int .i64 0, .int .i64 0] 65)); simpa using this), hide (by have := HZ.out; simpa using this), hide fun i hi => by simp, hide (((below_new _ _).trans ((below_new _ _).mono (by simp))).trans ((below_new _ _).mono (by simp; omega)))⟩
  case round =>
    obtain ⟨k, zs, rfl, hk, HX1, HY1, HZ1, HD, HB⟩ := hrel
    by_cases hlt : k < 10
    · have i0 : (0 : Int) ≤ (k : Int) := by omega
      have i1 : (k : Int) < 10 := by omega
      have c0 := (HX1.out.2.2 k hlt).1
      have f0 := (HX1.out.2.2 k hlt).2
      have c1 := (HY1.out.2.2 k hlt).1
      rw [HD.out k hlt, if_neg (by omega)] at c0
      have HSET : Hid (∀ i, i < 10 → (zs.set k (min (xs.getD k 0) (ys.getD k 0))).getD i 0 = if i < k + 1 then min (xs.getD i 0) (ys.getD i 0) else xs.getD i 0) := hide fun i hi => by
        rw [Hu.set_get9 _ _ _ _ (by have := HX1.out.1; omega)]
        by_cases e : i = k
        · subst e; simp
        · rw [if_neg e, HD.out i hi]
          by_cases q : i < k
          · rw [if_pos q, if_pos (by omega)]
          · rw [if_neg q, if_neg (by omega)]
      have HST := hide (HX1.out.set k (min (xs.getD k 0) (ys.getD k 0)) hlt)
      have HYT := hide (HY1.out.other (b' := w.heap.size) (k := k) (v := .int .i64 (min (xs.getD k 0) (ys.getD k 0))) (by omega))
      have HZT := hide (HZ1.out.other (b' := w.heap.size) (k := k) (v := .int .i64 (min (xs.getD k 0) (ys.getD k 0))) (by omega))
      have HBT := hide (HB.out.setCell (p := ⟨w.heap.size, k, none⟩) (Nat.le_refl _) (.int .i64 (min (xs.getD k 0) (ys.getD k 0))))
      generalize xs.getD k 0 = x at *
      generalize ys.getD k 0 = y at *
      have hmin : (if y < x then y else x) = min x y := by omega
      go_wp2_with fail
      go_region
      go_wp2_with fail
      go_roundw
      case rel => exact ⟨k + 1, zs.set k (min x y), by go_num, by omega, HST, HYT, HZT, HSET, hide HBT.out.drew⟩
      case measure => simp only [intOf]; omega
    · have hke : k = 10 := by omega
      subst hke
      have HE := hide (Hu.ext10 HX1.out.1 (Hu.minR_len xs ys) (fun i hi => by rw [HD.out i hi, if_pos hi, Hu.minR_get _ _ hi]))
      rw [HE.out] at HX1
      go_wp2_with (first | (refine wr_load rfl _ rfl rfl HX1 ?_) | (refine wr_store rfl _ _ rfl rfl rfl HZ1 (Hu.minR_len _ _) ?_; intro w2 A2 T2))
      exact bodyPost_ret (v := .agg (tv (Hu.minR xs ys))) (res_row Try.results50 rfl A2) rfl ⟨rfl, HB.out.trans (T2.2.1 _ (by omega))⟩
set_option maxHeartbeats 4000000 in
theorem bp_any {a b : Option Addr} {n m c d i : Nat} {us vs : List Int} {w : World} (hn : us.length = n) (hm : vs.length = m) (m1 : 1 ≤ m) (m10 : m ≤ 10) (hi : i < n) (gu : Pf.allB us (-100000) 100000 = true) (gv : Pf.allB vs (-100000) 100000 = true) (ha : ARow w a us) (hb : ARow w b vs) :
    Calls Try.prog 49 #[.agg #[.slice a n c, .slice b m d], .int .i64 (i : Int)] w fun e w' => e = .returned (.agg (tv (Hu.bothR us vs i))) ∧ Below w.heap.size w w' := by
  have HA := hide ha
  have HB := hide hb
  have HM := hide hm
  have HN := hide hn
  obtain ⟨x, hx⟩ : ∃ x, x = us.getD i 0 := ⟨_, rfl⟩
  have bx := Pf.inB_yes (Pf.allB_get gu (show i < us.length by omega))
  rw [← hx] at bx
  have HV := hide fun (k : Nat) (hk : k < m) => Pf.inB_yes (Pf.allB_get gv (show k < vs.length by omega))
  have HE : Hid (∀ k, k < 10 → Hu.bothAt us vs i k = if k < m then vs.getD k 0 + x else 0) := hide fun k hk => by rw [Hu.bothAt, hm, ← hx]
  have HPD : Hid (∀ k, m ≤ k → vs.getD k 0 = 0) := hide fun k hk => by rw [List.getD_eq_getElem?_getD, List.getElem?_eq_none (by omega)]; rfl
  have HXX := hide hx
  clear ha hb hm hn gu gv hx
  go_enter Try.func49, Try.ntmps49
  go_wp2_with fail
  refine (ro_any HM.out m1 m10 ((HB.out.alloc _).alloc _)).mono ?_
  rintro e w1 ⟨rfl, hb1⟩
  have bnA := below_new w (.cells #[.slice a n c, .slice b m d] 29)
  have bnB := below_new (w.alloc (.cells #[.slice a n c, .slice b m d] 29)) (.cells #[.int .i64 0, .int .i64 0, .int .i64 0, .int .i64 0, .int .i64 0, .int .i64 0, .int .i64 0, .int .i64 0, .int .i64 0, .int .i64 0] 65)
  have hBw : Below w.heap.size w w1 := (bnA.trans (bnB.mono (by simp))).trans (hb1.mono (by simp; omega))
  have P1 := hide (((PBox.new w (.slice a n c) (.slice b m d) 29).below bnB).below hb1)
  have Z1 := hide ((z10_new (w.alloc (.cells #[.slice a n c, .slice b m d] 29)) 65).below hb1)
  rw [World.size_alloc] at Z1
  have hs1 : w.heap.size + 1 < w1.heap.size := by have := hb1.size; simp at this; omega
  clear hb1 bnA bnB
  go_wp2_with (refine wr_store rfl _ _ rfl rfl rfl (hide (z10_new _ _)) (Hu.pad_len _) ?_; intro w2 A2 T2; have hb2 := (below_new w1 _).trans (T2.2.1 _ (Nat.le_refl _)); clear T2; obtain ⟨p0, p1, p2⟩ := P1.out.below hb2)
  have HA2 := hide A2
  have HZ2 := hide (Z1.out.below hb2)
  have HB2 := hide (hBw.trans (hb2.mono hBw.size))
  have HP2 : Hid (PBox w2 w.heap.size (.slice a n c) (.slice b m d)) := hide ⟨p0, p1, p2⟩
  have hw12 : w1.heap.size < w2.heap.size := A2.2.1
  obtain ⟨R, hR⟩ : ∃ R, R = w1.heap.size := ⟨_, rfl⟩
  rw [← hR] at HA2 hs1 hw12 ⊢
  clear A2 hb2 P1 Z1 hBw p0 p1 p2 hR
  go_loopw [6, 13] (fun _ s wr => ∃ (k : Nat) (zs : List Int), s = .int .i64 k ∧ k ≤ m ∧ Hid (R10 wr R zs) ∧ Hid (R10 wr (w.heap.size + 1) z10) ∧ Hid (PBox wr w.heap.size (.slice a n c) (.slice b m d)) ∧ Hid (∀ j, j < 10 → zs.getD j 0 = if j < k then vs.getD j 0 + x else vs.getD j 0) ∧ Hid (Below w.heap.size w wr) ∧ R < wr.heap.size) (fun _ s _ => m - (intOf s).toNat)
  case atStart => exact ⟨0, Hu.pad vs, rfl, Nat.zero_le _, HA2, HZ2, HP2, hide fun j hj => by rw [Hu.pad_get _ hj]; simp, HB2, hw12⟩
  case round =>
    clear HA2 HZ2 HP2 HB2 hw12
    obtain ⟨k, zs, rfl, hk, HX1, HZ1, HP1, HD, HB1, hRz⟩ := hrel
    by_cases hlt : k < m
    · have i0 : (0 : Int) ≤ (k : Int) := by omega
      have i1 : (k : Int) < 10 := by omega
      have i2 : (k : Int) < (m : Int) := by omega
      have k10 : k < 10 := by omega
      have j0 : (0 : Int) ≤ (i : Int) := by omega
      have j1 : (i : Int) < (n : Int) := by omega
      have c0 := (HX1.out.2.2 k k10).1
      have f0 := (HX1.out.2.2 k k10).2
      rw [HD.out k k10, if_neg (by omega)] at c0
      obtain ⟨p0, p1, p2⟩ := HP1.out
      obtain ⟨bu, ou, rfl, ru⟩ := (HA.out.below HB1.out).at (i := i) (by rw [HN.out]; exact hi)
      rw [← HXX.out] at ru
      have bv := HV.out k hlt
      have HSET : Hid (∀ j, j < 10 → (zs.set k (vs.getD k 0 + x)).getD j 0 = if j < k + 1 then vs.getD j 0 + x else vs.getD j 0) := hide fun j hj => by
        rw [Hu.set_get9 _ _ _ _ (by have := HX1.out.1; omega)]
        by_cases e : j = k
        · subst e; simp
        · rw [if_neg e, HD.out j hj]
          by_cases q : j < k
          · rw [if_pos q, if_pos (by omega)]
          · rw [if_neg q, if_neg (by omega)]
      generalize vs.getD k 0 = y at *
      have HST := hide (HX1.out.set k (y + x) k10)
      have HZT := hide (HZ1.out.other (b' := R) (k := k) (v := .int .i64 (y + x)) (by omega))
      have HPT : Hid (PBox (wr.setCell ⟨R, k, none⟩ (.int .i64 (y + x))) w.heap.size (.slice (some ⟨bu, ou, none⟩) n c) (.slice b m d)) := hide ⟨(World.cell?_setCell_other _ _ _ _ (by intro e; cases e; omega)).trans p0, (World.cell?_setCell_other _ _ _ _ (by intro e; cases e; omega)).trans p1, by simpa using p2⟩
      have HBT := hide (HB1.out.setCell (p := ⟨R, k, none⟩) (by show w.heap.size ≤ R; omega) (.int .i64 (y + x)))
      have w1 : IntKind.i64.wrap (y + x) = y + x := by rw [IntKind.wrap_i64]; omega
      go_wp2_with fail
      go_region
      go_wp2_with fail
      go_roundw
      case rel => exact ⟨k + 1, zs.set k (y + x), by go_num, by omega, HST, HZT, HPT, HSET, hide HBT.out.drew, by simpa using hRz⟩
      case measure => simp only [intOf]; omega
    · have hke : k = m := by omega
      subst hke
      have HE : Hid (zs = Hu.bothR us vs i) := hide (Hu.ext10 HX1.out.1 (Hu.bothR_len us vs i) (fun j hj => by
        rw [HD.out j hj, Hu.bothR_get _ _ _ hj, HE.out j hj]
        by_cases q : j < k
        · rw [if_pos q, if_pos q]
        · rw [if_neg q, if_neg q]; exact HPD.out j (by omega)))
      rw [HE.out] at HX1
      go_wp2_with (first | (refine wr_load rfl _ rfl rfl HX1 ?_) | (refine wr_store rfl _ _ rfl rfl rfl HZ1 (Hu.bothR_len _ _ _) ?_; intro w3 A3 T3))
      exact bodyPost_ret (v := .agg (tv (Hu.bothR us vs i))) (res_row Try.results49 rfl A3) rfl ⟨rfl, HB1.out.trans (T3.2.1 _ (by omega))⟩
end Go.Proofs.Ytcniegaogdggaaa
