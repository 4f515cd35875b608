/-
  What DropOffer of the program answers.
-/
import Derived.Test.YtdlpbemjbmgbeaaCr
namespace Go.Proofs.Ytdlpbemjbmgbeaa
open Go.RowKit

/-- The values that offers are in memory. -/
def OVal (w : World) (b off : Nat) (L : List (List Int)) (vs : List Value) : Prop := vs.length = L.length ∧ ∀ i, i < L.length → w.cell? ⟨b, off + i, none⟩ = some (vs.getD i (.slice none 0 0)) ∧ ∃ ai ci, vs.getD i (.slice none 0 0) = .slice ai (L.getD i []).length ci ∧ ARow w ai (L.getD i [])
theorem ORow.vals {w : World} {b off : Nat} {L : List (List Int)} (h : ORow w (some ⟨b, off, none⟩) L) : ∃ vs, OVal w b off L vs := by
  have each : ∀ i, i < L.length → ∃ v : Value, w.cell? ⟨b, off + i, none⟩ = some v ∧ ∃ ai ci, v = .slice ai (L.getD i []).length ci ∧ ARow w ai (L.getD i []) := fun i hi => by
    obtain ⟨b', off', ai, ci, e, _, h1, h2⟩ := h.at hi
    cases e
    exact ⟨_, h1, ai, ci, rfl, h2⟩
  refine ⟨(List.range L.length).map fun i => if hi : i < L.length then (each i hi).choose else .slice none 0 0, by simp, fun i hi => ?_⟩
  have e : ((List.range L.length).map fun i => if hi : i < L.length then (each i hi).choose else .slice none 0 0).getD i (.slice none 0 0) = (each i hi).choose := by
    simp [List.getD_eq_getElem?_getD, hi]
  rw [e]
  exact (each i hi).choose_spec
theorem OVal.one {w : World} {b off : Nat} {L : List (List Int)} {vs : List Value} (h : OVal w b off L vs) : ∀ u ∈ vs, u.oneCell' = true := by
  intro u hu
  obtain ⟨i, hi, rfl⟩ := List.getElem_of_mem hu
  obtain ⟨ai, ci, e, _⟩ := (h.2 i (by rw [← h.1]; exact hi)).2
  rw [Pf.getD_lt _ _ hi] at e
  rw [e]; rfl
theorem OVal.take {w : World} {b off k : Nat} {L : List (List Int)} {vs : List Value} (h : OVal w b off L vs) (hb : b < w.heap.size) : VRow w (some ⟨b, off, none⟩) (vs.take k) := by
  refine Or.inr ⟨b, off, rfl, hb, fun j u hj => ?_⟩
  have hjl := (List.getElem?_eq_some_iff.1 hj).1
  rw [List.length_take] at hjl
  have h1 := (h.2 j (by rw [← h.1]; omega)).1
  rw [List.getElem?_take_of_lt (by omega)] at hj
  rw [List.getD_eq_getElem?_getD, hj] at h1
  exact h1
theorem OVal.drop {w : World} {b off k : Nat} {L : List (List Int)} {vs : List Value} (h : OVal w b off L vs) (hb : b < w.heap.size) : VRow w (some ⟨b, off + k, none⟩) (vs.drop k) := by
  refine Or.inr ⟨b, off + k, rfl, hb, fun j u hj => ?_⟩
  have hjl := (List.getElem?_eq_some_iff.1 hj).1
  rw [List.length_drop] at hjl
  have h1 := (h.2 (k + j) (by rw [← h.1]; omega)).1
  rw [List.getElem?_drop] at hj
  rw [List.getD_eq_getElem?_getD, hj, ← Nat.add_assoc] at h1
  exact h1
theorem getD_cut {α : Type} (xs : List α) (d : α) (k i : Nat) (hk : k ≤ xs.length) : (xs.take k ++ xs.drop (k + 1)).getD i d = xs.getD (if i < k then i else i + 1) d := by
  simp only [List.getD_eq_getElem?_getD]
  by_cases hi : i < k
  · rw [List.getElem?_append_left (by rw [List.length_take]; omega), List.getElem?_take_of_lt hi, if_pos hi]
  · rw [List.getElem?_append_right (by rw [List.length_take]; omega), List.getElem?_drop, List.length_take, if_neg hi, show k + 1 + (i - min k xs.length) = i + 1 by omega]
/-- Offers without one, in a list of their own. -/
theorem OVal.cut {w w' : World} {b off k base R N c : Nat} {a : Option Addr} {L : List (List Int)} {vs : List Value} (h : OVal w b off L vs) (hk : k < L.length) (hRw : ∀ i, i < L.length → ∀ ai ci, vs.getD i (.slice none 0 0) = .slice ai (L.getD i []).length ci → ARowX R w' ai (L.getD i []))
    (hR : R < base) (hN : (Of.drop L k).length = N) (own : w'.ownsRow base 36 1 (.slice a N c) N (vs.take k ++ vs.drop (k + 1))) : ORowX R w' a (Of.drop L k) := by
  rcases own.2 with ⟨h0, hn⟩ | ⟨g, cap, cur, hv, hbg, hg, _⟩
  · left; exact List.length_eq_zero_iff.1 (by omega)
  · cases hv
    refine Or.inr ⟨g, 0, rfl, (own.lt g rfl).2, by omega, fun i hi => ?_⟩
    have hl := Of.drop_len hk
    have hj : (if i < k then i else i + 1) < L.length := by split <;> omega
    obtain ⟨ai, ci, e1, _⟩ := (h.2 _ hj).2
    have hx := hRw _ hj ai ci e1
    have e2 : (Of.drop L k).getD i [] = L.getD (if i < k then i else i + 1) [] := getD_cut L [] k i (by omega)
    rw [e2]
    refine ⟨ai, ci, ?_, hx⟩
    have h3 := getD_cut vs (.slice none 0 0) k i (by rw [h.1]; omega)
    rw [e1] at h3
    have hli : i < (vs.take k ++ vs.drop (k + 1)).length := by rw [own.1]; omega
    rw [Nat.zero_add, own.cellAt i (by omega), List.getElem?_eq_getElem hli, ← Pf.getD_lt _ (.slice none 0 0) hli, h3]
/-- Two parts of offers, handed to a call. -/
theorem vv_two {w : World} {a1 a2 : Option Addr} {n1 n2 c1 c2 : Nat} {us vs : List Value} (h1 : VRow w a1 us) (e1 : us.length = n1) (h2 : VRow w a2 vs) (e2 : vs.length = n2) : VVRow (w.alloc (.cells #[.slice a1 n1 c1, .slice a2 n2 c2] 23)) w.heap.size [us, vs] := by
  intro i hi
  match i, hi with
  | 0, _ => exact ⟨a1, c1, by simp [go_sem, e1], h1.below (o_below_new _ _), by simp⟩
  | 1, _ => exact ⟨a2, c2, by simp [go_sem, e2], h2.below (o_below_new _ _), by simp⟩
def drB (L : List (List Int)) (k p : Int) : Bool := chB L p && Pf.inB k 0 ((L.length : Int) - 1)

set_option maxRecDepth 100000 in
set_option maxHeartbeats 1000000 in
theorem dr_no {a : Option Addr} {n c : Nat} {L : List (List Int)} {k p : Int} {w : World} (hn : L.length = n) (h : ORow w a L) (hg : drB L k p = false) :
    Calls Try.prog 25 #[.slice a n c, .int .i64 k, .int .i64 p] w fun e w' => e = .returned (.tuple #[.int .i64 0, .bool false]) ∧ Below w.heap.size w w' := by
  unfold drB at hg
  rw [hn] at hg
  cases hc : chB L p
  · have HC := hide (ach_eq (c := c) hn h hc)
    clear h hn hg
    go_enter Try.func25, Try.ntmps25
    go_wp2_with fail
    refine HC.out.mono ?_
    rintro e w1 ⟨rfl, hb1⟩
    go_wp2_with fail
    go_ret2
    exact ⟨rfl, hb1⟩
  · have HC := hide (ach_eq (c := c) hn h hc)
    have h12 := Of.offersB_len (chB_yes hc).1
    rw [hn] at h12
    rw [hc] at hg
    have hk : Pf.inB k 0 ((n : Int) - 1) = false := hg
    clear h hn hg
    go_enter Try.func25, Try.ntmps25
    go_wp2_with fail
    refine HC.out.mono ?_
    rintro e w1 ⟨rfl, hb1⟩
    go_wp2_with fail
    refine (between_eq hk).mono ?_
    rintro e w2 ⟨rfl, rfl⟩
    go_wp2_with fail
    go_ret2
    exact ⟨rfl, hb1⟩
set_option maxRecDepth 100000 in
set_option maxHeartbeats 4000000 in
theorem dr_yes {a : Option Addr} {n c P M k : Nat} {L : List (List Int)} {w : World} (hn : L.length = n) (hcap : n ≤ c) (hM : P + 1 = M) (hM' : M ≤ 1000) (h : ORow w a L) (hg : chB L (P : Int) = true) (hk : k < n) :
    Calls Try.prog 25 #[.slice a n c, .int .i64 k, .int .i64 P] w fun e w' => e = .returned (.tuple #[.int .i64 ((Of.tab L P).getD P 0 - (Of.tab (Of.drop L k) P).getD P 0), .bool true]) ∧ Below w.heap.size w w' := by
  have HC := hide (ach_eq (c := c) hn h hg)
  obtain ⟨b, off, _, _, rfl, hbl, _, _⟩ := h.at (i := 0) (by omega)
  have H := hide h
  have HN := hide hn
  have HG := hide (chB_yes hg).1
  have h12 := Of.offersB_len HG.out
  rw [hn] at h12
  have hmk := make_one hM hM'
  have HM := hide hM
  have hP : P ≤ 1000 := by omega
  have hkb : Pf.inB (k : Int) 0 ((n : Int) - 1) = true := Pf.inB_of (by omega) (by omega)
  clear h hn hg hM
  go_enter Try.func25, Try.ntmps25
  go_wp2_with fail
  refine HC.out.mono ?_
  rintro e w1 ⟨rfl, hb1⟩
  clear HC
  go_wp2_with fail
  refine (between_eq hkb).mono ?_
  rintro e w1' ⟨rfl, hw⟩
  obtain rfl : w1 = w1' := hw.symm
  have HF := hide (fr_any (d := c) (c := M) (R := w1.heap.size) (base := w1.heap.size) (w := w1.alloc (.cells (madeCells #[.int .i64 0] M) 3)) HN.out HM.out hM' HG.out ((H.out.below hb1).x (o_below_new _ _) (Nat.le_refl _)) (made_own w1 M (by omega)))
  go_wp2_with fail
  refine HF.out.mono ?_
  rintro e w2 ⟨G, rfl, hg2, own2, _⟩
  have HB2 : Hid (Below w1.heap.size w1 w2) := hide ((o_below_new w1 (.cells (madeCells #[.int .i64 0] M) 3)).trans (grown_below' hg2 (Nat.le_refl _) (by simp)))
  have HO2 := hide own2
  have j0 : (0 : Int) ≤ (P : Int) := by omega
  have j1 : (P : Int) < (M : Int) := by have := HM.out; omega
  have c1 : w2.cell? ⟨w1.heap.size, P, none⟩ = some (.int .i64 ((Of.tab L P).getD P 0)) := by
    have h1 := HM.out
    rw [own2.cellAt P (by omega), ints_get _ P (by rw [Of.tab_len]; omega)]
  have hyb := Of.tab_bd12 HG.out P n
  rw [List.take_of_length_le (by rw [HN.out]; exact Nat.le_refl _)] at hyb
  have hyb := hyb P
  have hRl := (own2.lt _ rfl).2
  generalize hy : (Of.tab L P).getD P 0 = y at *
  have HY := hide hy
  have HW1 := hide (H.out.below hb1)
  have k0 : (0 : Int) ≤ (k : Int) := by omega
  have k1 : (k : Int) ≤ (n : Int) := by omega
  have k2 : (k : Int) + 1 ≤ (n : Int) := by omega
  have k4 : (0 : Int) ≤ (k : Int) + 1 := by omega
  have k5 : IntKind.i64.wrap ((k : Int) + 1) = (k : Int) + 1 := by rw [IntKind.wrap_i64]; omega
  have k6 : k + 1 ≤ n := by omega
  have k3 : (n : Int) ≤ (c : Int) := by omega
  obtain ⟨y0, y1⟩ := hyb
  obtain ⟨vs, hval⟩ := (HW1.out.below HB2.out).vals
  have HVAL := hide hval
  have hvs := hval.1
  have hb2 : b < w2.heap.size := by have h1 := hb1.size; have h2 := HB2.out.size; omega
  obtain ⟨N, hN⟩ : ∃ N, n - 1 = N := ⟨_, rfl⟩
  have HFL : Hid (([vs.take k, vs.drop (k + 1)]).flatten.length = N) := hide (by simp [hvs, HN.out]; omega)
  have H1 : Hid (∀ i, i < 2 → ∀ u ∈ ([vs.take k, vs.drop (k + 1)]).getD i [], u.oneCell' = true) := hide fun i hi u hu => by
    match i, hi with
    | 0, _ => exact HVAL.out.one u (List.mem_of_mem_take hu)
    | 1, _ => exact HVAL.out.one u (List.mem_of_mem_drop hu)
  have hzb := Of.tab_bd12 (Of.drop_good HG.out k) P N
  have hdl := Of.drop_len (L := L) (k := k) (by rw [HN.out]; exact hk)
  rw [HN.out, hN] at hdl
  rw [List.take_of_length_le (by rw [hdl]; exact Nat.le_refl _)] at hzb
  have hzb := hzb P
  have H4 : Hid (∀ (w4 : World) (a4 : Option Addr) (c4 base4 : Nat), Below w2.heap.size w2 w4 → w2.heap.size ≤ base4 → w4.ownsRow base4 36 1 (.slice a4 N c4) N ([vs.take k, vs.drop (k + 1)]).flatten →
      Calls Try.prog 28 #[.slice (some ⟨w1.heap.size, 0, none⟩) M M, .slice a4 N c4] w4 fun e w' => ∃ G, e = .returned (.slice (some ⟨G, 0, none⟩) N N) ∧ w4.grownBy w' (some w1.heap.size) ∧ w'.ownsRow w1.heap.size 3 1 (.slice (some ⟨w1.heap.size, 0, none⟩) M M) M (ints (Of.tab (Of.drop L k) P)) ∧ ORow w' (some ⟨G, 0, none⟩) (tabs (Of.drop L k) P)) := hide fun w4 a4 c4 base4 hb4 hbase own4 => by
    have e : ([vs.take k, vs.drop (k + 1)]).flatten = vs.take k ++ vs.drop (k + 1) := by simp
    rw [e] at own4
    refine fr_any hdl HM.out hM' (Of.drop_good HG.out k) (HVAL.out.cut (by rw [HN.out]; exact hk) (fun i hi ai ci e1 => ?_) (Nat.lt_of_lt_of_le hRl hbase) hdl own4) (o_own HO2.out hb4)
    obtain ⟨b', off', ai', ci', e', _, h1, h2⟩ := HW1.out.at hi
    cases e'
    have h3 := (HB2.out.cell (p := ⟨b, off + i, none⟩) (World.block_lt_of_cell? _ _ h1)).trans h1
    rw [(HVAL.out.2 i hi).1, e1] at h3
    cases h3
    exact h2.x (HB2.out.trans (hb4.mono HB2.out.size)) (Nat.le_refl _)
  clear own2 hg2 hmk hy HF hval
  by_cases hck : c = k + 1
  · have hnk : n = k + 1 := by omega
    subst hck hnk
    have HVD : Hid (VRow w2 (some ⟨b, off, none⟩) (vs.drop (k + 1))) := hide (Or.inl (List.drop_of_length_le (by rw [hvs, HN.out]; omega)))
    have HV : Hid (VVRow (w2.alloc (.cells #[.slice (some ⟨b, off, none⟩) k (k + 1), .slice (some ⟨b, off, none⟩) 0 0] 23)) w2.heap.size [vs.take k, vs.drop (k + 1)]) := hide (vv_two (HVAL.out.take hb2) (by rw [List.length_take, hvs, HN.out]; omega) HVD.out (by rw [List.length_drop, hvs, HN.out]; omega))
    have HCC := hide (concat_anyO (c := 2) (m := 2) (N := N) (w := (w2.alloc (.cells #[.slice (some ⟨b, off, none⟩) k (k + 1), .slice (some ⟨b, off, none⟩) 0 0] 23)).drew) rfl (by omega) HFL.out (by omega) H1.out HV.out)
    have HBX : Hid (Below w2.heap.size w2 (w2.alloc (.cells #[.slice (some ⟨b, off, none⟩) k (k + 1), .slice (some ⟨b, off, none⟩) 0 0] 23)).drew) := hide (o_below_new _ _).drew
    go_wp2_with fail
    go_region_with (first
      | (go_at_call 47; refine HCC.out.mono ?_; rintro e w4 ⟨v4, rfl, own4, hb4⟩; obtain ⟨a4, c4, rfl⟩ := own_form own4; have HF4 := hide (H4.out w4 a4 c4 _ (HBX.out.trans (hb4.mono HBX.out.size)) HBX.out.size own4); have HB4 := hide (HBX.out.trans (hb4.mono HBX.out.size)))
      | (go_at_call 28; refine HF4.out.mono ?_; rintro e w5 ⟨G5, rfl, hg5, own5, _⟩))
    all_goals
      have HB5 : Hid (Below w.heap.size w w5) := hide ((hb1.trans (HB2.out.mono hb1.size)).trans ((HB4.out.mono (by have := hb1.size; omega)).trans (grown_below' hg5 (by have := hb1.size; omega) (by have := HB4.out.size; have := hb1.size; omega))))
      have c5 : w5.cell? ⟨w1.heap.size, P, none⟩ = some (.int .i64 ((Of.tab (Of.drop L k) P).getD P 0)) := by
        have h1 := HM.out
        rw [own5.cellAt P (by omega), ints_get _ P (by rw [Of.tab_len]; omega)]
      generalize hz : (Of.tab (Of.drop L k) P).getD P 0 = z at *
      have HZ := hide hz
      obtain ⟨z0, z1⟩ := hzb
      clear own5 hg5 hz
      go_wp2_with fail
      go_ret2
      exact ⟨by rw [HY.out, HZ.out]; rfl, HB5.out⟩
  · have hck' : ¬ (c : Int) = (k : Int) + 1 := by omega
    have HVD : Hid (VRow w2 (some ⟨b, off + (k + 1), none⟩) (vs.drop (k + 1))) := hide (HVAL.out.drop hb2)
    have HV : Hid (VVRow (w2.alloc (.cells #[.slice (some ⟨b, off, none⟩) k c, .slice (some ⟨b, off + (k + 1), none⟩) (n - (k + 1)) (c - (k + 1))] 23)) w2.heap.size [vs.take k, vs.drop (k + 1)]) := hide (vv_two (HVAL.out.take hb2) (by rw [List.length_take, hvs, HN.out]; omega) HVD.out (by rw [List.length_drop, hvs, HN.out]))
    have HCC := hide (concat_anyO (c := 2) (m := 2) (N := N) (w := (w2.alloc (.cells #[.slice (some ⟨b, off, none⟩) k c, .slice (some ⟨b, off + (k + 1), none⟩) (n - (k + 1)) (c - (k + 1))] 23)).drew) rfl (by omega) HFL.out (by omega) H1.out HV.out)
    have HBX : Hid (Below w2.heap.size w2 (w2.alloc (.cells #[.slice (some ⟨b, off, none⟩) k c, .slice (some ⟨b, off + (k + 1), none⟩) (n - (k + 1)) (c - (k + 1))] 23)).drew) := hide (o_below_new _ _).drew
    go_wp2_with fail
    go_region_with (first
      | (go_at_call 47; refine HCC.out.mono ?_; rintro e w4 ⟨v4, rfl, own4, hb4⟩; obtain ⟨a4, c4, rfl⟩ := own_form own4; have HF4 := hide (H4.out w4 a4 c4 _ (HBX.out.trans (hb4.mono HBX.out.size)) HBX.out.size own4); have HB4 := hide (HBX.out.trans (hb4.mono HBX.out.size)))
      | (go_at_call 28; refine HF4.out.mono ?_; rintro e w5 ⟨G5, rfl, hg5, own5, _⟩))
    all_goals
      have HB5 : Hid (Below w.heap.size w w5) := hide ((hb1.trans (HB2.out.mono hb1.size)).trans ((HB4.out.mono (by have := hb1.size; omega)).trans (grown_below' hg5 (by have := hb1.size; omega) (by have := HB4.out.size; have := hb1.size; omega))))
      have c5 : w5.cell? ⟨w1.heap.size, P, none⟩ = some (.int .i64 ((Of.tab (Of.drop L k) P).getD P 0)) := by
        have h1 := HM.out
        rw [own5.cellAt P (by omega), ints_get _ P (by rw [Of.tab_len]; omega)]
      generalize hz : (Of.tab (Of.drop L k) P).getD P 0 = z at *
      have HZ := hide hz
      obtain ⟨z0, z1⟩ := hzb
      clear own5 hg5 hz
      go_wp2_with fail
      go_ret2
      exact ⟨by rw [HY.out, HZ.out]; rfl, HB5.out⟩
end Go.Proofs.Ytdlpbemjbmgbeaa
