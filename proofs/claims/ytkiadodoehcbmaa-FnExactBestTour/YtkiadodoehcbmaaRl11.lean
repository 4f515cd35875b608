/-
  Trees: what TreeOf of the program answers.
-/
import Derived.Test.YtkiadodoehcbmaaRk11
import Derived.Test.YtkiadodoehcbmaaWn11
namespace Go.Proofs.Ytkiadodoehcbmaa
open Go.RowKit

/-- By which the stops are joined, and which are joined, in two blocks. -/
def TP (w wr : World) (U G n : Nat) (up : List Int) (J : List Bool) : Prop :=
  wr.ownsRow w.heap.size 3 1 (.slice (some ⟨U, 0, none⟩) n n) n (ints up) ∧ wr.ownsRow w.heap.size 4 1 (.slice (some ⟨G, 0, none⟩) n n) n (bls J) ∧ U ≠ G ∧ Below w.heap.size w wr
theorem TP.below {w wr V : World} {U G n : Nat} {up : List Int} {J : List Bool} (h : TP w wr U G n up J) (hb : Below wr.heap.size wr V) : TP w V U G n up J :=
  ⟨g_own h.1 hb, g_own h.2.1 hb, h.2.2.1, bw_below h.2.2.2 hb⟩
theorem bls_at (J : List Bool) (i : Nat) (h : i < J.length) : (bls J)[i]? = some (.bool (J.getD i false)) := by
  simp [bls, h]
theorem TP.lo {w wr : World} {U G n : Nat} {up : List Int} {J : List Bool} (h : TP w wr U G n up J) : w.heap.size ≤ U ∧ w.heap.size ≤ G ∧ U < wr.heap.size ∧ G < wr.heap.size := by
  have h1 := h.1.lt U rfl
  have h2 := h.2.1.lt G rfl
  exact ⟨h1.1, h2.1, h1.2, h2.2⟩
theorem TP.bat {w wr : World} {U G n : Nat} {up : List Int} {J : List Bool} (h : TP w wr U G n up J) (hJ : J.length = n) : BAt wr G J :=
  ⟨h.lo.2.2.2, fun i hi => by rw [h.2.1.cellAt i (by omega), bls_at J i hi]⟩
theorem TP.putU {w wr : World} {U G n : Nat} {up : List Int} {J : List Bool} (h : TP w wr U G n up J) (i : Nat) (z : Int) : TP w (wr.setCell ⟨U, i, none⟩ (.int .i64 z)) U G n (up.set i z) J := by
  obtain ⟨h1, h2, h3, h4⟩ := h
  obtain ⟨s1, s2⟩ := h1.stored i (.int .i64 z)
  rw [ints_set] at s1
  exact ⟨s1, h2.kept s2 (Or.inr fun e => by simp [Value.ownBlock] at e; omega), h3, h4.setCell (p := ⟨U, i, none⟩) (h1.lt U rfl).1 _⟩
theorem TP.putG {w wr : World} {U G n : Nat} {up : List Int} {J : List Bool} (h : TP w wr U G n up J) (i : Nat) (z : Bool) : TP w (wr.setCell ⟨G, i, none⟩ (.bool z)) U G n up (J.set i z) := by
  obtain ⟨h1, h2, h3, h4⟩ := h
  obtain ⟨s1, s2⟩ := h2.stored i (.bool z)
  rw [bls_set] at s1
  exact ⟨h1.kept s2 (Or.inr fun e => by simp [Value.ownBlock] at e; omega), s1, h3, h4.setCell (p := ⟨G, i, none⟩) (h2.lt G rfl).1 _⟩
/-- How many are not joined, as memory tells. -/
def bfOf : Option Value → Nat
  | some (.bool false) => 1
  | _ => 0
def cntF (w : World) (G n : Nat) : Nat := ((List.range n).map fun i => bfOf (w.cell? ⟨G, i, none⟩)).sum
theorem cnt_outs {w : World} {G n : Nat} {I : List Nat} {J : List Bool} (hb : BAt w G J) (hj : JI n I J) : cntF w G n = (Rt.outs I n).length := by
  have : ∀ k, k ≤ n → ((List.range k).map fun i => bfOf (w.cell? ⟨G, i, none⟩)).sum = (Rt.outs I k).length := fun k => by
    induction k with
    | zero => intro _; rfl
    | succ k ih =>
      intro hk
      have e : bfOf (w.cell? ⟨G, k, none⟩) = if I.contains k then 0 else 1 := by
        rw [hb.2 k (by rw [hj.1]; omega), hj.2 k (by omega)]
        cases I.contains k <;> rfl
      rw [List.range_succ, List.map_append, List.sum_append, ih (by omega), Rt.outs_succ]
      simp only [List.map_cons, List.map_nil, List.sum_cons, List.sum_nil, e]
      split
      · simp
      · simp
  exact this n (Nat.le_refl _)
theorem outs_less {I : List Nat} {n k : Nat} (hk : k < n) (hm : ¬ k ∈ I) : (Rt.outs (I ++ [k]) n).length < (Rt.outs I n).length := by
  have e : Rt.outs (I ++ [k]) n = (Rt.outs I n).filter fun x => !(x == k) := by
    unfold Rt.outs
    rw [List.filter_filter]
    refine List.filter_congr fun x _ => ?_
    simp only [List.contains_eq_mem, List.mem_append, List.mem_singleton]
    by_cases h1 : x ∈ I <;> by_cases h2 : x = k <;> simp [h1, h2]
  rw [e]
  refine List.length_filter_lt_length_iff_exists.2 ⟨k, List.mem_filter.2 ⟨List.mem_range.2 hk, by simpa using hm⟩, by simp⟩
theorem JI.add {n k : Nat} {I : List Nat} {J : List Bool} (h : JI n I J) (hk : k < n) : JI n (I ++ [k]) (J.set k true) := by
  refine ⟨by simpa using h.1, fun i hi => ?_⟩
  by_cases e : i = k
  · subst e
    have : (J.set i true).getD i false = true := by simp [h.1, hi]
    rw [this]; simp
  · have : (J.set k true).getD i false = J.getD i false := by
      simp only [List.getD_eq_getElem?_getD]; rw [List.getElem?_set_ne (Ne.symm e)]
    rw [this, h.2 i hi, Bool.eq_iff_iff]
    simp [e]
theorem ji_more {n : Nat} {I : List Nat} {J : List Bool} (h : JI n I J) (hj : Rt.Jn n I) : J.contains false = decide (I.length < n) := by
  by_cases hl : I.length < n
  · rw [decide_eq_true hl]
    obtain ⟨k, _, _, hk, hm, _⟩ := Rt.best_some [] hj hl
    exact has_false (k := k) (by rw [h.1]; exact hk) (by rw [h.2 k hk]; simpa using hm)
  · rw [decide_eq_false hl]
    have := hj.len
    exact no_false fun i hi => by
      rw [h.1] at hi
      rw [h.2 i hi]
      simpa using hj.full (by omega) hi
theorem ji_zero (n : Nat) (_h : 1 ≤ n) : JI n [0] ((List.replicate n false).set 0 true) := by
  refine ⟨by simp, fun i hi => ?_⟩
  by_cases e : i = 0
  · subst e; simp [show 0 < n by omega]
  · have : ((List.replicate n false).set 0 true).getD i false = false := by
      simp only [List.getD_eq_getElem?_getD]; rw [List.getElem?_set_ne (Ne.symm e)]
      simp [hi]
    rw [this]; simp [e]
set_option maxHeartbeats 8000000 in
theorem to_yes {a : Option Addr} {n c : Nat} {L : List (Int × Int)} {w : World} (hl : Hid (L.length = n)) (h1 : 1 ≤ n) (hn : n ≤ 7) (hg : Hid (Rt.stopsB L = true)) (ha : Hid (FRow w a L)) :
    Calls Try.prog 27 #[.slice a n c] w fun e w' => ∃ (I : List Nat) (up : List Int) (s : Int) (lo X : Nat), Rt.tree L (n - 1) = (I, up, s) ∧ w.heap.size ≤ lo ∧ e = .returned (.tuple #[.slice (some ⟨X, 0, none⟩) n n, .int .i64 s, .bool true]) ∧ w'.ownsRow lo 3 1 (.slice (some ⟨X, 0, none⟩) n n) n (ints up) ∧ Below w.heap.size w w' := by
  have hs : Hid (Rt.allS L = true) := hide (Rt.stops_all hg.out)
  go_enter Try.func27, Try.ntmps27
  go_wp2_with fail
  refine (gst_eq hl ha hg).mono ?_
  rintro e w1 ⟨rfl, hb1⟩
  have B1 := hide hb1
  have hb2 := below_new w1 (.cells #[.int .i64 (-1)] 3)
  have HRP := hide (rp_any (n := n) (B := w1.heap.size) (w := w1.alloc (.cells #[.int .i64 (-1)] 3)) (by omega) (by simp) (by simp))
  have HB2 := hide (bw_below hb1 hb2)
  obtain ⟨w2, hw2⟩ : ∃ w2, w1.alloc (.cells #[.int .i64 (-1)] 3) = w2 := ⟨_, rfl⟩
  rw [hw2] at HRP HB2
  have HW2 := hide hw2
  clear hb1 hb2 hw2
  go_wp2_with (rw [HW2.out])
  refine HRP.out.mono ?_
  rintro e w3 ⟨rfl, hb3, own3⟩
  have hmk := makeB_run n (by omega)
  have hM := madeB_own w3 n (by omega)
  have hbM := below_new w3 (.cells (madeCells #[.bool false] n) 4)
  have hz3 : w2.heap.size < w3.heap.size := (own3.lt w2.heap.size rfl).2
  have hz2 : w.heap.size ≤ w2.heap.size := HB2.out.size
  have htp0 : TP w (w3.alloc (.cells (madeCells #[.bool false] n) 4)) w2.heap.size w3.heap.size n (List.replicate n (-1)) (List.replicate n false) := ⟨g_own (owns_low own3 hz2) hbM, owns_low hM (by omega), by omega, bw_below (bw_below HB2.out hb3) hbM⟩
  obtain ⟨w4, hw4⟩ : ∃ w4, w3.alloc (.cells (madeCells #[.bool false] n) 4) = w4 := ⟨_, rfl⟩
  rw [hw4] at htp0
  have HW4 := hide hw4
  have HTP0 := hide htp0
  have g0 : w4.cell? ⟨w3.heap.size, 0, none⟩ = some (.bool ((List.replicate n false).getD 0 false)) := by rw [htp0.2.1.cellAt 0 (by omega), bls_at _ 0 (by simp; omega)]
  have gf := htp0.2.1.frozenAt 0
  have n0 : (0 : Int) < (n : Int) := by omega
  generalize (List.replicate n false).getD 0 false = z0 at *
  have HTP1 := hide (htp0.putG 0 true)
  clear hM hbM hb3 own3 hw4 htp0 HRP
  go_upto_region 5 with fail
  rw [HW4.out]
  clear HW4 hmk HW2
  generalize w2.heap.size = U at *
  generalize w3.heap.size = G at *
  have HCO := hide (ji_zero n h1)
  have HT0 : Hid (Rt.tree L 0 = ([0], List.replicate n (-1), 0)) := hide (by simp [Rt.tree, hl.out])
  go_wp2_with fail
  go_loopw [7, 8] (fun s7 _ wr => ∃ (m : Nat) (I : List Nat) (up : List Int) (s : Int) (J : List Bool), s7 = .int .i64 s ∧ I.length = m + 1 ∧ m + 1 ≤ n ∧ Hid (Rt.tree L m = (I, up, s)) ∧ Hid (JI n I J) ∧ Hid (TP w wr U G n up J)) (fun _ _ wr => cntF wr G n)
  case atStart => exact ⟨0, [0], _, 0, _, rfl, rfl, h1, HT0, HCO, HTP1⟩
  case round =>
    clear HT0 HCO HTP1 HTP0
    obtain ⟨m, I, up, s, J, rfl, hI, hm, HT, HJI, HTP⟩ := hrel
    obtain ⟨hJ, _, hul⟩ := Rt.tree_jn hl.out h1 m (by omega)
    rw [HT.out] at hJ hul
    have HJ : Hid (Rt.Jn n I) := hide hJ
    have hul' : up.length = n := hul
    replace hJ : Rt.Jn n I := HJ.out
    have hCB := hide (ji_more HJI.out hJ)
    have HCT := hide (cnt_outs (HTP.out.bat HJI.out.1) HJI.out)
    have HJL := hide HJI.out.1
    have HBA := hide (HTP.out.bat HJI.out.1)
    clear hul
    by_cases hlt : m + 1 < n
    · have HC : Hid (J.contains false = true) := hide (by rw [hCB.out]; exact decide_eq_true (by omega))
      obtain ⟨k, j, hb, hk, hkI, hj, _⟩ := Rt.best_some L hJ (by omega)
      have HT2 := hide (Rt.tree_step hl.out HT.out hb)
      have HNJ := hide (nj_any (cg := n) (c := c) hl hn hs HJI (hide hb) (hide (ha.out.below HTP.out.2.2.2)) HBA)
      have HLE := hide (outs_less hk hkI)
      have hwb := Rt.wy_bd hs.out (stop_at hl.out hk) (stop_at hl.out hj)
      have sb := Rt.tree_bd hl.out h1 hs.out m (by omega)
      rw [HT.out] at sb
      generalize Rt.wy L k j = Y at *
      have hs0 : 0 ≤ s := sb.1
      have hs1 : s ≤ 700 := by have h2 : s ≤ 100 * (m : Int) := sb.2; omega
      have hy0 : 0 ≤ Y := hwb.1
      have hy1 : Y ≤ 100 := hwb.2
      clear hb hJ hCB sb hwb
      go_wp2_with fail
      refine (cb_any HJL (by omega) HBA HC).mono ?_
      rintro e w5 ⟨rfl, hw5⟩
      obtain rfl : wr = w5 := hw5.symm
      go_wp2_with fail
      refine HNJ.out.mono ?_
      rintro e w5 ⟨rfl, hb5⟩
      have tp5 := HTP.out.below hb5
      have hba := below_alloc w5 (.cells #[.int .i64 (k : Int), .int .i64 (j : Int), .int .i64 Y] 62)
      have tp6 := tp5.below hba
      have v0 : (w5.alloc (.cells #[.int .i64 (k : Int), .int .i64 (j : Int), .int .i64 Y] 62)).cell? ⟨w5.heap.size, 0, none⟩ = some (.int .i64 (k : Int)) := by simp
      have v1 : (w5.alloc (.cells #[.int .i64 (k : Int), .int .i64 (j : Int), .int .i64 Y] 62)).cell? ⟨w5.heap.size, 1, none⟩ = some (.int .i64 (j : Int)) := by simp
      have v2 : (w5.alloc (.cells #[.int .i64 (k : Int), .int .i64 (j : Int), .int .i64 Y] 62)).cell? ⟨w5.heap.size, 2, none⟩ = some (.int .i64 Y) := by simp
      have hUV : U ≠ w5.heap.size := by have := tp5.lo; omega
      have hGV : G ≠ w5.heap.size := by have := tp5.lo; omega
      obtain ⟨w6, hw6⟩ : ∃ w6, w5.alloc (.cells #[.int .i64 (k : Int), .int .i64 (j : Int), .int .i64 Y] 62) = w6 := ⟨_, rfl⟩
      rw [hw6] at tp6 v0 v1 v2
      have HW6 := hide hw6
      have cu : ∃ y, w6.cell? ⟨U, k, none⟩ = some y := by
        have := tp6.1.cellAt k (by omega)
        rw [this, ints_get _ k (by omega)]
        exact ⟨_, rfl⟩
      have cg : ∃ y, w6.cell? ⟨G, k, none⟩ = some y := by
        have := tp6.2.1.cellAt k (by omega)
        rw [this, bls_at _ k (by rw [HJL.out]; exact hk)]
        exact ⟨_, rfl⟩
      obtain ⟨yu, hyu⟩ := cu
      obtain ⟨yg, hyg⟩ := cg
      have fu := tp6.1.frozenAt k
      have fg := tp6.2.1.frozenAt k
      have HTP7 := hide ((tp6.putU k (j : Int)).putG k true)
      have k0 : (0 : Int) ≤ (k : Int) := by omega
      have k1 : (k : Int) < (n : Int) := by omega
      have hUG := tp6.2.2.1
      have hGU : G ≠ U := fun e => hUG e.symm
      have hVU : w5.heap.size ≠ U := fun e => hUV e.symm
      have hVG : w5.heap.size ≠ G := fun e => hGV e.symm
      have HJI2 := hide (HJI.out.add hk)
      clear tp5 tp6 hba hw6 hb5 HNJ HTP HBA
      go_upto_region 9 with fail
      rw [HW6.out]
      clear HW6
      generalize w5.heap.size = V at *
      go_region
      have HTP8 := hide (HTP7.out.below ((Below.refl _ _).drew))
      have v3 : ((w6.setCell ⟨U, k, none⟩ (.int .i64 (j : Int))).setCell ⟨G, k, none⟩ (.bool true)).drew.cell? ⟨V, 2, none⟩ = some (.int .i64 Y) := by
        show ((w6.setCell ⟨U, k, none⟩ (.int .i64 (j : Int))).setCell ⟨G, k, none⟩ (.bool true)).cell? ⟨V, 2, none⟩ = some (.int .i64 Y)
        rw [World.cell?_setCell_other _ _ _ _ (fun e => hGV (by injection e)), World.cell?_setCell_other _ _ _ _ (fun e => hUV (by injection e))]
        exact v2
      have HCT2 := hide (cnt_outs (HTP8.out.bat HJI2.out.1) HJI2.out)
      generalize ((w6.setCell ⟨U, k, none⟩ (.int .i64 (j : Int))).setCell ⟨G, k, none⟩ (.bool true)).drew = w8 at *
      clear HTP7 v0 v1 v2 hyu hyg fu fg
      go_wp2_with fail
      go_roundw
      case rel => exact ⟨m + 1, I ++ [k], up.set k (j : Int), s + Y, J.set k true, rfl, by simp [hI], by omega, HT2, HJI2, HTP8⟩
      case measure => rw [HCT2.out, HCT.out]; exact HLE.out
    · have hme : m = n - 1 := by omega
      have HC : Hid (J.contains false = false) := hide (by rw [hCB.out]; exact decide_eq_false (by omega))
      have HT2 : Hid (Rt.tree L (n - 1) = (I, up, s)) := hide (by rw [← hme]; exact HT.out)
      clear hme hJ hCB
      go_wp2_with fail
      refine (cb_any HJL (by omega) HBA HC).mono ?_
      rintro e w5 ⟨rfl, hw5⟩
      obtain rfl : wr = w5 := hw5.symm
      go_wp2_with fail
      exact bodyPost_ret (v := .tuple #[.slice (some ⟨U, 0, none⟩) n n, .int .i64 s, .bool true]) (by simp [results, Try.results27, go_sem]) rfl ⟨I, up, s, w.heap.size, U, HT2.out, Nat.le_refl _, rfl, HTP.out.1, HTP.out.2.2.2⟩
set_option maxHeartbeats 1000000 in
theorem to_w {a : Option Addr} {n c : Nat} {L : List (Int × Int)} {w : World} (hl : L.length = n) (ha : FRow w a L) :
    Calls Try.prog 27 #[.slice a n c] w fun e w' => TA w' w.heap.size L e ∧ Below w.heap.size w w' := by
  have HA := hide ha
  have HL := hide hl
  cases hg : Rt.stopsB L
  · obtain ⟨e1, e2⟩ := toL_no hg
    have HG := hide hg
    have HE : Hid (∀ w' e, e = .returned (.tuple #[.slice none 0 0, .int .i64 0, .bool false]) → TA w' w.heap.size L e) := hide fun w' e he => ⟨.slice none 0 0, by rw [he, e2, hg], by rw [e1]; exact av_none _ _⟩
    clear ha hl hg e1 e2
    go_enter Try.func27, Try.ntmps27
    go_wp2_with fail
    refine (gst_eq HL HA HG).mono ?_
    rintro e w1 ⟨rfl, hb1⟩
    go_wp2_with fail
    refine bodyPost_ret (v := .tuple #[.slice none 0 0, .int .i64 0, .bool false]) (by simp [results, Try.results27, go_sem]) rfl ⟨HE.out _ _ rfl, hb1⟩
  · obtain ⟨s1, s2⟩ := Rt.stops_len hg
    obtain ⟨e1, e2, e3⟩ := toL_len hl hg
    refine (to_yes (c := c) HL (by omega) (by omega) (hide hg) HA).mono ?_
    rintro e w' ⟨I, up, s, lo, X, ht, hlo, rfl, ho, hb⟩
    rw [ht] at e2 e3
    refine ⟨⟨_, by rw [e3, hg], ?_⟩, hb⟩
    rw [e1, e2]
    exact AV.new (owns_low ho hlo)
theorem toL_le (L : List (Int × Int)) : (Rt.toL L).length ≤ 1048576 := by
  cases h : Rt.stopsB L
  · rw [(toL_no h).1]; simp
  · have := (toL_len rfl h).1
    have := Rt.stops_len h
    omega
theorem to_v {a : Option Addr} {n c : Nat} {L : List (Int × Int)} {w : World} (hl : L.length = n) (ha : FRow w a L) :
    Calls Try.prog 27 #[.slice a n c] w fun e w' => ∃ v, e = .returned (.tuple #[v, .int .i64 (Rt.toI L), .bool (Rt.stopsB L)]) ∧ Below w.heap.size w w' ∧ AV w' w.heap.size w'.heap.size v (Rt.toL L).length (Rt.toL L) :=
  (to_w hl ha).mono fun _ _ ⟨⟨v, he, hv⟩, hb⟩ => ⟨v, he, hb, hv⟩
theorem sto_v {a : Option Addr} {n c : Nat} {L : List (Int × Int)} {w : World} (hl : L.length = n) (hn : n ≤ 1048576) (ha : FRow w a L) :
    Calls Try.prog 26 #[.slice a n c] w fun e w' => ∃ v, e = .returned (.tuple #[v, .int .i64 (Rt.toI L), .bool (Rt.stopsB L)]) ∧ Below w.heap.size w w' ∧ AV w' w.heap.size w'.heap.size v (Rt.toL L).length (Rt.toL L) :=
  (sto_w hl hn ha).mono fun _ _ ⟨⟨v, he, hv⟩, hb⟩ => ⟨v, he, hb, hv⟩
end Go.Proofs.Ytkiadodoehcbmaa
