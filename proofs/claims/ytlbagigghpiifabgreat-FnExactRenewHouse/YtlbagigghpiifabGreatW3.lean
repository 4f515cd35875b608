/-
  In one: Hk17, Hg17, Hh17, Sd, Se, Hl17, Hm17, Gn, Gp, Gq, Gr, Gs, Gt, LGoods, Gu, Na.
-/
import Derived.Test.YtlbagigghpiifabGreatW2
import Derived.Test.YtlbagigghpiifabGreatW1
import Derived.Deep.DeepCutAuto
import Derived.Deep.RegionHeld3
import Derived.BigQuiet
import Derived.Deep.CutBlock
import Derived.Deep.AppendLies
import Derived.Shelf.Abstract
import Derived.OwnWalk
namespace Go.Proofs.YtlbagigghpiifabGreat
open Go.RowKit

theorem makeFr_run (n : Nat) (hn : n ≤ 1048576) (w : World) : (Instr.makeSlice 79 (.int .i64 (n : Int)) (.int .i64 (n : Int))).run Tryz.prog w = .ok (.slice (some ⟨w.heap.size, 0, none⟩) n n) (w.alloc (.cells (madeCells #[.int .i64 0, .int .i64 0] (n * 2)) 32)) := by
  have h : (Tryz.prog.info? 32).map (fun i => (i.zero, i.size, i.bytes)) = some (some (.agg #[.int .i64 0, .int .i64 0]), 2, 16) := by kernel_rfl
  obtain ⟨i, hi, hzz⟩ := Option.map_eq_some_iff.1 h
  simp only [Prod.mk.injEq] at hzz
  obtain ⟨hz, hs, hb⟩ := hzz
  have := run_make (P := Tryz.prog) w 79 32 i _ Tryz.underlying79 hi hz .i64 .i64 (n : Int) (n : Int) (by omega) (by omega) (by rw [hb]; omega) (by omega)
  simpa [hs, Value.cells] using this
theorem madeFr_cell (w : World) (n j : Nat) (t : TypeId) (hj : j < n * 2) : (w.alloc (.cells (madeCells #[.int .i64 0, .int .i64 0] (n * 2)) t)).cell? ⟨w.heap.size, j, none⟩ = some (.int .i64 0) := by
  have h2 : j % 2 = 0 ∨ j % 2 = 1 := by omega
  have h3 : (madeCells #[.int .i64 0, .int .i64 0] (n * 2))[j]? = some (.int .i64 0) := by
    rcases h2 with h2 | h2 <;> simp [madeCells, hj, h2]
  simp only [World.cell?, (MapKept.heap_alloc w _).1]
  simpa using h3
theorem madeFr_frozen (w : World) (c : Array Value) (j : Nat) (t : TypeId) : (w.alloc (.cells c t)).frozen? ⟨w.heap.size, j, none⟩ = false := by simp [go_sem]
theorem setFr1 {W : World} {a : Addr} {v : Value} (h : (W.cell? a).isSome = true) : (W.setCell a v).cell? a = some v := by
  obtain ⟨u, hu⟩ := Option.isSome_iff_exists.1 h
  exact World.cell?_setCell_same _ _ _ hu
theorem putFr2 {W : World} {B i : Nat} {x y : Value} (h0 : (W.cell? ⟨B, i, none⟩).isSome = true) (h1 : (W.cell? ⟨B, i + 1, none⟩).isSome = true) :
    ((W.setCell ⟨B, i, none⟩ x).setCell ⟨B, i + 1, none⟩ y).cell? ⟨B, i, none⟩ = some x ∧ ((W.setCell ⟨B, i, none⟩ x).setCell ⟨B, i + 1, none⟩ y).cell? ⟨B, i + 1, none⟩ = some y ∧
    (∀ j, j ≠ i → j ≠ i + 1 → ((W.setCell ⟨B, i, none⟩ x).setCell ⟨B, i + 1, none⟩ y).cell? ⟨B, j, none⟩ = W.cell? ⟨B, j, none⟩) ∧ (∀ a, ((W.setCell ⟨B, i, none⟩ x).setCell ⟨B, i + 1, none⟩ y).frozen? a = W.frozen? a) := by
  refine ⟨?_, ?_, ?_, ?_⟩
  · rw [World.cell?_setCell_other _ _ _ _ (by simp)]; exact setFr1 h0
  · exact setFr1 (by rw [World.cell?_setCell_other _ _ _ _ (by simp)]; exact h1)
  · intro j hj hj'
    rw [World.cell?_setCell_other _ _ _ _ (fun e => hj' (by injection e with _ e2; exact e2.symm)), World.cell?_setCell_other _ _ _ _ (fun e => hj (by injection e with _ e2; exact e2.symm))]
  · intro a; rw [World.frozen?_setCell, World.frozen?_setCell]
/-- The fractions laid so far, in a block that is made for n of them. -/
structure Far (W : World) (G n : Nat) (L : List (Int × Int)) (k : Nat) : Prop where
  row : ∀ i, i < k → W.cell? ⟨G, i * 2, none⟩ = some (.int .i64 (L.getD i (0, 0)).1) ∧ W.cell? ⟨G, i * 2 + 1, none⟩ = some (.int .i64 (L.getD i (0, 0)).2)
  all : ∀ j, j < n * 2 → (W.cell? ⟨G, j, none⟩).isSome = true ∧ W.frozen? ⟨G, j, none⟩ = false
  lt : G < W.heap.size
theorem Far.start (w : World) (n : Nat) (L : List (Int × Int)) (t : TypeId) : Far (w.alloc (.cells (madeCells #[.int .i64 0, .int .i64 0] (n * 2)) t)) w.heap.size n L 0 :=
  ⟨fun i hi => absurd hi (Nat.not_lt_zero _), fun j hj => ⟨by rw [madeFr_cell _ _ _ _ hj]; rfl, madeFr_frozen _ _ _ _⟩, by simp⟩
theorem Far.below {W W' : World} {G n k : Nat} {L : List (Int × Int)} (h : Far W G n L k) (hb : Below W.heap.size W W') : Far W' G n L k :=
  ⟨fun i hi => ⟨(hb.cell (p := ⟨G, i * 2, none⟩) h.lt).trans (h.row i hi).1, (hb.cell (p := ⟨G, i * 2 + 1, none⟩) h.lt).trans (h.row i hi).2⟩, fun j hj => ⟨by rw [hb.cell (p := ⟨G, j, none⟩) h.lt]; exact (h.all j hj).1, (hb.frozen (p := ⟨G, j, none⟩) h.lt).trans (h.all j hj).2⟩, Nat.lt_of_lt_of_le h.lt hb.size⟩
theorem Far.put {W : World} {G n k : Nat} {L : List (Int × Int)} (h : Far W G n L k) (hk : k < n) {x y : Int} (hx : L.getD k (0, 0) = (x, y)) : Far ((W.setCell ⟨G, k * 2, none⟩ (.int .i64 x)).setCell ⟨G, k * 2 + 1, none⟩ (.int .i64 y)) G n L (k + 1) := by
  obtain ⟨p0, p1, p2, p3⟩ := putFr2 (W := W) (B := G) (i := k * 2) (x := .int .i64 x) (y := .int .i64 y) (h.all (k * 2) (by omega)).1 (h.all (k * 2 + 1) (by omega)).1
  refine ⟨fun i hi => ?_, fun j hj => ⟨?_, (p3 _).trans (h.all j hj).2⟩, by simpa using h.lt⟩
  · by_cases e : i = k
    · subst e; rw [hx]; exact ⟨p0, p1⟩
    · have := h.row i (by omega)
      exact ⟨(p2 _ (by omega) (by omega)).trans this.1, (p2 _ (by omega) (by omega)).trans this.2⟩
  · by_cases e : j = k * 2
    · subst e; rw [p0]; rfl
    · by_cases e2 : j = k * 2 + 1
      · subst e2; rw [p1]; rfl
      · rw [p2 j e e2]; exact (h.all j hj).1
theorem Far.rowAt {W : World} {G n : Nat} {L : List (Int × Int)} (h : Far W G n L n) (hl : L.length = n) : RowAt W G 0 L := fun i hi => by
  have := h.row i (by omega)
  rw [Nat.zero_add]
  exact this
def cv17 (w : World) (C k : Nat) : Value := (w.cell? ⟨C, k, none⟩).getD (.bool false)
theorem cv17_of {w : World} {C k : Nat} {v : Value} (h : w.cell? ⟨C, k, none⟩ = some v) : w.cell? ⟨C, k, none⟩ = some (cv17 w C k) := by rw [cv17, h]; rfl
set_option maxHeartbeats 4000000 in
theorem ca_any {a b o p : Option Addr} {n m c d e f : Nat} {ps cs ws os : List Int} {w : World} (HN : Hid (ws.length = n)) (HM : Hid (cs.length = m)) (HR : Hid (ps.length = m)) (HQ : Hid (os.length = n)) (hn10 : n ≤ 10)
    (HP : Hid (∀ i, i < m → 1 ≤ ps.getD i 0 ∧ ps.getD i 0 ≤ 30)) (HC : Hid (∀ i, i < m → 1 ≤ cs.getD i 0 ∧ cs.getD i 0 ≤ 10)) (HW : Hid (∀ i, i < n → 0 ≤ ws.getD i 0 ∧ ws.getD i 0 ≤ 1000)) (HO : Hid (∀ i, i < n → 0 ≤ os.getD i 0 ∧ os.getD i 0 < (m : Int)))
    (HA : Hid (ARow w a ws)) (HB : Hid (ARow w b cs)) (HOr : Hid (ARow w o os)) (HPr : Hid (ARow w p ps)) :
    Calls Tryz.prog 57 #[.agg #[.slice a n c, .slice b m d, .slice o n e, .slice p m f]] w fun e w' => ∃ g, e = .returned (.slice (some ⟨g, 0, none⟩) n n) ∧ Below w.heap.size w w' ∧ g < w'.heap.size ∧ RowAt w' g 0 (Hs.farL ps cs ws os) := by
  have hmk := makeFr_run n (by omega)
  have hb0 := below_new w (.cells #[.slice a n c, .slice b m d, .slice o n e, .slice p m f] 90)
  have hx0 := DyBox.new w (.slice a n c) (.slice b m d) (.slice o n e) (.slice p m f) 90
  have hz0 : (w.alloc (.cells #[.slice a n c, .slice b m d, .slice o n e, .slice p m f] 90)).heap.size = w.heap.size + 1 := by simp
  have hb1 := below_new (w.alloc (.cells #[.slice a n c, .slice b m d, .slice o n e, .slice p m f] 90)) (.cells (madeCells #[.int .i64 0, .int .i64 0] (n * 2)) 32)
  have HF1 := Far.start (w.alloc (.cells #[.slice a n c, .slice b m d, .slice o n e, .slice p m f] 90)) n (Hs.farL ps cs ws os) 32
  have HX1 := hide (hx0.below hb1)
  have HW1 := hide (hb0.trans (hb1.mono hb0.size))
  rw [hz0] at HF1
  have HF1 := hide HF1
  have HQL := hide (Hs.farL_len ps cs ws os)
  clear hb0 hx0 hb1
  go_enter Tryz.func57, Tryz.ntmps57
  go_wp2_with fail
  generalize hW1 : (w.alloc (.cells #[.slice a n c, .slice b m d, .slice o n e, .slice p m f] 90)).alloc (.cells (madeCells #[.int .i64 0, .int .i64 0] (n * 2)) 32) = W1 at *
  clear hW1 hmk hz0
  go_loopw [4, 5, 15] (fun _ _ s wr => ∃ (k : Nat), s = .int .i64 k ∧ k ≤ n ∧ Hid (Far wr (w.heap.size + 1) n (Hs.farL ps cs ws os) k) ∧ Hid (Below w.heap.size w wr) ∧ Hid (wr.cell? ⟨w.heap.size, 0, none⟩ = some (.slice a n c) ∧ wr.cell? ⟨w.heap.size, 1, none⟩ = some (.slice b m d) ∧ wr.cell? ⟨w.heap.size, 3, none⟩ = some (.slice p m f))) (fun _ _ s _ => n - (intOf s).toNat)
  case atStart => exact ⟨0, rfl, Nat.zero_le _, HF1, HW1, hide ⟨HX1.out.1, HX1.out.2.1, HX1.out.2.2.2.1⟩⟩
  case round =>
    clear HF1 HW1 HX1
    obtain ⟨k, rfl, hk, HFr, HBw, HX⟩ := hrel
    obtain ⟨x0, x1, x3⟩ := HX.out
    by_cases hlt : k < n
    · have i0 : (0 : Int) ≤ (k : Int) := by omega
      have i1 : (k : Int) < (n : Int) := by omega
      obtain ⟨hx0, hx1⟩ := HO.out k hlt
      obtain ⟨hw0, hw1⟩ := HW.out k hlt
      obtain ⟨bo, oo, rfl, r1⟩ := (HOr.out.below HBw.out).at (i := k) (by rw [HQ.out]; exact hlt)
      obtain ⟨ba, oa, rfl, r2⟩ := (HA.out.below HBw.out).at (i := k) (by rw [HN.out]; exact hlt)
      have HL := hide (Hs.farL_at ps cs ws os (s := k) (by rw [HQ.out]; exact hlt))
      generalize hxx : os.getD k 0 = x at *
      obtain ⟨j, rfl⟩ := Int.eq_ofNat_of_zero_le hx0
      have hjm : j < m := by omega
      rw [Int.toNat_natCast] at HL
      obtain ⟨bp, op, rfl, r3⟩ := (HPr.out.below HBw.out).at (i := j) (by rw [HR.out]; exact hjm)
      obtain ⟨bb, ob, rfl, r4⟩ := (HB.out.below HBw.out).at (i := j) (by rw [HM.out]; exact hjm)
      obtain ⟨p0, p1⟩ := HP.out j hjm
      obtain ⟨c0, c1⟩ := HC.out j hjm
      have j0 : (0 : Int) ≤ (j : Int) := by omega
      have j1 : (j : Int) < (m : Int) := by omega
      generalize hY0 : ws.getD k 0 = y at *
      generalize hZ0 : ps.getD j 0 = z at *
      generalize hV0 : cs.getD j 0 = v at *
      have hyz0 : 0 ≤ y * z := Int.mul_nonneg (by omega) (by omega)
      have hyz1 : y * z ≤ 1000 * 30 := Int.mul_le_mul hw1 p1 (by omega) (by omega)
      have mm := wrap_mul y z (by omega) (by omega) (by omega) (by omega)
      have HCL := hide fun (W : World) => lowest_pos (y * z) v W (by omega) (by omega) (by omega) (by omega)
      have hml : Hid ((Hs.farL ps cs ws os).getD k (0, 0) = (Fr.mkN (y * z) v, Fr.mkD (y * z) v)) := hide HL.out
      generalize Fr.mkN (y * z) v = X at *
      generalize Fr.mkD (y * z) v = Y at *
      have HRD : Hid (∀ W, Below w.heap.size w W → W.cell? ⟨ba, oa + k, none⟩ = some (.int .i64 y) ∧ W.cell? ⟨bp, op + j, none⟩ = some (.int .i64 z) ∧ W.cell? ⟨bb, ob + j, none⟩ = some (.int .i64 v)) := hide fun W hb => by
        obtain ⟨_, _, e1, q1⟩ := (HA.out.below hb).at (i := k) (by rw [HN.out]; exact hlt)
        cases e1
        obtain ⟨_, _, e2, q2⟩ := (HPr.out.below hb).at (i := j) (by rw [HR.out]; exact hjm)
        cases e2
        obtain ⟨_, _, e3, q3⟩ := (HB.out.below hb).at (i := j) (by rw [HM.out]; exact hjm)
        cases e3
        rw [hY0] at q1
        rw [hZ0] at q2
        rw [hV0] at q3
        exact ⟨q1, q2, q3⟩
      have HST : Hid (∀ W V, ((W.cell? ⟨w.heap.size, 0, none⟩ = some (.slice (some ⟨ba, oa, none⟩) n c) ∧ W.cell? ⟨w.heap.size, 1, none⟩ = some (.slice (some ⟨bb, ob, none⟩) m d) ∧ W.cell? ⟨w.heap.size, 3, none⟩ = some (.slice (some ⟨bp, op, none⟩) m f)) ∧ Below w.heap.size w W ∧ w.heap.size + 1 < W.heap.size) → Below W.heap.size W V → ((V.cell? ⟨w.heap.size, 0, none⟩ = some (.slice (some ⟨ba, oa, none⟩) n c) ∧ V.cell? ⟨w.heap.size, 1, none⟩ = some (.slice (some ⟨bb, ob, none⟩) m d) ∧ V.cell? ⟨w.heap.size, 3, none⟩ = some (.slice (some ⟨bp, op, none⟩) m f)) ∧ Below w.heap.size w V ∧ w.heap.size + 1 < V.heap.size)) := hide fun W V h hb => by
        obtain ⟨⟨a0, a1, a3⟩, b1, b2⟩ := h
        have hBs : w.heap.size < W.heap.size := by omega
        exact ⟨⟨(hb.cell (p := ⟨w.heap.size, 0, none⟩) hBs).trans a0, (hb.cell (p := ⟨w.heap.size, 1, none⟩) hBs).trans a1, (hb.cell (p := ⟨w.heap.size, 3, none⟩) hBs).trans a3⟩, b1.trans (hb.mono b1.size), Nat.lt_of_lt_of_le b2 hb.size⟩
      have HSC : Hid (∀ W V1 V2, ((W.cell? ⟨w.heap.size, 0, none⟩ = some (.slice (some ⟨ba, oa, none⟩) n c) ∧ W.cell? ⟨w.heap.size, 1, none⟩ = some (.slice (some ⟨bb, ob, none⟩) m d) ∧ W.cell? ⟨w.heap.size, 3, none⟩ = some (.slice (some ⟨bp, op, none⟩) m f)) ∧ Below w.heap.size w W ∧ w.heap.size + 1 < W.heap.size) → ((((W.setCell ⟨w.heap.size + 1, k * 2, none⟩ V1).setCell ⟨w.heap.size + 1, k * 2 + 1, none⟩ V2).cell? ⟨w.heap.size, 0, none⟩ = some (.slice (some ⟨ba, oa, none⟩) n c) ∧ ((W.setCell ⟨w.heap.size + 1, k * 2, none⟩ V1).setCell ⟨w.heap.size + 1, k * 2 + 1, none⟩ V2).cell? ⟨w.heap.size, 1, none⟩ = some (.slice (some ⟨bb, ob, none⟩) m d) ∧ ((W.setCell ⟨w.heap.size + 1, k * 2, none⟩ V1).setCell ⟨w.heap.size + 1, k * 2 + 1, none⟩ V2).cell? ⟨w.heap.size, 3, none⟩ = some (.slice (some ⟨bp, op, none⟩) m f)) ∧ Below w.heap.size w ((W.setCell ⟨w.heap.size + 1, k * 2, none⟩ V1).setCell ⟨w.heap.size + 1, k * 2 + 1, none⟩ V2) ∧ w.heap.size + 1 < ((W.setCell ⟨w.heap.size + 1, k * 2, none⟩ V1).setCell ⟨w.heap.size + 1, k * 2 + 1, none⟩ V2).heap.size)) := hide fun W V1 V2 h => by
        obtain ⟨⟨a0, a1, a3⟩, b1, b2⟩ := h
        have hb' := (b1.setCell (p := ⟨w.heap.size + 1, k * 2, none⟩) (by show w.heap.size ≤ w.heap.size + 1; omega) V1).setCell (p := ⟨w.heap.size + 1, k * 2 + 1, none⟩) (by show w.heap.size ≤ w.heap.size + 1; omega) V2
        have hne : ∀ i, ((W.setCell ⟨w.heap.size + 1, k * 2, none⟩ V1).setCell ⟨w.heap.size + 1, k * 2 + 1, none⟩ V2).cell? ⟨w.heap.size, i, none⟩ = W.cell? ⟨w.heap.size, i, none⟩ := fun i => by
          rw [World.cell?_setCell_other _ _ _ _ (by simp), World.cell?_setCell_other _ _ _ _ (by simp)]
        exact ⟨⟨(hne 0).trans a0, (hne 1).trans a1, (hne 3).trans a3⟩, hb', by simpa using b2⟩
      have hS0 := HST.out wr wr.drew ⟨⟨x0, x1, x3⟩, HBw.out, HFr.out.lt⟩ (Below.refl _ _).drew
      have HFd := hide (HFr.out.below (Below.refl _ _).drew)
      have mi : IntKind.i64.wrap (y * z) = y * z := by rw [IntKind.wrap_i64]; omega
      clear r2 r3 r4 HL hyz0 hyz1 x0 x1 x3 hxx hY0 hZ0 hV0
      go_upto_region 5 with fail
      refine wp_region_noPanic ?_
      refine wp_region_held_drew (S := fun w' => ((w'.cell? ⟨w.heap.size, 0, none⟩ = some (.slice (some ⟨ba, oa, none⟩) n c) ∧ w'.cell? ⟨w.heap.size, 1, none⟩ = some (.slice (some ⟨bb, ob, none⟩) m d) ∧ w'.cell? ⟨w.heap.size, 3, none⟩ = some (.slice (some ⟨bp, op, none⟩) m f)) ∧ Below w.heap.size w w' ∧ w.heap.size + 1 < w'.heap.size)) (by kernel_rfl) hS0 (fun hHeld => ?_)
      refine wpAnyH_take (i := 0) (oi := ⟨some 20, _, _, _, _, none⟩) (v := .slice (some ⟨w.heap.size + 1, 0, none⟩) n n) rfl (by kernel_rfl) (by kernel_rfl) (by kernel_rfl) (fun _ _ _ h => h) (Or.inl ⟨by rfl, fun w' hSw => by clear hSw; go_simp⟩) hHeld ?_
      simp only [Act.put, List.setIfInBounds_toArray, List.set_cons_zero, List.set_cons_succ]
      refine wpAnyH_take (i := 1) (oi := ⟨some 21, _, _, _, _, none⟩) (v := .int .i64 (k : Int)) rfl (by kernel_rfl) (by kernel_rfl) (by kernel_rfl) (fun _ _ _ h => h) (Or.inl ⟨by rfl, fun w' hSw => by clear hSw; go_simp⟩) hHeld ?_
      simp only [Act.put, List.setIfInBounds_toArray, List.set_cons_zero, List.set_cons_succ]
      refine wpAnyH_take (i := 2) (oi := ⟨some 22, _, _, _, _, none⟩) (v := .pointer (some ⟨w.heap.size, 0, none⟩)) rfl (by kernel_rfl) (by kernel_rfl) (by kernel_rfl) (fun _ _ _ h => h) (Or.inl ⟨by rfl, fun w' hSw => by clear hSw; go_simp⟩) hHeld ?_
      simp only [Act.put, List.setIfInBounds_toArray, List.set_cons_zero, List.set_cons_succ]
      refine wpAnyH_take (i := 3) (oi := ⟨some 23, _, _, _, _, none⟩) (v := .pointer (some ⟨w.heap.size, 0, none⟩)) rfl (by kernel_rfl) (by kernel_rfl) (by kernel_rfl) (fun _ _ _ h => h) (Or.inl ⟨by rfl, fun w' hSw => by clear hSw; go_simp⟩) hHeld ?_
      simp only [Act.put, List.setIfInBounds_toArray, List.set_cons_zero, List.set_cons_succ]
      refine wpAnyH_take (i := 4) (oi := ⟨some 24, _, _, _, _, none⟩) (v := .slice (some ⟨ba, oa, none⟩) n c) rfl (by kernel_rfl) (by kernel_rfl) (by kernel_rfl) (fun _ _ _ h => h) (Or.inl ⟨by rfl, fun w' hSw => by obtain ⟨⟨x0, x1, x3⟩, _, _⟩ := hSw; go_simp⟩) hHeld ?_
      simp only [Act.put, List.setIfInBounds_toArray, List.set_cons_zero, List.set_cons_succ]
      refine wpAnyH_take (i := 5) (oi := ⟨some 25, _, _, _, _, none⟩) (v := .int .i64 (k : Int)) rfl (by kernel_rfl) (by kernel_rfl) (by kernel_rfl) (fun _ _ _ h => h) (Or.inl ⟨by rfl, fun w' hSw => by clear hSw; go_simp⟩) hHeld ?_
      simp only [Act.put, List.setIfInBounds_toArray, List.set_cons_zero, List.set_cons_succ]
      refine wpAnyH_take (i := 6) (oi := ⟨some 26, _, _, _, _, none⟩) (v := .pointer (some ⟨ba, oa + k, none⟩)) rfl (by kernel_rfl) (by kernel_rfl) (by kernel_rfl) (fun _ _ _ h => h) (Or.inl ⟨by rfl, fun w' hSw => by clear hSw; go_simp⟩) hHeld ?_
      simp only [Act.put, List.setIfInBounds_toArray, List.set_cons_zero, List.set_cons_succ]
      refine wpAnyH_take (i := 7) (oi := ⟨some 27, _, _, _, _, none⟩) (v := .int .i64 y) rfl (by kernel_rfl) (by kernel_rfl) (by kernel_rfl) (fun _ _ _ h => h) (Or.inl ⟨by rfl, fun w' hSw => by obtain ⟨_, hbw, _⟩ := hSw; obtain ⟨q1, q2, q3⟩ := HRD.out _ hbw; clear hbw; go_simp⟩) hHeld ?_
      simp only [Act.put, List.setIfInBounds_toArray, List.set_cons_zero, List.set_cons_succ]
      refine wpAnyH_take (i := 8) (oi := ⟨some 28, _, _, _, _, none⟩) (v := .pointer (some ⟨w.heap.size, 3, none⟩)) rfl (by kernel_rfl) (by kernel_rfl) (by kernel_rfl) (fun _ _ _ h => h) (Or.inl ⟨by rfl, fun w' hSw => by clear hSw; go_simp⟩) hHeld ?_
      simp only [Act.put, List.setIfInBounds_toArray, List.set_cons_zero, List.set_cons_succ]
      refine wpAnyH_take (i := 9) (oi := ⟨some 29, _, _, _, _, none⟩) (v := .slice (some ⟨bp, op, none⟩) m f) rfl (by kernel_rfl) (by kernel_rfl) (by kernel_rfl) (fun _ _ _ h => h) (Or.inl ⟨by rfl, fun w' hSw => by obtain ⟨⟨x0, x1, x3⟩, _, _⟩ := hSw; go_simp⟩) hHeld ?_
      simp only [Act.put, List.setIfInBounds_toArray, List.set_cons_zero, List.set_cons_succ]
      refine wpAnyH_take (i := 10) (oi := ⟨some 30, _, _, _, _, none⟩) (v := .int .i64 (j : Int)) rfl (by kernel_rfl) (by kernel_rfl) (by kernel_rfl) (fun _ _ _ h => h) (Or.inl ⟨by rfl, fun w' hSw => by clear hSw; go_simp⟩) hHeld ?_
      simp only [Act.put, List.setIfInBounds_toArray, List.set_cons_zero, List.set_cons_succ]
      refine wpAnyH_take (i := 11) (oi := ⟨some 31, _, _, _, _, none⟩) (v := .pointer (some ⟨bp, op + j, none⟩)) rfl (by kernel_rfl) (by kernel_rfl) (by kernel_rfl) (fun _ _ _ h => h) (Or.inl ⟨by rfl, fun w' hSw => by clear hSw; go_simp⟩) hHeld ?_
      simp only [Act.put, List.setIfInBounds_toArray, List.set_cons_zero, List.set_cons_succ]
      refine wpAnyH_take (i := 12) (oi := ⟨some 32, _, _, _, _, none⟩) (v := .int .i64 z) rfl (by kernel_rfl) (by kernel_rfl) (by kernel_rfl) (fun _ _ _ h => h) (Or.inl ⟨by rfl, fun w' hSw => by obtain ⟨_, hbw, _⟩ := hSw; obtain ⟨q1, q2, q3⟩ := HRD.out _ hbw; clear hbw; go_simp⟩) hHeld ?_
      simp only [Act.put, List.setIfInBounds_toArray, List.set_cons_zero, List.set_cons_succ]
      refine wpAnyH_take (i := 13) (oi := ⟨some 33, _, _, _, _, none⟩) (v := .int .i64 (y * z)) rfl (by kernel_rfl) (by kernel_rfl) (by kernel_rfl) (fun _ _ _ h => h) (Or.inl ⟨by rfl, fun w' hSw => by clear hSw; go_simp⟩) hHeld ?_
      simp only [Act.put, List.setIfInBounds_toArray, List.set_cons_zero, List.set_cons_succ]
      refine wpAnyH_take (i := 14) (oi := ⟨some 34, _, _, _, _, none⟩) (v := .pointer (some ⟨w.heap.size, 0, none⟩)) rfl (by kernel_rfl) (by kernel_rfl) (by kernel_rfl) (fun _ _ _ h => h) (Or.inl ⟨by rfl, fun w' hSw => by clear hSw; go_simp⟩) hHeld ?_
      simp only [Act.put, List.setIfInBounds_toArray, List.set_cons_zero, List.set_cons_succ]
      refine wpAnyH_take (i := 15) (oi := ⟨some 35, _, _, _, _, none⟩) (v := .pointer (some ⟨w.heap.size, 1, none⟩)) rfl (by kernel_rfl) (by kernel_rfl) (by kernel_rfl) (fun _ _ _ h => h) (Or.inl ⟨by rfl, fun w' hSw => by clear hSw; go_simp⟩) hHeld ?_
      simp only [Act.put, List.setIfInBounds_toArray, List.set_cons_zero, List.set_cons_succ]
      refine wpAnyH_take (i := 16) (oi := ⟨some 36, _, _, _, _, none⟩) (v := .slice (some ⟨bb, ob, none⟩) m d) rfl (by kernel_rfl) (by kernel_rfl) (by kernel_rfl) (fun _ _ _ h => h) (Or.inl ⟨by rfl, fun w' hSw => by obtain ⟨⟨x0, x1, x3⟩, _, _⟩ := hSw; go_simp⟩) hHeld ?_
      simp only [Act.put, List.setIfInBounds_toArray, List.set_cons_zero, List.set_cons_succ]
      refine wpAnyH_take (i := 17) (oi := ⟨some 37, _, _, _, _, none⟩) (v := .int .i64 (j : Int)) rfl (by kernel_rfl) (by kernel_rfl) (by kernel_rfl) (fun _ _ _ h => h) (Or.inl ⟨by rfl, fun w' hSw => by clear hSw; go_simp⟩) hHeld ?_
      simp only [Act.put, List.setIfInBounds_toArray, List.set_cons_zero, List.set_cons_succ]
      refine wpAnyH_take (i := 18) (oi := ⟨some 38, _, _, _, _, none⟩) (v := .pointer (some ⟨bb, ob + j, none⟩)) rfl (by kernel_rfl) (by kernel_rfl) (by kernel_rfl) (fun _ _ _ h => h) (Or.inl ⟨by rfl, fun w' hSw => by clear hSw; go_simp⟩) hHeld ?_
      simp only [Act.put, List.setIfInBounds_toArray, List.set_cons_zero, List.set_cons_succ]
      refine wpAnyH_take (i := 19) (oi := ⟨some 39, _, _, _, _, none⟩) (v := .int .i64 v) rfl (by kernel_rfl) (by kernel_rfl) (by kernel_rfl) (fun _ _ _ h => h) (Or.inl ⟨by rfl, fun w' hSw => by obtain ⟨_, hbw, _⟩ := hSw; obtain ⟨q1, q2, q3⟩ := HRD.out _ hbw; clear hbw; go_simp⟩) hHeld ?_
      simp only [Act.put, List.setIfInBounds_toArray, List.set_cons_zero, List.set_cons_succ]
      refine wpAnyH_ready (rs := [20]) (by kernel_rfl) (by simp) ?_
      refine AllReadyH.cons (o := ⟨some 40, _, _, _, _, none⟩) rfl (fun K hK => ?_) AllReadyH.nil
      go_simp
      refine (HCL.out _).mono ?_
      rintro _ w5 ⟨rfl, hb5⟩
      have HF5 := hide (HFd.out.below hb5)
      have hS5 := HST.out _ _ hHeld hb5
      refine hK.out _ _ hS5 (fun hHeld => ?_)
      clear hK K hb5
      obtain ⟨v0, hv0⟩ := Option.isSome_iff_exists.1 (HF5.out.all (k * 2) (by omega)).1
      obtain ⟨v1, hv1⟩ := Option.isSome_iff_exists.1 (HF5.out.all (k * 2 + 1) (by omega)).1
      have f0 := (HF5.out.all (k * 2) (by omega)).2
      have f1 := (HF5.out.all (k * 2 + 1) (by omega)).2
      refine wpAnyH_take (i := 21) (oi := ⟨some 41, _, _, _, _, none⟩) (v := .pointer (some ⟨w.heap.size + 1, k * 2, none⟩)) rfl (by kernel_rfl) (by kernel_rfl) (by kernel_rfl) (fun _ _ _ h => h) (Or.inl ⟨by rfl, fun w' hSw => by clear hSw; go_simp⟩) hHeld ?_
      simp only [Act.put, List.setIfInBounds_toArray, List.set_cons_zero, List.set_cons_succ]
      refine wpAnyH_ready (rs := [22]) (by kernel_rfl) (by simp) ?_
      refine AllReadyH.cons (o := ⟨none, _, _, _, _, none⟩) rfl (fun K hK => ?_) AllReadyH.nil
      go_simp
      refine hK.out _ _ (HSC.out _ _ _ hHeld) (fun hHeld2 => ?_)
      refine wpAnyH_done (by kernel_rfl) ?_ _
      refine NoPanic.normal ?_
      have HF6 := hide (HF5.out.put hlt hml.out)
      have HB6 := hide hHeld2.2.1
      have HX6 := hide hHeld2.1
      clear hK K hHeld hHeld2 hv0 hv1 f0 f1 hS5 hS0
      go_wp2_with fail
      go_roundw
      case rel => exact ⟨k + 1, by go_num, by omega, HF6, HB6, HX6⟩
      case measure => simp only [intOf]; omega
    · have hke : k = n := by omega
      subst hke
      clear x0 x1 x3
      have hrow := HFr.out.rowAt (HQL.out.trans HQ.out)
      go_wp2_with fail
      go_ret
      exact ⟨_, rfl, HBw.out, HFr.out.lt, hrow⟩
end Go.Proofs.YtlbagigghpiifabGreat
namespace Go.Proofs.YtlbagigghpiifabGreat
open Go.RowKit Go.Sort

theorem DyBox.grown {w w' : World} {B g : Nat} {v0 v1 v2 v3 : Value} (h : DyBox w B v0 v1 v2 v3) (hg : w.grownBy w' (some g)) (hne : B ≠ g) : DyBox w' B v0 v1 v2 v3 := by
  have k : ∀ i, w'.cell? ⟨B, i, none⟩ = w.cell? ⟨B, i, none⟩ := fun i => World.cell?_of_block (w := w) (a := ⟨B, i, none⟩) (hg.block B h.2.2.2.2 (by simpa using hne))
  exact ⟨(k 0).trans h.1, (k 1).trans h.2.1, (k 2).trans h.2.2.1, (k 3).trans h.2.2.2.1, Nat.lt_of_lt_of_le h.2.2.2.2 hg.size⟩
theorem grow_set17 {w wr : World} {g : Nat} (hg : w.grownBy wr (some g)) {p : Nat} {v : Value} {w' : World} (h : wr.grownBy w' (some g)) (_ : w' = wr.setCell ⟨g, p, none⟩ v) : w.grownBy w' (some g) :=
  ⟨h.os.trans hg.os, h.tape.trans hg.tape, h.output.trans hg.output, Nat.le_trans hg.size h.size, fun b hb hne => (h.block b (Nat.lt_of_lt_of_le hb hg.size) hne).trans (hg.block b hb hne)⟩
set_option maxHeartbeats 8000000 in
theorem bo_any {a b o p : Option Addr} {n m q c d e f : Nat} {ps cs ws : List Int} {w : World} (HN : Hid (ws.length = n)) (HM : Hid (cs.length = m)) (HR : Hid (ps.length = m)) (HF : Hid (Sh.flowB ps = true)) (HC : Hid (Hs.slotsB cs ws = true)) (HA : Hid (ARow w a ws)) (HB : Hid (ARow w b cs)) (HP : Hid (ARow w p ps)) :
    Calls Tryz.prog 91 #[.agg #[.slice a n c, .slice b m d, .slice o q e, .slice p m f]] w fun e w' => ∃ g, e = .returned (.slice (some ⟨g, 0, none⟩) n n) ∧ Below w.heap.size w w' ∧ w.heap.size ≤ g ∧ Ow w' g n (Hs.ownL ps cs ws) := by
  have hn10 : n ≤ 10 := by have := (Hs.slotsB_yes HC.out).2.2.2; have := HN.out; omega
  have hm8 : m ≤ 8 := by have := (Hs.cntB_yes (Hs.slotsB_yes HC.out).1).2.1; have := HM.out; omega
  have hmk := makeI_run n (by omega)
  have hb0 := below_new w (.cells #[.slice a n c, .slice b m d, .slice o q e, .slice p m f] 90)
  have hx0 := DyBox.new w (.slice a n c) (.slice b m d) (.slice o q e) (.slice p m f) 90
  have hz0 : (w.alloc (.cells #[.slice a n c, .slice b m d, .slice o q e, .slice p m f] 90)).heap.size = w.heap.size + 1 := by simp
  have hm0 := made_own (w.alloc (.cells #[.slice a n c, .slice b m d, .slice o q e, .slice p m f] 90)) n (by omega)
  have hb1 := below_new (w.alloc (.cells #[.slice a n c, .slice b m d, .slice o q e, .slice p m f] 90)) (.cells (madeCells #[.int .i64 0] n) 3)
  rw [hz0] at hm0
  have HX1 := hide (hx0.below hb1)
  have HW1 := hide (hb0.trans (hb1.mono hb0.size))
  have HM1 := hide hm0
  have hz1 : ((w.alloc (.cells #[.slice a n c, .slice b m d, .slice o q e, .slice p m f] 90)).alloc (.cells (madeCells #[.int .i64 0] n) 3)).heap.size = w.heap.size + 2 := by simp
  have HZ := hide hz1
  have HGL := hide (Hs.goodsL_len ps cs)
  have HGA : Hid ((Hs.exp cs (Hs.goodsL ps cs)).length = n) := hide ((Hs.goodsL_all (by rw [HM.out, HR.out]) HC.out).trans HN.out)
  clear hb0 hx0 hz0 hm0 hb1 hz1
  go_enter Tryz.func91, Tryz.ntmps91
  go_wp2_with fail
  generalize hW1 : (w.alloc (.cells #[.slice a n c, .slice b m d, .slice o q e, .slice p m f] 90)).alloc (.cells (madeCells #[.int .i64 0] n) 3) = W1 at *
  clear hW1 hmk
  refine (nf_any HN.out (by omega) (HA.out.below HW1.out)).mono ?_
  rintro _ w2 ⟨rfl, hb2, own2⟩
  obtain ⟨O2, _⟩ := Ow.mk' own2
  have hz2 : w.heap.size + 1 < w2.heap.size := by have := hb2.size; have := HZ.out; omega
  have HX2 := hide (HX1.out.below hb2)
  have HW2 := hide (HW1.out.trans (hb2.mono HW1.out.size))
  have HM2 := hide (owns_keep HM1.out (hb2.block _ (by have := HZ.out; omega)))
  have HS2 := hide O2
  have hG1 : w.heap.size + 1 < W1.heap.size + 1 := by have := HZ.out; omega
  generalize W1.heap.size + 1 = G1 at *
  obtain ⟨x0, x1, x2, x3, _⟩ := HX2.out
  clear own2 O2 hb2 HX1 HW1 HM1 HZ
  go_wp2_with fail
  refine (mfe_any HM HR HF (hide (Hs.slotsB_yes HC.out).1) (hide (HB.out.below HW2.out)) (hide (HP.out.below HW2.out))).mono ?_
  rintro _ w3 ⟨G2, rfl, hb3, hG2, O3⟩
  have HX3 := hide (HX2.out.below hb3)
  have HW3 := hide (HW2.out.trans (hb3.mono HW2.out.size))
  have HM3 := hide (owns_keep HM2.out (hb3.block _ (by omega)))
  have HS3 := hide (HS2.out.below hb3)
  have HG3 := hide O3
  have hz3 := hb3.size
  clear O3 hb3 HX2 HW2 HM2 HS2 x0 x1 x2 x3
  go_wp2_with fail
  go_loopw [4, 6, 7, 9, 22] (fun v4 _ _ _ s wr => ∃ (k t u : Nat) (ys : List Int), v4 = .slice (some ⟨G1, u, none⟩) (n - t : Nat) (n - t : Nat) ∧ (t < n → u = t) ∧ s = .int .i64 k ∧ k ≤ m ∧ t ≤ n ∧ Hid (t = Hs.upto cs (Hs.goodsL ps cs) k) ∧ Hid (ys = putTo (Hs.exp cs (Hs.goodsL ps cs)) (Rk.rank (negs ws)) n t) ∧ Hid (wr.ownsRow (w.heap.size + 1) 3 1 (.slice (some ⟨w.heap.size + 1, 0, none⟩) n n) n (ints ys)) ∧ Hid (w3.grownBy wr (some (w.heap.size + 1)))) (fun _ _ _ _ s _ => m - (intOf s).toNat)
  case atStart => exact ⟨0, 0, 0, List.replicate n 0, by simp, fun _ => rfl, rfl, Nat.zero_le _, Nat.zero_le _, hide rfl, hide rfl, HM3, hide (World.grownBy.refl _ _)⟩
  case round =>
    obtain ⟨k, t, u, ys, rfl, hut, rfl, hk, ht, HTU, HY, HO, HG⟩ := hrel
    obtain ⟨x0, x1, x2, x3, _⟩ := HX3.out.grown HG.out (by omega)
    have HWr := hide (HW3.out.trans (grown_below' HG.out (by omega) HW3.out.size))
    by_cases hkm : k < m
    · have i0 : (0 : Int) ≤ (k : Int) := by omega
      have i1 : (k : Int) < (m : Int) := by omega
      have hkg : k < (Hs.goodsL ps cs).length := by rw [HGL.out, HR.out]; exact hkm
      obtain ⟨_, _, e1, r1⟩ := ((HG3.out.grown HG.out (by omega)).row (by rw [nats_len, HGL.out, HR.out])).at (i := k) (by rw [nats_len]; exact hkg)
      cases e1
      rw [nats_get, Nat.zero_add] at r1
      have hxm : (Hs.goodsL ps cs).getD k 0 < m := by rw [← HR.out]; exact Hs.goodsL_lt (by rw [HR.out]; exact hkm)
      have hc1 := Hs.cntB_at (Hs.slotsB_yes HC.out).1 (i := (Hs.goodsL ps cs).getD k 0) (by rw [HM.out]; exact hxm)
      have HUS := hide (Hs.upto_succ cs (Hs.goodsL ps cs) hkg)
      have hul := Hs.upto_le cs (Hs.goodsL ps cs) (k + 1)
      rw [HUS.out, HGA.out, ← HTU.out] at hul
      have HEA := hide fun (j : Nat) (hj : j < (cs.getD ((Hs.goodsL ps cs).getD k 0) 0).toNat) => Hs.exp_at cs (Hs.goodsL ps cs) hkg hj
      rw [← HTU.out] at HEA HUS
      obtain ⟨bb, ob, rfl, r2⟩ := (HB.out.below HWr.out).at (i := (Hs.goodsL ps cs).getD k 0) (by rw [HM.out]; exact hxm)
      generalize hxx : (Hs.goodsL ps cs).getD k 0 = x at *
      generalize hcc : cs.getD x 0 = cI at *
      obtain ⟨cn, rfl⟩ := Int.eq_ofNat_of_zero_le (show 0 ≤ cI by omega)
      rw [Int.toNat_natCast] at HUS hul HEA
      obtain rfl : t = u := (hut (by omega)).symm
      have j0 : (0 : Int) ≤ (x : Int) := by omega
      have j1 : (x : Int) < (m : Int) := by omega
      have l0 : (0 : Int) ≤ (cn : Int) := by omega
      have l1 : (cn : Int) ≤ ((n - t : Nat) : Int) := by omega
      clear hxx hcc
      go_wp2_with fail
      go_loopw [9, 36] (fun _ s wr => ∃ (j : Nat) (zs : List Int), s = .int .i64 j ∧ j ≤ cn ∧ Hid (zs = putTo (Hs.exp cs (Hs.goodsL ps cs)) (Rk.rank (negs ws)) n (t + j)) ∧ Hid (wr.ownsRow (w.heap.size + 1) 3 1 (.slice (some ⟨w.heap.size + 1, 0, none⟩) n n) n (ints zs)) ∧ Hid (w3.grownBy wr (some (w.heap.size + 1)))) (fun _ s _ => cn - (intOf s).toNat)
      case atStart => exact ⟨0, ys, rfl, Nat.zero_le _, HY, HO, HG⟩
      case round =>
        obtain ⟨j, zs, rfl, hj, HZ, HOI, HGI⟩ := hrel
        by_cases hjc : j < cn
        · have p0 : (0 : Int) ≤ (j : Int) := by omega
          have p1 : (j : Int) < (cn : Int) := by omega
          obtain ⟨_, _, e3, r3⟩ := ((HS3.out.grown HGI.out (by omega)).row (by rw [nats_len, Rk.rank_len, negs_len, HN.out])).at (i := t + j) (by rw [nats_len, Rk.rank_len, negs_len, HN.out]; omega)
          cases e3
          rw [nats_get, Nat.zero_add] at r3
          have hp : (Rk.rank (negs ws)).getD (t + j) 0 < n := by have := rk_nth_lt (vs := negs ws) (k := t + j) (by rw [negs_len, HN.out]; omega); rwa [negs_len, HN.out] at this
          have HST0 : Hid (zs.set ((Rk.rank (negs ws)).getD (t + j) 0) (x : Int) = putTo (Hs.exp cs (Hs.goodsL ps cs)) (Rk.rank (negs ws)) n (t + (j + 1))) := hide (by
            rw [HZ.out, ← Nat.add_assoc]
            show _ = List.set _ _ _
            rw [HEA.out j hjc])
          generalize (Rk.rank (negs ws)).getD (t + j) 0 = y at *
          have y0 : (0 : Int) ≤ (y : Int) := by omega
          have y1 : (y : Int) < (n : Int) := by omega
          have hzl : zs.length = n := by rw [HZ.out, putTo_len]
          have c0 : wr.cell? ⟨w.heap.size + 1, y, none⟩ = some (.int .i64 (zs.getD y 0)) := by rw [HOI.out.cellAt y (by omega), ints_get zs y (by omega)]
          have f0 := HOI.out.frozenAt y
          obtain ⟨st1, st2⟩ := HOI.out.stored y (.int .i64 (x : Int))
          rw [ints_set] at st1
          have HST := hide st1
          have HG4 := hide (grow_set17 HGI.out st2 rfl)
          clear st1 st2 x0 x1 x2 x3 r1 r2
          go_wp2_with fail
          go_roundw
          case rel => exact ⟨j + 1, zs.set y (x : Int), by go_num, by omega, HST0, HST, HG4⟩
          case measure => simp only [intOf]; omega
        · have hje : j = cn := by omega
          subst hje
          clear x0 x1 x2 x3 r1 r2
          go_wp2_with fail
          by_cases hnj : n - t = j
          · simp only [if_pos hnj]
            go_roundw
            case rel => exact ⟨k + 1, t + j, t, zs, by rw [Nat.sub_sub], fun h => by omega, by go_num, by omega, by omega, hide HUS.out.symm, HZ, HOI, HGI⟩
            case measure => simp only [intOf]; omega
          · simp only [if_neg hnj]
            go_roundw
            case rel => exact ⟨k + 1, t + j, t + j, zs, by rw [Nat.sub_sub], fun _ => rfl, by go_num, by omega, by omega, hide HUS.out.symm, HZ, HOI, HGI⟩
            case measure => simp only [intOf]; omega
    · have hke : k = m := by omega
      subst hke
      have htn : t = n := by rw [HTU.out, ← HGA.out, ← Hs.upto_all, HGL.out, HR.out]
      have hys : ys = Hs.ownL ps cs ws := by rw [HY.out, Hs.ownL, HN.out, htn]; rfl
      have ho := HO.out
      rw [hys] at ho
      obtain ⟨O5, _⟩ := Ow.mk' ho
      have HO5 := hide O5
      clear O5 ho hys x0 x1 x2 x3
      go_wp2_with fail
      go_ret
      exact ⟨_, rfl, HWr.out, by omega, HO5.out⟩
end Go.Proofs.YtlbagigghpiifabGreat
namespace Go.Proofs.YtlbagigghpiifabGreat
open Go.RowKit Go.Sort

namespace Hs
theorem day_yes {ps cs ws : List Int} (h : dayB ps cs ws = true) : Sh.flowB ps = true ∧ ps.length = cs.length ∧ slotsB cs ws = true := by
  simp only [dayB, Bool.and_eq_true, decide_eq_true_eq] at h
  exact ⟨h.1.1, h.1.2, h.2⟩
end Hs
set_option maxHeartbeats 2000000 in
theorem sf_no {p b a : Option Addr} {n m r c d f : Nat} {ps cs ws : List Int} {w : World} (HR : Hid (ps.length = r)) (HM : Hid (cs.length = m)) (HN : Hid (ws.length = n)) (HP : Hid (ARow w p ps)) (HB : Hid (ARow w b cs)) (HA : Hid (ARow w a ws)) (HD : Hid (Hs.dayB ps cs ws = false)) :
    Calls Tryz.prog 63 #[.slice p r f, .slice b m d, .slice a n c] w fun e w' => e = .returned (.tuple #[.slice none 0 0, .bool false]) ∧ Below w.heap.size w w' := by
  have hb0 := below_new w (.cells #[.slice a n c, .slice b m d, .slice none 0 0, .slice p r f] 90)
  have HX := hide (DyBox.new w (.slice a n c) (.slice b m d) (.slice none 0 0) (.slice p r f) 90)
  have HA1 := hide (HA.out.below hb0)
  have HB1 := hide (HB.out.below hb0)
  have HP1 := hide (HP.out.below hb0)
  have HB0 := hide hb0
  have HE : Hid (Hs.dayB ps cs ws = ((Sh.flowB ps && decide (ps.length = cs.length)) && Hs.slotsB cs ws)) := hide rfl
  clear hb0
  cases h1 : (Sh.flowB ps && decide (ps.length = cs.length))
  · have H1 := hide h1
    clear h1
    go_enter Tryz.func63, Tryz.ntmps63
    go_wp2_with fail
    refine (ip17_eq HM HR HP1 H1).mono ?_
    rintro _ w1 ⟨rfl, hb1⟩
    have HBf := hide (HB0.out.trans (hb1.mono HB0.out.size))
    clear hb1
    go_wp2_with fail
    go_ret2
    exact ⟨rfl, HBf.out⟩
  · have H1 := hide h1
    have H2 : Hid (Hs.slotsB cs ws = false) := hide (by have := HD.out; rw [HE.out, h1, Bool.true_and] at this; exact this)
    clear h1
    go_enter Tryz.func63, Tryz.ntmps63
    go_wp2_with fail
    refine (ip17_eq HM HR HP1 H1).mono ?_
    rintro _ w1 ⟨rfl, hb1⟩
    obtain ⟨x0, x1, x2, x3, _⟩ := HX.out.below hb1
    have HA2 := hide (HA1.out.below hb1)
    have HB2 := hide (HB1.out.below hb1)
    have HBf := hide (HB0.out.trans (hb1.mono HB0.out.size))
    clear hb1
    go_wp2_with fail
    refine (hs_eq HN HM HA2 HB2 H2).mono ?_
    rintro _ w2 ⟨rfl, hb2⟩
    have HBg := hide (HBf.out.trans (hb2.mono HBf.out.size))
    clear hb2
    go_wp2_with fail
    go_ret2
    exact ⟨rfl, HBg.out⟩
set_option maxHeartbeats 2000000 in
theorem sf_yes {p b a : Option Addr} {n m r c d f : Nat} {ps cs ws : List Int} {w : World} (HR : Hid (ps.length = r)) (HM : Hid (cs.length = m)) (HN : Hid (ws.length = n)) (HP : Hid (ARow w p ps)) (HB : Hid (ARow w b cs)) (HA : Hid (ARow w a ws)) (HD : Hid (Hs.dayB ps cs ws = true)) :
    Calls Tryz.prog 63 #[.slice p r f, .slice b m d, .slice a n c] w fun e w' => ∃ g, e = .returned (.tuple #[.slice (some ⟨g, 0, none⟩) n n, .bool true]) ∧ Below w.heap.size w w' ∧ w.heap.size ≤ g ∧ Ow w' g n (Hs.ownL ps cs ws) := by
  obtain ⟨f1, f2, f3⟩ := Hs.day_yes HD.out
  obtain rfl : m = r := by have := HR.out; have := HM.out; omega
  have hb0 := below_new w (.cells #[.slice a n c, .slice b m d, .slice none 0 0, .slice p m f] 90)
  have HX := hide (DyBox.new w (.slice a n c) (.slice b m d) (.slice none 0 0) (.slice p m f) 90)
  have HA1 := hide (HA.out.below hb0)
  have HB1 := hide (HB.out.below hb0)
  have HP1 := hide (HP.out.below hb0)
  have HB0 := hide hb0
  have H1 : Hid ((Sh.flowB ps && decide (ps.length = cs.length)) = true) := hide (by rw [f1, Bool.true_and, decide_eq_true_eq]; exact f2)
  have HF := hide f1
  have H2 := hide f3
  clear hb0 f1 f2 f3
  go_enter Tryz.func63, Tryz.ntmps63
  go_wp2_with fail
  refine (ip17_eq HM HR HP1 H1).mono ?_
  rintro _ w1 ⟨rfl, hb1⟩
  have HX1 := hide (HX.out.below hb1)
  obtain ⟨x0, x1, x2, x3, _⟩ := HX1.out
  have HA2 := hide (HA1.out.below hb1)
  have HB2 := hide (HB1.out.below hb1)
  have HP2 := hide (HP1.out.below hb1)
  have HBf := hide (HB0.out.trans (hb1.mono HB0.out.size))
  clear hb1 HX
  go_wp2_with fail
  refine (hs_eq HN HM HA2 HB2 H2).mono ?_
  rintro _ w2 ⟨rfl, hb2⟩
  clear x0 x1 x2 x3
  obtain ⟨x0, x1, x2, x3, _⟩ := HX1.out.below hb2
  have HA3 := hide (HA2.out.below hb2)
  have HB3 := hide (HB2.out.below hb2)
  have HP3 := hide (HP2.out.below hb2)
  have HBg := hide (HBf.out.trans (hb2.mono HBf.out.size))
  clear hb2 HX1
  go_wp2_with fail
  refine (bo_any HN HM HR HF H2 HA3 HB3 HP3).mono ?_
  rintro _ w3 ⟨g, rfl, hb3, hg, O⟩
  have hz := HBg.out.size
  have HBh := hide (HBg.out.trans (hb3.mono HBg.out.size))
  have HO := hide O
  clear hb3 O
  go_wp2_with fail
  go_ret2
  exact ⟨_, rfl, HBh.out, by omega, HO.out⟩
set_option maxHeartbeats 16000000 in
theorem sgoods_any {a b : Option Addr} {n c d : Nat} {ps cs : List Int} {w : World} (HV : Hid (ps.length = n)) (HM : Hid (cs.length = n)) (hn : n ≤ 12) (HP : Hid (∀ i, i < n → 1 ≤ ps.getD i 0 ∧ ps.getD i 0 ≤ 30)) (HC : Hid (∀ i, i < n → 1 ≤ cs.getD i 0 ∧ cs.getD i 0 ≤ 10)) (HA : Hid (ARow w a ps)) (HB : Hid (ARow w b cs)) :
    Calls Tryz.prog 88 #[.slice a n c, .slice b n d] w fun e w' => ∃ v, e = .returned v ∧ Below w.heap.size w w' ∧ w'.ownsRow w.heap.size 3 1 v n (ints (nats (Rk.rank (Hs.wt ps cs)))) := by
  obtain ⟨i0, hi, hz0, hz1, hz2⟩ := info_parts inf3
  have HWL : Hid ((Hs.wt ps cs).length = n) := hide (by rw [Hs.wt_len]; exact HV.out)
  go_enter Tryz.func88, Tryz.ntmps88
  go_wp2_with fail
  go_loopw [5, 6, 7, 8, 11] (fun v _ _ _ s wr => ∃ (k cv : Nat) (av : Option Addr), v = .slice av k cv ∧ s = .int .i64 k ∧ k ≤ n ∧ (k = 0 → av = none ∧ cv = 0) ∧ wr.ownsRow w.heap.size 3 1 v k (ints (nats (Rk.upto (Hs.wt ps cs) k))) ∧ Below w.heap.size w wr) (fun _ _ _ _ s _ => n - (intOf s).toNat)
  case atStart => exact ⟨0, 0, none, rfl, rfl, Nat.zero_le _, fun _ => ⟨rfl, rfl⟩, World.ownsRow_nil w w.heap.size 3 1, Below.refl _ _⟩
  case round =>
    obtain ⟨k, cv, av, rfl, rfl, hk, hnil, hown, hB⟩ := hrel
    by_cases hlt : k < n
    · have HAr := hide (HA.out.keep hB.size hB.block)
      have HBr := hide (HB.out.keep hB.size hB.block)
      obtain ⟨ba, oa, rfl, r1⟩ := HAr.out.at (i := k) (by rw [HV.out]; exact hlt)
      obtain ⟨bb, ob, rfl, r3⟩ := HBr.out.at (i := k) (by rw [HM.out]; exact hlt)
      have k0 : (0 : Int) ≤ (k : Int) := by omega
      have k1 : (k : Int) < (n : Int) := by omega
      have hs := hB.size
      have hul := Rk.upto_len (Hs.wt ps cs) k
      have HB0 := hide hB
      have HO := hide hown
      have hnl := hide hnil
      clear hown hnil hB
      go_upto_block 2 with fail
      go_cut [7] from 12 to 61 (fun s7 wc => ∃ j : Nat, s7 = .int .i64 j ∧ j ≤ k ∧ Hid (nats (Rk.upto (Hs.wt ps cs) (k + 1)) = (nats (Rk.upto (Hs.wt ps cs) k)).take j ++ [(k : Int)] ++ (nats (Rk.upto (Hs.wt ps cs) k)).drop j) ∧ ∃ q, wc = wr.drewN q)
      case first =>
        obtain ⟨W0, rfl⟩ : ∃ W, W = wr := ⟨_, rfl⟩
        go_wp2_with fail
        go_loopw [7] (fun s wq => ∃ j q : Nat, s = .int .i64 j ∧ j ≤ k ∧ Hid (∀ t, t < j → Rk.val (Hs.wt ps cs) ((Rk.upto (Hs.wt ps cs) k).getD t 0) ≥ Rk.val (Hs.wt ps cs) k) ∧ wq = W0.drewN q) (fun s _ => k - (intOf s).toNat)
        case atStart => exact ⟨0, 0, rfl, Nat.zero_le _, hide fun t ht => absurd ht (Nat.not_lt_zero _), rfl⟩
        case round =>
          obtain ⟨j, q, rfl, hj, HJ, rfl⟩ := hrel
          have rest : (j < k → Rk.val (Hs.wt ps cs) ((Rk.upto (Hs.wt ps cs) k).getD j 0) < Rk.val (Hs.wt ps cs) k) → Hid (nats (Rk.upto (Hs.wt ps cs) (k + 1)) = (nats (Rk.upto (Hs.wt ps cs) k)).take j ++ [(k : Int)] ++ (nats (Rk.upto (Hs.wt ps cs) k)).drop j) := fun h => by
            show nats (Rk.insL (Hs.wt ps cs) k (Rk.upto (Hs.wt ps cs) k)) = _
            rw [Rk.insL_at (Hs.wt ps cs) k (Rk.upto (Hs.wt ps cs) k) j (by rw [hul]; exact hj) HJ.out (fun h' => h (by rw [← hul]; exact h')), nats_ins]
          have REST := hide rest
          clear rest
          by_cases hjk : j < k
          · obtain ⟨g, cap, e, hg0, hgl⟩ := HO.out.form (by omega)
            obtain ⟨rfl, rfl⟩ : av = some ⟨g, 0, none⟩ ∧ cv = cap := by cases e; exact ⟨rfl, rfl⟩
            have j0 : (0 : Int) ≤ (j : Int) := by omega
            have j1 : (j : Int) < (k : Int) := by omega
            have c1 : W0.cell? ⟨g, j, none⟩ = some (.int .i64 ((nats (Rk.upto (Hs.wt ps cs) k)).getD j 0)) := by rw [HO.out.cellAt j (by omega), ints_get _ j (by rw [nats_len, hul]; omega)]
            rw [nats_get] at c1
            have hm : (Rk.upto (Hs.wt ps cs) k).getD j 0 < n := by
              have hmem : (Rk.upto (Hs.wt ps cs) k).getD j 0 ∈ Rk.upto (Hs.wt ps cs) k := by rw [Pf.getD_lt _ _ (by rw [hul]; exact hjk)]; exact List.getElem_mem _
              have := Rk.upto_mem hmem; omega
            generalize hq : (Rk.upto (Hs.wt ps cs) k).getD j 0 = y at c1 hm
            obtain ⟨_, _, e5, r2⟩ := HAr.out.at (i := y) (by rw [HV.out]; exact hm)
            cases e5
            obtain ⟨_, _, e6, r4⟩ := HBr.out.at (i := y) (by rw [HM.out]; exact hm)
            cases e6
            have y0 : (0 : Int) ≤ (y : Int) := by omega
            have y1 : (y : Int) < (n : Int) := by omega
            obtain ⟨pk0, pk1⟩ := HP.out k hlt
            obtain ⟨py0, py1⟩ := HP.out y hm
            obtain ⟨ck0, ck1⟩ := HC.out k hlt
            obtain ⟨cy0, cy1⟩ := HC.out y hm
            have HLT := hide (Hs.wt_lt (p := ps.getD y 0) (q := ps.getD k 0) cy0 cy1 ck0 ck1)
            rw [← Hs.wt_at ps cs (i := y) (by rw [HV.out]; exact hm), ← Hs.wt_at ps cs (i := k) (by rw [HV.out]; exact hlt)] at HLT
            have m1 := wrap_mul (ps.getD y 0) (cs.getD k 0) (by omega) (by omega) (by omega) (by omega)
            have m2 := wrap_mul (ps.getD k 0) (cs.getD y 0) (by omega) (by omega) (by omega) (by omega)
            generalize ps.getD k 0 = pk at *
            generalize ps.getD y 0 = py at *
            generalize cs.getD k 0 = ck at *
            generalize cs.getD y 0 = cy at *
            by_cases hge : pk * cy ≤ py * ck
            · have HJ' : Hid (∀ t, t < j + 1 → Rk.val (Hs.wt ps cs) ((Rk.upto (Hs.wt ps cs) k).getD t 0) ≥ Rk.val (Hs.wt ps cs) k) := hide fun t ht => by
                by_cases e : t = j
                · subst e; rw [hq]
                  rcases Int.lt_or_le (Rk.val (Hs.wt ps cs) y) (Rk.val (Hs.wt ps cs) k) with h | h
                  · have := HLT.out.1 h; omega
                  · exact h
                · exact HJ.out t (by omega)
              clear hq e
              go_wp2_with fail
              go_quiet (fail)
              go_wp2_with fail
              go_roundw
              case rel => exact ⟨j + 1, q + nq, by go_num, by omega, HJ', by first | rfl | rw [World.drewN_drewN]⟩
              case measure => simp only [intOf]; omega
            · have HR := REST.out (fun _ => by rw [hq]; exact HLT.out.2 (by omega))
              have hge' : decide (pk * cy ≤ py * ck) = false := decide_eq_false hge
              clear hq e
              go_wp2_with fail
              go_quiet (fail)
              go_wp2_with fail
              go_meet
              case rel => exact ⟨j, rfl, hj, HR, q + nq, by first | rfl | rw [World.drewN_drewN]⟩
          · have HR := REST.out (fun h => by omega)
            have hje : j = k := by omega
            subst hje
            have hjz' : decide ((j : Int) < (j : Int)) = false := by simp
            clear r1 r3
            go_wp2_with fail
            go_quiet (fail)
            go_wp2_with fail
            go_meet
            case rel => exact ⟨j, rfl, hj, HR, q + nq, by first | rfl | rw [World.drewN_drewN]⟩
      case rest =>
        obtain ⟨j, rfl, hj, HR, q, rfl⟩ := hcut
        have HO2 : Hid ((wr.drewN q).ownsRow w.heap.size 3 1 (.slice av k cv) k (ints (nats (Rk.upto (Hs.wt ps cs) k)))) := HO
        have hB : Below w.heap.size w (wr.drewN q) := below_drewN HB0.out q
        clear HO HB0 HAr HBr r1 r3 hs
        have hs := hB.size
        have HO := HO2
        clear HO2
        generalize wr.drewN q = W2 at *
        by_cases hk0 : k = 0
        · subst hk0
          obtain ⟨rfl, rfl⟩ := hnl.out rfl
          obtain rfl : j = 0 := by omega
          have E0 := empty_row W2
          go_wp2_with (first
            | (at_builtin; refine wpList_append_own _ rfl _ _ 26 rfl W2.heap.size 3 i0 (.int .i64 0) 1 8 Tryz.underlying26 hi hz0 hz1 hz2 rfl (by decide) _ _ _ rfl (E0.alloc _) ⟨W2.heap.size + 1, 0, none⟩ 1 1 (ints [0]) rfl rfl (new_one _ _ (by simp)) (int_cells _) (by unfold maxLen; omega) (by omega) (by simp; omega) ?_))
          intro v2 w2 own2 hg2 _
          have own2' : w2.ownsRow W2.heap.size 3 1 v2 1 (ints [0]) := own2
          go_wp2_with (first
            | (at_builtin; refine wpList_append_own_none rfl _ _ 26 rfl W2.heap.size 3 i0 1 Tryz.underlying26 hi _ _ _ rfl own2' rfl ?_))
          go_wp2_with fail
          go_roundw
          case rel => (obtain ⟨a3, c3, e3, _⟩ := own_any7 (xs := [0]) rfl own2'; exact ⟨1, c3, a3, e3, by go_num, by omega, fun h => by omega, owns_base own2' hs, (hB.alloc hs _).trans (((Below.refl _ _).alloc (by simp; omega) _).trans (grownBy_below hg2 hs (by simp; omega)))⟩)
          case measure => simp only [intOf]; omega
        · obtain ⟨g, cap, e, hg0, hgl⟩ := HO.out.form (by omega)
          obtain ⟨rfl, rfl⟩ : av = some ⟨g, 0, none⟩ ∧ cv = cap := by cases e; exact ⟨rfl, rfl⟩
          clear e
          have E0 := hide (empty_row W2)
          have hcap : k ≤ cv := by
            rcases HO.out.2 with ⟨h0, _⟩ | ⟨g', cap', cur, hv', _, _, h1, _⟩
            · cases h0
            · cases hv'; exact h1
          by_cases hcj : cv = j
          · obtain rfl := hcj.symm
            have HL : Hid ((ints ((nats (Rk.upto (Hs.wt ps cs) k)).take j)).length = j * 1) := by
              show _ = _
              rw [ints_len, List.length_take, nats_len, hul]; omega
            have HN1 : Hid (∀ (t : Nat) (u : Value), (ints ((nats (Rk.upto (Hs.wt ps cs) k)).take j))[t]? = some u → (W2.alloc (.cells #[] 3)).cell? ((⟨g, 0, none⟩ : Addr).add t) = some u) :=
              news_at (cells_kept (((Below.refl _ _).alloc (Nat.le_refl _) _).block g hgl) (own_take HO.out (by rw [nats_len, hul]) hj))
            go_wp2_with (first
              | (at_builtin; refine wpList_append_own _ rfl _ _ 26 rfl W2.heap.size 3 i0 (.int .i64 0) 1 8 Tryz.underlying26 hi hz0 hz1 hz2 rfl (by decide) _ _ _ rfl E0.out ⟨g, 0, none⟩ j j (ints ((nats (Rk.upto (Hs.wt ps cs) k)).take j)) rfl HL.out HN1.out (int_cells _) (by unfold maxLen; omega) (by omega) (by simp) ?_))
            intro v1 w1 own1 hg1 _
            have own1' : w1.ownsRow W2.heap.size 3 1 v1 j (ints ((nats (Rk.upto (Hs.wt ps cs) k)).take j)) := by simpa [ints] using own1
            have hs1 : W2.heap.size ≤ w1.heap.size := Nat.le_trans (by simp) hg1.size
            clear own1
            go_wp2_with (first
              | (at_builtin; refine wpList_append_own _ rfl _ _ 26 rfl W2.heap.size 3 i0 (.int .i64 0) 1 8 Tryz.underlying26 hi hz0 hz1 hz2 rfl (by decide) _ _ _ rfl (own1'.alloc _) ⟨w1.heap.size, 0, none⟩ 1 1 (ints [(k : Int)]) rfl rfl (new_one _ _ rfl) (int_cells _) (by unfold maxLen; omega) (by omega) (by simp; omega) ?_))
            intro v2 w2 own2 hg2 _
            have own2' : w2.ownsRow W2.heap.size 3 1 v2 (j + 1) (ints ((nats (Rk.upto (Hs.wt ps cs) k)).take j ++ [(k : Int)])) := by rw [ints_app]; exact own2
            have hs2 : W2.heap.size ≤ w2.heap.size := Nat.le_trans hs1 (Nat.le_trans (by simp) hg2.size)
            have HN2 : Hid (∀ (t : Nat) (u : Value), (ints ((nats (Rk.upto (Hs.wt ps cs) k)).drop j))[t]? = some u → w2.cell? ((⟨g, 0, none⟩ : Addr).add t) = some u) := by
              rw [List.drop_eq_nil_of_le (by rw [nats_len, hul]; omega)]; exact fun t u h => by simp [ints] at h
            have HL2 : Hid ((ints ((nats (Rk.upto (Hs.wt ps cs) k)).drop j)).length = 0 * 1) := by
              show _ = _
              rw [ints_len, List.length_drop, nats_len, hul]; omega
            have HB2 : Hid (Below w.heap.size w w2) := hide ((hB.alloc hs _).trans ((grownBy_below hg1 hs (by simp; omega)).trans (((Below.refl _ _).alloc (by omega) _).trans (by
              refine ⟨hg2.os, hg2.tape, hg2.output, hg2.size, fun b hb => hg2.block b (by simp; omega) (far_block own1' (by omega))⟩))))
            clear own2 hg1 hg2 own1'
            go_wp2_with (first
              | (at_builtin; refine wpList_append_own _ rfl _ _ 26 rfl W2.heap.size 3 i0 (.int .i64 0) 1 8 Tryz.underlying26 hi hz0 hz1 hz2 rfl (by decide) _ _ _ rfl own2' ⟨g, 0, none⟩ 0 0 (ints ((nats (Rk.upto (Hs.wt ps cs) k)).drop j)) rfl HL2.out HN2.out (int_cells _) (by unfold maxLen; omega) (by omega) hs2 ?_))
            intro v3 w3 own3 hg3 _
            have own3' : w3.ownsRow W2.heap.size 3 1 v3 (k + 1) (ints (nats (Rk.upto (Hs.wt ps cs) (k + 1)))) := by
              rw [HR.out, ints_app]
              have e : j + 1 + 0 = k + 1 := by omega
              rw [e] at own3
              exact own3
            clear own3
            go_wp2_with fail
            go_roundw
            case rel => (obtain ⟨a3, c3, e3, _⟩ := own_any7 (by rw [nats_len, Rk.upto_len]) own3'; exact ⟨k + 1, c3, a3, e3, by go_num, by omega, fun h => by omega, owns_base own3' hs, HB2.out.trans ⟨hg3.os, hg3.tape, hg3.output, hg3.size, fun b hb => hg3.block b (by omega) (far_block own2' (by omega))⟩⟩)
            case measure => simp only [intOf]; omega
          · have hcl : j < cv := by omega
            have HL : Hid ((ints ((nats (Rk.upto (Hs.wt ps cs) k)).take j)).length = j * 1) := by
              show _ = _
              rw [ints_len, List.length_take, nats_len, hul]; omega
            have HN1 : Hid (∀ (t : Nat) (u : Value), (ints ((nats (Rk.upto (Hs.wt ps cs) k)).take j))[t]? = some u → (W2.alloc (.cells #[] 3)).cell? ((⟨g, 0, none⟩ : Addr).add t) = some u) :=
              news_at (cells_kept (((Below.refl _ _).alloc (Nat.le_refl _) _).block g hgl) (own_take HO.out (by rw [nats_len, hul]) hj))
            go_wp2_with (first
              | (at_builtin; refine wpList_append_own _ rfl _ _ 26 rfl W2.heap.size 3 i0 (.int .i64 0) 1 8 Tryz.underlying26 hi hz0 hz1 hz2 rfl (by decide) _ _ _ rfl E0.out ⟨g, 0, none⟩ j cv (ints ((nats (Rk.upto (Hs.wt ps cs) k)).take j)) rfl HL.out HN1.out (int_cells _) (by unfold maxLen; omega) (by omega) (by simp) ?_))
            intro v1 w1 own1 hg1 _
            have own1' : w1.ownsRow W2.heap.size 3 1 v1 j (ints ((nats (Rk.upto (Hs.wt ps cs) k)).take j)) := by simpa [ints] using own1
            have hs1 : W2.heap.size ≤ w1.heap.size := Nat.le_trans (by simp) hg1.size
            have hgk1 := hg1.block g (by simp; omega) (far_block E0.out hgl)
            clear own1
            go_wp2_with (first
              | (at_builtin; refine wpList_append_own _ rfl _ _ 26 rfl W2.heap.size 3 i0 (.int .i64 0) 1 8 Tryz.underlying26 hi hz0 hz1 hz2 rfl (by decide) _ _ _ rfl (own1'.alloc _) ⟨w1.heap.size, 0, none⟩ 1 1 (ints [(k : Int)]) rfl rfl (new_one _ _ rfl) (int_cells _) (by unfold maxLen; omega) (by omega) (by simp; omega) ?_))
            intro v2 w2 own2 hg2 _
            have own2' : w2.ownsRow W2.heap.size 3 1 v2 (j + 1) (ints ((nats (Rk.upto (Hs.wt ps cs) k)).take j ++ [(k : Int)])) := by rw [ints_app]; exact own2
            have hs2 : W2.heap.size ≤ w2.heap.size := Nat.le_trans hs1 (Nat.le_trans (by simp) hg2.size)
            have hgk2 := (hg2.block g (by simp; omega) (far_block own1' hgl)).trans (((Below.refl _ _).alloc (Nat.le_refl _) _).block g (by omega))
            have HN2 : Hid (∀ (t : Nat) (u : Value), (ints ((nats (Rk.upto (Hs.wt ps cs) k)).drop j))[t]? = some u → w2.cell? ((⟨g, j, none⟩ : Addr).add t) = some u) :=
              news_at (cells_kept (hgk2.trans (hgk1.trans (((Below.refl _ _).alloc (Nat.le_refl _) _).block g hgl))) (own_drop HO.out (by rw [nats_len, hul]) j))
            have HL2 : Hid ((ints ((nats (Rk.upto (Hs.wt ps cs) k)).drop j)).length = (k - j) * 1) := by
              show _ = _
              rw [ints_len, List.length_drop, nats_len, hul]; omega
            have HB2 : Hid (Below w.heap.size w w2) := hide ((hB.alloc hs _).trans ((grownBy_below hg1 hs (by simp; omega)).trans (((Below.refl _ _).alloc (by omega) _).trans (by
              refine ⟨hg2.os, hg2.tape, hg2.output, hg2.size, fun b hb => hg2.block b (by simp; omega) (far_block own1' (by omega))⟩))))
            clear own2 hgk2 hgk1 hg1 hg2 own1'
            go_wp2_with (first
              | (at_builtin; refine wpList_append_own _ rfl _ _ 26 rfl W2.heap.size 3 i0 (.int .i64 0) 1 8 Tryz.underlying26 hi hz0 hz1 hz2 rfl (by decide) _ _ _ rfl own2' ⟨g, j, none⟩ (k - j) (cv - j) (ints ((nats (Rk.upto (Hs.wt ps cs) k)).drop j)) rfl HL2.out HN2.out (int_cells _) (by unfold maxLen; omega) (by omega) hs2 ?_))
            intro v3 w3 own3 hg3 _
            have own3' : w3.ownsRow W2.heap.size 3 1 v3 (k + 1) (ints (nats (Rk.upto (Hs.wt ps cs) (k + 1)))) := by
              rw [HR.out, ints_app]
              have e : j + 1 + (k - j) = k + 1 := by omega
              rw [e] at own3
              exact own3
            clear own3
            go_wp2_with fail
            go_roundw
            case rel => (obtain ⟨a3, c3, e3, _⟩ := own_any7 (by rw [nats_len, Rk.upto_len]) own3'; exact ⟨k + 1, c3, a3, e3, by go_num, by omega, fun h => by omega, owns_base own3' hs, HB2.out.trans ⟨hg3.os, hg3.tape, hg3.output, hg3.size, fun b hb => hg3.block b (by omega) (far_block own2' (by omega))⟩⟩)
            case measure => simp only [intOf]; omega
    · have hke : k = n := by omega
      subst hke
      have hrk : Rk.upto (Hs.wt ps cs) k = Rk.rank (Hs.wt ps cs) := by unfold Rk.rank; rw [HWL.out]
      rw [hrk] at hown
      go_wp2_with fail
      go_ret
      exact ⟨_, rfl, hB, hown⟩
end Go.Proofs.YtlbagigghpiifabGreat
namespace Go.Proofs.YtlbagigghpiifabGreat
open Go.RowKit

/-- One number of each of two lists, and all that was there, while an answer is made. -/
theorem two_call {w w1 w2 : World} {ba oa bb ob : Nat} {v1 v2 : Option Value} (ha : ba < w.heap.size) (hb : bb < w.heap.size)
    (s : w1.cell? ⟨ba, oa, none⟩ = v1 ∧ w1.cell? ⟨bb, ob, none⟩ = v2 ∧ Below w.heap.size w w1 ∧ w.heap.size < w1.heap.size) (h : Below w1.heap.size w1 w2) :
    w2.cell? ⟨ba, oa, none⟩ = v1 ∧ w2.cell? ⟨bb, ob, none⟩ = v2 ∧ Below w.heap.size w w2 ∧ w.heap.size < w2.heap.size := by
  obtain ⟨s1, s2, s3, s4⟩ := s
  obtain ⟨hc, _⟩ := bcell h
  exact ⟨(hc _ _ (by omega)).trans s1, (hc _ _ (by omega)).trans s2, s3.trans (h.mono s3.size), Nat.lt_of_lt_of_le s4 h.size⟩
theorem two_set {w w1 : World} {ba oa bb ob i : Nat} {v : Value} {v1 v2 : Option Value} (ha : ba < w.heap.size) (hb : bb < w.heap.size)
    (s : w1.cell? ⟨ba, oa, none⟩ = v1 ∧ w1.cell? ⟨bb, ob, none⟩ = v2 ∧ Below w.heap.size w w1 ∧ w.heap.size < w1.heap.size) :
    (w1.setCell ⟨w.heap.size, i, none⟩ v).cell? ⟨ba, oa, none⟩ = v1 ∧ (w1.setCell ⟨w.heap.size, i, none⟩ v).cell? ⟨bb, ob, none⟩ = v2 ∧ Below w.heap.size w (w1.setCell ⟨w.heap.size, i, none⟩ v) ∧ w.heap.size < (w1.setCell ⟨w.heap.size, i, none⟩ v).heap.size := by
  obtain ⟨s1, s2, s3, s4⟩ := s
  have hc : ∀ x o, x ≠ w.heap.size → (w1.setCell ⟨w.heap.size, i, none⟩ v).cell? ⟨x, o, none⟩ = w1.cell? ⟨x, o, none⟩ := fun x o h => World.cell?_setCell_other _ _ _ _ (fun e => h (by injection e with e1; exact e1.symm))
  exact ⟨(hc _ _ (by omega)).trans s1, (hc _ _ (by omega)).trans s2, s3.setCell (Nat.le_refl _) v, by simpa using s4⟩
/-- The answer's own variable, behind a call. -/
theorem res_new {w w2 : World} {t : TypeId} (hb : Below (w.alloc (.cells #[.int .i64 0, .int .i64 0] t)).drew.heap.size (w.alloc (.cells #[.int .i64 0, .int .i64 0] t)).drew w2) :
    w2.cell? ⟨w.heap.size, 0, none⟩ = some (.int .i64 0) ∧ w2.cell? ⟨w.heap.size, 1, none⟩ = some (.int .i64 0) ∧ w2.frozen? ⟨w.heap.size, 0, none⟩ = false ∧ w2.frozen? ⟨w.heap.size, 1, none⟩ = false :=
  new_var (W := (w.alloc (.cells #[.int .i64 0, .int .i64 0] t)).drew) hb _ _ _ (by simp [go_sem]) (by simp [go_sem]) (by simp [go_sem]) (by simp [go_sem])
theorem res_new' {w w2 : World} {t : TypeId} (hb : Below (w.alloc (.cells #[.int .i64 0, .int .i64 0] t)).heap.size (w.alloc (.cells #[.int .i64 0, .int .i64 0] t)) w2) :
    w2.cell? ⟨w.heap.size, 0, none⟩ = some (.int .i64 0) ∧ w2.cell? ⟨w.heap.size, 1, none⟩ = some (.int .i64 0) ∧ w2.frozen? ⟨w.heap.size, 0, none⟩ = false ∧ w2.frozen? ⟨w.heap.size, 1, none⟩ = false :=
  new_var hb _ _ _ (by simp [go_sem]) (by simp [go_sem]) (by simp [go_sem]) (by simp [go_sem])
/-- The k-th of both lists. -/
theorem at_both {w : World} {a b : Option Addr} {n k : Nat} {fs cs : List Int} (h : Hid (ARow w a fs)) (hn : Hid (fs.length = n)) (h' : Hid (ARow w b cs)) (hs : Hid (Sh.sharedB fs cs = true)) (hk : k < n) :
    ∃ ba oa bb ob, a = some ⟨ba, oa, none⟩ ∧ b = some ⟨bb, ob, none⟩ ∧ ba < w.heap.size ∧ bb < w.heap.size ∧ w.cell? ⟨ba, oa + k, none⟩ = some (.int .i64 (fs.getD k 0)) ∧ w.cell? ⟨bb, ob + k, none⟩ = some (.int .i64 (cs.getD k 0)) ∧
      (1 ≤ fs.getD k 0 ∧ fs.getD k 0 ≤ 30) ∧ (1 ≤ cs.getD k 0 ∧ cs.getD k 0 ≤ 40) := by
  have hm : cs.length = n := by rw [(Sh.sharedB_yes hs.out).2.1]; exact hn.out
  have hk1 : k < fs.length := by rw [hn.out]; exact hk
  have b1 := Sh.flowB_at (Sh.sharedB_yes hs.out).1 hk1
  have b2 := Sh.sharedB_at hs.out hk1
  rcases h.out with e | ⟨ba, oa, rfl, hba, hca⟩
  · rw [e] at hk1; simp at hk1
  rcases h'.out with e | ⟨bb, ob, rfl, hbb, hcb⟩
  · rw [e] at hm; simp at hm; omega
  exact ⟨ba, oa, bb, ob, rfl, rfl, hba, hbb, hca k hk1, hcb k (by omega), b1, b2⟩

set_option maxHeartbeats 1000000 in
theorem gtg_any {a b : Option Addr} {n c d : Nat} {fs cs : List Int} {w : World} (h : Hid (ARow w a fs)) (hn : Hid (fs.length = n)) (h' : Hid (ARow w b cs)) (hs : Hid (Sh.sharedB fs cs = true)) :
    Calls Tryz.prog 107 #[.slice a n c, .slice b n d] w fun e w' => e = .returned (.int .i64 ((Sh.next fs cs : Nat) : Int)) ∧ Below w.heap.size w w' := by
  have e1 : ∀ args w, (callFunc 117 args).run Tryz.prog w = .ok (.enter 117 args) w := enters_of Tryz.func117 (by kernel_rfl) rfl
  have e2 : ∀ args w, (callFunc 118 args).run Tryz.prog w = .ok (.enter 118 args) w := enters_of Tryz.func118 (by kernel_rfl) rfl
  have hl := Sh.flowB_yes (Sh.sharedB_yes hs.out).1
  have hn1 : 0 < n ∧ n ≤ 1000 := by have := hn.out; omega
  have HL : Hid ((Sh.each Sh.gain fs cs).length = n) := hide (by rw [Sh.each_len]; exact hn.out)
  have HG := hide (Sh.gains_good hs.out)
  have HE : Hid (Sh.best Sh.more (Sh.each Sh.gain fs cs) n = Sh.next fs cs) := hide (by unfold Sh.next; rw [hn.out])
  clear hl
  go_enter Tryz.func107, Tryz.ntmps107
  go_wp2_with (first
    | (go_at_call 116; refine (eachK_any Sh.gain e1 (hide fun f c w f0 f1 c0 c1 => gainAt_any f0 f1 c0 c1) h hn h' hs).mono ?_; rintro e w1 ⟨v, rfl, hb1, own1⟩; obtain ⟨g, cap, rfl, g0, g1, row1⟩ := (frow_owns HL.out own1).resolve_left (fun h => by have := h.2; omega); have R1 := hide row1; clear row1 own1)
    | (go_at_call 115; refine (firstB_any Sh.more e2 (hide fun p q w hp hq => more_any hp hq) R1 HL g1 hn1.1 hn1.2 HG).mono ?_; rintro e w2 ⟨rfl, hb2⟩))
  go_ret
  exact ⟨ret_int (by rw [HE.out]), hb1.trans (hb2.mono hb1.size)⟩
set_option maxHeartbeats 2000000 in
theorem sgain_any {a b : Option Addr} {n c d k : Nat} {fs cs : List Int} {w : World} (h : Hid (ARow w a fs)) (hn : Hid (fs.length = n)) (h' : Hid (ARow w b cs)) (hs : Hid (Sh.sharedB fs cs = true)) (hk : k < n) :
    Calls Tryz.prog 106 #[.slice a n c, .slice b n d, .int .i64 (k : Int)] w fun e w' => e = .returned (.agg #[.int .i64 (Sh.gain (fs.getD k 0) (cs.getD k 0)).1, .int .i64 (Sh.gain (fs.getD k 0) (cs.getD k 0)).2]) ∧ Below w.heap.size w w' := by
  obtain ⟨ba, oa, bb, ob, rfl, rfl, hba, hbb, r1, r2, ⟨f0, f1⟩, ⟨c0, c1⟩⟩ := at_both h hn h' hs hk
  have k0 : (0 : Int) ≤ (k : Int) := by omega
  have k1 : (k : Int) < (n : Int) := by omega
  generalize fs.getD k 0 = x at *
  generalize cs.getD k 0 = y at *
  obtain ⟨d0, d1⟩ := Sh.gain_den c0 c1
  have m1 : wrap64 (y * (y + 1)) = y * (y + 1) := wrap_id _ (by omega) (by omega)
  have m0 : wrap64 (y + 1) = y + 1 := wrap_id _ (by omega) (by omega)
  have m1' : IntKind.i64.wrap (y * (y + 1)) = y * (y + 1) := by rw [IntKind.wrap_i64]; omega
  have m0' : IntKind.i64.wrap (y + 1) = y + 1 := by rw [IntKind.wrap_i64]; omega
  have hb0 : Below w.heap.size w (w.alloc (.cells #[.int .i64 0, .int .i64 0] 32)) := (Below.refl _ _).alloc (Nat.le_refl _) _
  have q1 := (hb0.cell (p := ⟨ba, oa + k, none⟩) hba).trans r1
  have q2 := (hb0.cell (p := ⟨bb, ob + k, none⟩) hbb).trans r2
  show Calls Tryz.prog 106 _ w fun e w' => e = .returned (.agg #[.int .i64 (Fr.mkN x (y * (y + 1))), .int .i64 (Fr.mkD x (y * (y + 1)))]) ∧ Below w.heap.size w w'
  go_enter Tryz.func106, Tryz.ntmps106
  go_wp2_with fail
  go_region_held3 (fun w' => w'.cell? ⟨ba, oa + k, none⟩ = some (.int .i64 x) ∧ w'.cell? ⟨bb, ob + k, none⟩ = some (.int .i64 y) ∧ Below w.heap.size w w' ∧ w.heap.size < w'.heap.size)
    (first | exact ⟨q1, q2, hb0.drew, by simp⟩ | assumption | exact two_call hba hbb ‹_› (by assumption) | exact two_set hba hbb (two_set hba hbb ‹_›) | fail)
    (first | (go_at_call 48; refine (make_pos x (y * (y + 1)) _ (by omega) (by omega) d0 (by omega)).mono ?_; rintro e w3 ⟨rfl, hb3⟩; obtain ⟨c4, c5, g4, g5⟩ := res_new hb3) | fail)
  obtain ⟨_, _, hB, _⟩ := ‹_ ∧ _ ∧ _ ∧ _›
  go_wp2_with fail
  exact bodyPost_ret (v := .agg #[.int .i64 (Fr.mkN x (y * (y + 1))), .int .i64 (Fr.mkD x (y * (y + 1)))]) (by simp [results, Tryz.results106, go_sem, c4, c5]) rfl ⟨rfl, hB⟩
set_option maxHeartbeats 2000000 in
theorem snext_any {a b : Option Addr} {n c d : Nat} {fs cs : List Int} {w : World} (h : Hid (ARow w a fs)) (hn : Hid (fs.length = n)) (h' : Hid (ARow w b cs)) (hs : Hid (Sh.sharedB fs cs = true)) :
    Calls Tryz.prog 86 #[.slice a n c, .slice b n d] w fun e w' => e = .returned (.int .i64 ((Sh.next fs cs : Nat) : Int)) ∧ Below w.heap.size w w' := by
  have hl := Sh.flowB_yes (Sh.sharedB_yes hs.out).1
  have hn1 : 0 < n ∧ n ≤ 1000 := by have := hn.out; omega
  clear hl
  have HL : Hid ((Sh.each Sh.gain fs cs).length = n) := hide (by rw [Sh.each_len]; exact hn.out)
  have HE : Hid (Sh.best Sh.more (Sh.each Sh.gain fs cs) n = Sh.next fs cs) := hide (by unfold Sh.next; rw [hn.out])
  have HG := hide (Sh.gains_good hs.out)
  obtain ⟨n0, n8⟩ := hn1
  go_enter Tryz.func86, Tryz.ntmps86
  go_wp2_with fail
  go_loopw [5, 6, 9] (fun s5 _ s wr => ∃ k m : Nat, s5 = .int .i64 m ∧ s = .int .i64 k ∧ k ≤ n ∧ m < n ∧ Hid (m = Sh.best Sh.more (Sh.each Sh.gain fs cs) k) ∧ Below w.heap.size w wr) (fun _ _ s _ => n - (intOf s).toNat)
  case atStart => exact ⟨0, 0, rfl, rfl, Nat.zero_le _, n0, hide rfl, Below.refl _ _⟩
  case round =>
    obtain ⟨k, m, rfl, rfl, hk, hmn, HM, hB⟩ := hrel
    by_cases hlt : k < n
    · have HS : Hid (Sh.best Sh.more (Sh.each Sh.gain fs cs) (k + 1) = if Sh.less (Sh.gain (fs.getD m 0) (cs.getD m 0)) (Sh.gain (fs.getD k 0) (cs.getD k 0)) = true then k else m) := hide (by rw [Sh.best, ← HM.out, Sh.each_at _ _ _ (by rw [hn.out]; exact hlt), Sh.each_at _ _ _ (by rw [hn.out]; exact hmn)]; rfl)
      have HG1 := HG.out k (by rw [HL.out]; exact hlt)
      have HG2 := HG.out m (by rw [HL.out]; exact hmn)
      rw [Sh.each_at _ _ _ (by rw [hn.out]; exact hlt)] at HG1
      rw [Sh.each_at _ _ _ (by rw [hn.out]; exact hmn)] at HG2
      have HC1 := hide (sgain_any (c := c) (d := d) (hide (h.out.below hB)) hn (hide (h'.out.below hB)) hs hmn)
      have HC2 := hide (fun w1 (hb1 : Below wr.heap.size wr w1) => sgain_any (c := c) (d := d) (hide ((h.out.below hB).below hb1)) hn (hide ((h'.out.below hB).below hb1)) hs hlt)
      generalize Sh.gain (fs.getD m 0) (cs.getD m 0) = p at *
      generalize Sh.gain (fs.getD k 0) (cs.getD k 0) = q at *
      have HL3 := hide (fun w' => sless_any (w := w') HG2 HG1)
      clear HG1 HG2
      cases hc : Sh.less p q
      · rw [hc] at HL3
        have HN : Hid (m = Sh.best Sh.more (Sh.each Sh.gain fs cs) (k + 1)) := hide (by rw [HS.out, hc]; rfl)
        clear hc HS
        go_wp2_with fail
        refine HC1.out.mono ?_
        rintro e w1 ⟨rfl, hb1⟩
        go_wp2_with fail
        refine (HC2.out w1 hb1).mono ?_
        rintro e w2 ⟨rfl, hb2⟩
        go_wp2_with fail
        refine (HL3.out w2).mono ?_
        rintro e w3 ⟨rfl, hb3⟩
        have hB3 := ((hB.trans (hb1.mono hB.size)).trans (hb2.mono (Nat.le_trans hB.size hb1.size))).trans (hb3.mono (Nat.le_trans (Nat.le_trans hB.size hb1.size) hb2.size))
        go_wp2_with fail
        go_roundw
        case rel => exact ⟨k + 1, m, rfl, by go_num, by omega, hmn, HN, hB3⟩
        case measure => simp only [intOf]; omega
      · rw [hc] at HL3
        have HN : Hid (k = Sh.best Sh.more (Sh.each Sh.gain fs cs) (k + 1)) := hide (by rw [HS.out, hc]; rfl)
        clear hc HS
        go_wp2_with fail
        refine HC1.out.mono ?_
        rintro e w1 ⟨rfl, hb1⟩
        go_wp2_with fail
        refine (HC2.out w1 hb1).mono ?_
        rintro e w2 ⟨rfl, hb2⟩
        go_wp2_with fail
        refine (HL3.out w2).mono ?_
        rintro e w3 ⟨rfl, hb3⟩
        have hB3 := ((hB.trans (hb1.mono hB.size)).trans (hb2.mono (Nat.le_trans hB.size hb1.size))).trans (hb3.mono (Nat.le_trans (Nat.le_trans hB.size hb1.size) hb2.size))
        go_wp2_with fail
        go_roundw
        case rel => exact ⟨k + 1, k, rfl, by go_num, by omega, hlt, HN, hB3⟩
        case measure => simp only [intOf]; omega
    · have hke : k = n := by omega
      subst hke
      go_wp2_with fail
      go_ret
      exact ⟨ret_int (by rw [HM.out, HE.out]), hB⟩
def nextN (fs cs : List Int) : Int := if Sh.sharedB fs cs = true then ((Sh.next fs cs : Nat) : Int) else 0
theorem shared_len {fs cs : List Int} {n m : Nat} (hn : Hid (fs.length = n)) (hm : Hid (cs.length = m)) (hs : Sh.sharedB fs cs = true) : m = n := by
  have := (Sh.sharedB_yes hs).2.1; have := hn.out; have := hm.out; omega
end Go.Proofs.YtlbagigghpiifabGreat
namespace Go.Proofs.YtlbagigghpiifabGreat
open Go.RowKit

def gainB (fs cs : List Int) (k : Int) : Bool := Sh.sharedB fs cs && Pf.inB k 0 ((fs.length : Int) - 1)
def gainF (fs cs : List Int) (k : Int) : Int × Int := if gainB fs cs k = true then Sh.gain (fs.getD k.toNat 0) (cs.getD k.toNat 0) else (0, 0)
def fb (p : Int × Int) (b : Bool) : Value := .tuple #[.agg #[.int .i64 p.1, .int .i64 p.2], .bool b]
theorem fb_eq (p : Int × Int) (b : Bool) : fb p b = .tuple #[.agg #[.int .i64 p.1, .int .i64 p.2], .bool b] := rfl
theorem below_up {w wr w2 : World} {o : Obj} (HB : Below (w.heap.size + 1) (w.alloc o) wr) (hb : Below wr.heap.size wr w2) (hs : w.heap.size + 1 ≤ wr.heap.size) : Below (w.alloc o).heap.size (w.alloc o) w2 := by
  have e : (w.alloc o).heap.size = w.heap.size + 1 := by simp
  rw [e]; exact HB.trans (hb.mono hs)


def costB (fs cs : List Int) : Bool := Sh.sharedB fs cs && Fr.sumB (Sh.each Sh.cost fs cs)
def costF (fs cs : List Int) : Int × Int := if Sh.sharedB fs cs = true then (Fr.sumN (Sh.each Sh.cost fs cs), Fr.sumD (Sh.each Sh.cost fs cs)) else (0, 0)
end Go.Proofs.YtlbagigghpiifabGreat
namespace Go.Proofs.YtlbagigghpiifabGreat
open Go.RowKit

namespace Hs
def trB (ps cs ws os : List Int) : Bool := dayB ps cs ws && fitB cs os
def trF (ps cs ws os : List Int) : Int × Int := if trB ps cs ws os = true then (Fr.sumN (farL ps cs ws os), Fr.sumD (farL ps cs ws os)) else (0, 0)
def trG (ps cs ws os : List Int) : Bool := trB ps cs ws os && Fr.sumB (farL ps cs ws os)
theorem tr_yes {ps cs ws os : List Int} {n m : Nat} (hm : cs.length = m) (hn : ws.length = n) (h : trB ps cs ws os = true) : ps.length = m ∧ os.length = n ∧ n ≤ 10 ∧ m ≤ 8 ∧ (∀ i, i < m → 1 ≤ ps.getD i 0 ∧ ps.getD i 0 ≤ 30) ∧ (∀ i, i < m → 1 ≤ cs.getD i 0 ∧ cs.getD i 0 ≤ 10) ∧ (∀ i, i < n → 0 ≤ ws.getD i 0 ∧ ws.getD i 0 ≤ 1000) ∧ (∀ i, i < n → 0 ≤ os.getD i 0 ∧ os.getD i 0 < (m : Int)) := by
  rw [trB, Bool.and_eq_true] at h
  obtain ⟨h1, h2⟩ := h
  obtain ⟨f1, f2, f3⟩ := day_yes h1
  obtain ⟨c1, c2, c3, c4⟩ := slotsB_yes f3
  have hl := fit_len h2
  have h8 := (cntB_yes c1).2.1
  have hq : os.length = n := by omega
  refine ⟨by omega, hq, by omega, by omega, fun i hi => Sh.flowB_at f1 (by omega), fun i hi => cntB_at c1 (by omega), fun i hi => Pf.inB_yes (Pf.allB_get c3 (by omega)), fun i hi => ?_⟩
  have := fit_at h2 (i := i) (by omega)
  omega
end Hs
/-- The answer's variable, behind whatever was laid since. -/
theorem res17 {w W1 : World} {o : Obj} {t : TypeId} (h : Below ((w.alloc (.cells #[.int .i64 0, .int .i64 0] t)).alloc o).heap.size ((w.alloc (.cells #[.int .i64 0, .int .i64 0] t)).alloc o) W1) :
    W1.cell? ⟨w.heap.size, 0, none⟩ = some (.int .i64 0) ∧ W1.cell? ⟨w.heap.size, 1, none⟩ = some (.int .i64 0) ∧ W1.frozen? ⟨w.heap.size, 0, none⟩ = false ∧ W1.frozen? ⟨w.heap.size, 1, none⟩ = false := by
  have hz : w.heap.size < (w.alloc (.cells #[.int .i64 0, .int .i64 0] t)).heap.size := by simp
  have hb := (below_new (w.alloc (.cells #[.int .i64 0, .int .i64 0] t)) o).trans (h.mono (by simp))
  exact ⟨(hb.cell (p := ⟨w.heap.size, 0, none⟩) hz).trans (by simp [go_sem]), (hb.cell (p := ⟨w.heap.size, 1, none⟩) hz).trans (by simp [go_sem]), (hb.frozen (p := ⟨w.heap.size, 0, none⟩) hz).trans (by simp [go_sem]), (hb.frozen (p := ⟨w.heap.size, 1, none⟩) hz).trans (by simp [go_sem])⟩
theorem below_res17 {w W1 : World} {o : Obj} {t : TypeId} (h : Below ((w.alloc (.cells #[.int .i64 0, .int .i64 0] t)).alloc o).heap.size ((w.alloc (.cells #[.int .i64 0, .int .i64 0] t)).alloc o) W1) (u v : Value) :
    Below w.heap.size w ((W1.setCell ⟨w.heap.size, 0, none⟩ u).setCell ⟨w.heap.size, 1, none⟩ v) := by
  have b1 := below_new w (.cells #[.int .i64 0, .int .i64 0] t)
  have hb := b1.trans (((below_new (w.alloc (.cells #[.int .i64 0, .int .i64 0] t)) o).trans (h.mono (by simp))).mono b1.size)
  exact (hb.setCell (p := ⟨w.heap.size, 0, none⟩) (Nat.le_refl _) u).setCell (p := ⟨w.heap.size, 1, none⟩) (Nat.le_refl _) v
theorem sumF17 {b n cap : Nat} {xs : List (Int × Int)} {w : World} (hr : Hid (RowAt w b 0 xs)) (hn : Hid (xs.length = n)) (hb : b < w.heap.size) :
    Calls Tryz.prog 56 #[.slice (some ⟨b, 0, none⟩) n cap] w fun e w' => e = .returned (fb (Fr.sumN xs, Fr.sumD xs) (Fr.sumB xs)) ∧ Below w.heap.size w w' := by
  have := hn.out
  subst this
  exact sum_any b 0 cap xs w hr.out hb
theorem ssumF17 {b n cap : Nat} {xs : List (Int × Int)} {w : World} (hr : Hid (RowAt w b 0 xs)) (hn : Hid (xs.length = n)) (hb : b < w.heap.size) :
    Calls Tryz.prog 49 #[.slice (some ⟨b, 0, none⟩) n cap] w fun e w' => e = .returned (fb (Fr.sumN xs, Fr.sumD xs) (Fr.sumB xs)) ∧ Below w.heap.size w w' := by
  have := hn.out
  subst this
  exact ssum_any b 0 cap xs w hr.out hb
set_option maxHeartbeats 2000000 in
theorem tr_no {p b a o : Option Addr} {n m r q c d e f : Nat} {ps cs ws os : List Int} {w : World} (HR : Hid (ps.length = r)) (HM : Hid (cs.length = m)) (HN : Hid (ws.length = n)) (HQ : Hid (os.length = q)) (hq : q ≤ 1048576) (HP : Hid (ARow w p ps)) (HB : Hid (ARow w b cs)) (HA : Hid (ARow w a ws)) (HO : Hid (ARow w o os)) (HD : Hid (Hs.trB ps cs ws os = false)) :
    Calls Tryz.prog 29 #[.slice p r f, .slice b m d, .slice a n c, .slice o q e] w fun e w' => e = .returned (fb (0, 0) false) ∧ Below w.heap.size w w' := by
  have hb0 := below_new w (.cells #[.int .i64 0, .int .i64 0] 32)
  have hb1 := below_new (w.alloc (.cells #[.int .i64 0, .int .i64 0] 32)) (.cells #[.slice a n c, .slice b m d, .slice o q e, .slice p r f] 90)
  have HX := hide (DyBox.new (w.alloc (.cells #[.int .i64 0, .int .i64 0] 32)) (.slice a n c) (.slice b m d) (.slice o q e) (.slice p r f) 90)
  have HA1 := hide ((HA.out.below hb0).below hb1)
  have HB1 := hide ((HB.out.below hb0).below hb1)
  have HP1 := hide ((HP.out.below hb0).below hb1)
  have HO1 := hide ((HO.out.below hb0).below hb1)
  have hz : (w.alloc (.cells #[.int .i64 0, .int .i64 0] 32)).heap.size = w.heap.size + 1 := by simp
  rw [hz] at HX
  have HE : Hid (Hs.trB ps cs ws os = (((Sh.flowB ps && decide (ps.length = cs.length)) && Hs.slotsB cs ws) && Hs.fitB cs os)) := hide rfl
  clear hb0 hb1 hz
  cases h1 : (Sh.flowB ps && decide (ps.length = cs.length))
  · have H1 := hide h1
    clear h1
    go_enter Tryz.func29, Tryz.ntmps29
    go_wp2_with fail
    refine (ip17_eq HM HR HP1 H1).mono ?_
    rintro _ w1 ⟨rfl, hb1⟩
    obtain ⟨c0, c1, g0, g1⟩ := res17 hb1
    go_wp2_with fail
    exact bodyPost_ret (v := fb (0, 0) false) (by simp [results, Tryz.results29, go_sem, c0, c1, fb]) rfl ⟨rfl, below_res17 hb1 _ _⟩
  · have H1 := hide h1
    cases h2 : Hs.slotsB cs ws
    · have H2 := hide h2
      clear h1 h2
      go_enter Tryz.func29, Tryz.ntmps29
      go_wp2_with fail
      refine (ip17_eq HM HR HP1 H1).mono ?_
      rintro _ w1 ⟨rfl, hb1⟩
      obtain ⟨x0, x1, x2, x3, _⟩ := HX.out.below hb1
      have HA2 := hide (HA1.out.below hb1)
      have HB2 := hide (HB1.out.below hb1)
      go_wp2_with fail
      refine (hs_eq HN HM HA2 HB2 H2).mono ?_
      rintro _ w2 ⟨rfl, hb2⟩
      have hb3 := hb1.trans (hb2.mono hb1.size)
      obtain ⟨c0, c1, g0, g1⟩ := res17 hb3
      go_wp2_with fail
      exact bodyPost_ret (v := fb (0, 0) false) (by simp [results, Tryz.results29, go_sem, c0, c1, fb]) rfl ⟨rfl, below_res17 hb3 _ _⟩
    · have H2 := hide h2
      have H3 : Hid (Hs.fitB cs os = false) := hide (by have := HD.out; rw [HE.out, h1, h2, Bool.true_and, Bool.true_and] at this; exact this)
      obtain ⟨m1, m8, _⟩ := cnt_few HM (Hs.slotsB_yes h2).1
      clear h1 h2
      go_enter Tryz.func29, Tryz.ntmps29
      go_wp2_with fail
      refine (ip17_eq HM HR HP1 H1).mono ?_
      rintro _ w1 ⟨rfl, hb1⟩
      have HX1 := hide (HX.out.below hb1)
      obtain ⟨x0, x1, x2, x3, _⟩ := HX1.out
      have HA2 := hide (HA1.out.below hb1)
      have HB2 := hide (HB1.out.below hb1)
      have HO2 := hide (HO1.out.below hb1)
      go_wp2_with fail
      refine (hs_eq HN HM HA2 HB2 H2).mono ?_
      rintro _ w2 ⟨rfl, hb2⟩
      clear x0 x1 x2 x3
      obtain ⟨x0, x1, x2, x3, _⟩ := HX1.out.below hb2
      have hb3 := hb1.trans (hb2.mono hb1.size)
      go_wp2_with fail
      refine (ho_eq HM m1 m8 HQ hq (hide (HB2.out.below hb2)) (hide (HO2.out.below hb2)) H3).mono ?_
      rintro _ w3 ⟨rfl, hb4⟩
      have hb5 := hb3.trans (hb4.mono hb3.size)
      obtain ⟨c0, c1, g0, g1⟩ := res17 hb5
      go_wp2_with fail
      exact bodyPost_ret (v := fb (0, 0) false) (by simp [results, Tryz.results29, go_sem, c0, c1, fb]) rfl ⟨rfl, below_res17 hb5 _ _⟩
set_option maxHeartbeats 2000000 in
theorem tr_go {p b a o : Option Addr} {n m c d e f : Nat} {ps cs ws os : List Int} {w : World} (HR : Hid (ps.length = m)) (HM : Hid (cs.length = m)) (HN : Hid (ws.length = n)) (HQ : Hid (os.length = n)) (HP : Hid (ARow w p ps)) (HB : Hid (ARow w b cs)) (HA : Hid (ARow w a ws)) (HO : Hid (ARow w o os)) (HD : Hid (Hs.trB ps cs ws os = true)) :
    Calls Tryz.prog 29 #[.slice p m f, .slice b m d, .slice a n c, .slice o n e] w fun e w' => e = .returned (fb (Fr.sumN (Hs.farL ps cs ws os), Fr.sumD (Hs.farL ps cs ws os)) (Fr.sumB (Hs.farL ps cs ws os))) ∧ Below w.heap.size w w' := by
  obtain ⟨_, _, n10, m8, t1, t2, t3, t4⟩ := Hs.tr_yes HM.out HN.out HD.out
  have T1 := hide t1
  have T2 := hide t2
  have T3 := hide t3
  have T4 := hide t4
  have hd := HD.out
  rw [Hs.trB, Bool.and_eq_true] at hd
  obtain ⟨f1, f2, f3⟩ := Hs.day_yes hd.1
  have H1 : Hid ((Sh.flowB ps && decide (ps.length = cs.length)) = true) := hide (by rw [f1, Bool.true_and, decide_eq_true_eq]; exact f2)
  have H2 := hide f3
  have H3 := hide hd.2
  have m1 : 1 ≤ m := (cnt_few HM (Hs.slotsB_yes f3).1).1
  have hb0 := below_new w (.cells #[.int .i64 0, .int .i64 0] 32)
  have hb1 := below_new (w.alloc (.cells #[.int .i64 0, .int .i64 0] 32)) (.cells #[.slice a n c, .slice b m d, .slice o n e, .slice p m f] 90)
  have HX := hide (DyBox.new (w.alloc (.cells #[.int .i64 0, .int .i64 0] 32)) (.slice a n c) (.slice b m d) (.slice o n e) (.slice p m f) 90)
  have HA1 := hide ((HA.out.below hb0).below hb1)
  have HB1 := hide ((HB.out.below hb0).below hb1)
  have HP1 := hide ((HP.out.below hb0).below hb1)
  have HO1 := hide ((HO.out.below hb0).below hb1)
  have hz : (w.alloc (.cells #[.int .i64 0, .int .i64 0] 32)).heap.size = w.heap.size + 1 := by simp
  rw [hz] at HX
  have HL : Hid ((Hs.farL ps cs ws os).length = n) := hide ((Hs.farL_len ps cs ws os).trans HQ.out)
  have hsum := hide (fun b cap (w' : World) hr hb => sumF17 (b := b) (cap := cap) (w := w') (xs := Hs.farL ps cs ws os) hr HL hb)
  generalize hl : Hs.farL ps cs ws os = L at *
  have HLE := hide hl
  generalize Fr.sumN L = q1 at *
  generalize Fr.sumD L = q2 at *
  generalize Fr.sumB L = qb at *
  rw [fb_eq] at hsum
  clear hb0 hb1 hz hd f1 f2 f3 t1 t2 t3 t4 hl
  go_enter Tryz.func29, Tryz.ntmps29
  go_wp2_with fail
  refine (ip17_eq HM HR HP1 H1).mono ?_
  rintro _ w1 ⟨rfl, hb1⟩
  have HX1 := hide (HX.out.below hb1)
  obtain ⟨x0, x1, x2, x3, _⟩ := HX1.out
  have HA2 := hide (HA1.out.below hb1)
  have HB2 := hide (HB1.out.below hb1)
  have HO2 := hide (HO1.out.below hb1)
  have HP2 := hide (HP1.out.below hb1)
  go_wp2_with fail
  refine (hs_eq HN HM HA2 HB2 H2).mono ?_
  rintro _ w2 ⟨rfl, hb2⟩
  clear x0 x1 x2 x3
  have HX2 := hide (HX1.out.below hb2)
  obtain ⟨x0, x1, x2, x3, _⟩ := HX2.out
  have hb3 := hb1.trans (hb2.mono hb1.size)
  have HA3 := hide (HA2.out.below hb2)
  have HB3 := hide (HB2.out.below hb2)
  have HO3 := hide (HO2.out.below hb2)
  have HP3 := hide (HP2.out.below hb2)
  go_wp2_with fail
  refine (ho_eq HM m1 m8 HQ (by omega) HB3 HO3 H3).mono ?_
  rintro _ w3 ⟨rfl, hb4⟩
  clear x0 x1 x2 x3
  obtain ⟨x0, x1, x2, x3, _⟩ := HX2.out.below hb4
  have hb5 := hb3.trans (hb4.mono hb3.size)
  have HA4 := hide (HA3.out.below hb4)
  have HB4 := hide (HB3.out.below hb4)
  have HO4 := hide (HO3.out.below hb4)
  have HP4 := hide (HP3.out.below hb4)
  clear hb2 hb3 hb4
  go_wp2_with fail
  refine (ca_any HN HM HR HQ n10 T1 T2 T3 T4 HA4 HB4 HO4 HP4).mono ?_
  rintro _ w4 ⟨g, rfl, hb6, hg, hrow⟩
  have hb7 := hb5.trans (hb6.mono hb5.size)
  have HROW : Hid (RowAt w4 g 0 L) := hide (by rw [← HLE.out]; exact hrow)
  clear hrow x0 x1 x2 x3
  go_wp2_with fail
  refine (hsum.out _ _ _ HROW hg).mono ?_
  rintro _ w5 ⟨rfl, hb8⟩
  have hb9 := hb7.trans (hb8.mono hb7.size)
  obtain ⟨c0, c1, g0, g1⟩ := res17 hb9
  clear hb7 hb8 hb6 hb5 hb1
  go_wp2_with fail
  exact bodyPost_ret (v := fb (q1, q2) qb) (by simp [results, Tryz.results29, go_sem, c0, c1, fb]) rfl ⟨rfl, below_res17 hb9 _ _⟩
theorem tr_any {p b a o : Option Addr} {n m r q c d e f : Nat} {ps cs ws os : List Int} {w : World} (HR : Hid (ps.length = r)) (HM : Hid (cs.length = m)) (HN : Hid (ws.length = n)) (HQ : Hid (os.length = q)) (hq : q ≤ 1048576) (HP : Hid (ARow w p ps)) (HB : Hid (ARow w b cs)) (HA : Hid (ARow w a ws)) (HO : Hid (ARow w o os)) :
    Calls Tryz.prog 29 #[.slice p r f, .slice b m d, .slice a n c, .slice o q e] w fun e w' => e = .returned (fb (Hs.trF ps cs ws os) (Hs.trG ps cs ws os)) ∧ Below w.heap.size w w' := by
  unfold Hs.trF Hs.trG
  cases h : Hs.trB ps cs ws os
  · exact tr_no HR HM HN HQ hq HP HB HA HO (hide h)
  · obtain ⟨h1, h2, _⟩ := Hs.tr_yes HM.out HN.out h
    obtain rfl : r = m := HR.out.symm.trans h1
    obtain rfl : q = n := HQ.out.symm.trans h2
    exact tr_go HR HM HN HQ HP HB HA HO (hide h)
/-- The answer's variable of the model, behind whatever was laid since. -/
theorem sres17 {w W1 : World} {t : TypeId} (h : Below (w.alloc (.cells #[.int .i64 0, .int .i64 0] t)).heap.size (w.alloc (.cells #[.int .i64 0, .int .i64 0] t)) W1) (u v : Value) :
    Below w.heap.size w ((W1.setCell ⟨w.heap.size, 0, none⟩ u).setCell ⟨w.heap.size, 1, none⟩ v) := by
  have b1 := below_new w (.cells #[.int .i64 0, .int .i64 0] t)
  exact ((b1.trans (h.mono b1.size)).setCell (p := ⟨w.heap.size, 0, none⟩) (Nat.le_refl _) u).setCell (p := ⟨w.heap.size, 1, none⟩) (Nat.le_refl _) v
set_option maxHeartbeats 2000000 in
theorem str_no {p b a o : Option Addr} {n m r q c d e f : Nat} {ps cs ws os : List Int} {w : World} (HR : Hid (ps.length = r)) (HM : Hid (cs.length = m)) (HN : Hid (ws.length = n)) (hn : n ≤ 1048576) (HQ : Hid (os.length = q)) (hq : q ≤ 1048576) (HP : Hid (ARow w p ps)) (HB : Hid (ARow w b cs)) (HA : Hid (ARow w a ws)) (HO : Hid (ARow w o os)) (HD : Hid (Hs.trB ps cs ws os = false)) :
    Calls Tryz.prog 24 #[.slice p r f, .slice b m d, .slice a n c, .slice o q e] w fun e w' => e = .returned (fb (0, 0) false) ∧ Below w.heap.size w w' := by
  have hb0 := below_new w (.cells #[.int .i64 0, .int .i64 0] 32)
  have HA1 := hide (HA.out.below hb0)
  have HB1 := hide (HB.out.below hb0)
  have HP1 := hide (HP.out.below hb0)
  have HO1 := hide (HO.out.below hb0)
  clear hb0
  cases h1 : Hs.dayB ps cs ws
  · have H1 := hide h1
    clear h1
    go_enter Tryz.func24, Tryz.ntmps24
    go_wp2_with fail
    refine (sall17_eq HR HM HN hn HP1 HB1 HA1 H1).mono ?_
    rintro _ w1 ⟨rfl, hw⟩
    subst hw
    go_wp2_with fail
    exact bodyPost_ret (v := fb (0, 0) false) (by simp [results, Tryz.results24, go_sem, fb]) rfl ⟨rfl, below_new _ _⟩
  · have H1 := hide h1
    obtain ⟨_, _, f3⟩ := Hs.day_yes h1
    obtain ⟨m1, m8, _⟩ := cnt_few HM (Hs.slotsB_yes f3).1
    by_cases hqn : q = n
    · subst hqn
      have he : ((q : Int) != (q : Int)) = false := by simp
      have H3 : Hid (Hs.fitB cs os = false) := hide (by have := HD.out; rw [Hs.trB, h1, Bool.true_and] at this; exact this)
      clear h1 f3
      go_enter Tryz.func24, Tryz.ntmps24
      go_wp2_with fail
      refine (sall17_eq HR HM HN hn HP1 HB1 HA1 H1).mono ?_
      rintro _ w1 ⟨rfl, hw⟩
      subst hw
      go_wp2_with fail
      refine (sfit_eq HM m1 m8 HQ hq HB1 HO1 H3).mono ?_
      rintro _ w2 ⟨rfl, hb2⟩
      obtain ⟨c0, c1, g0, g1⟩ := res_new' hb2
      go_wp2_with fail
      exact bodyPost_ret (v := fb (0, 0) false) (by simp [results, Tryz.results24, go_sem, c0, c1, fb]) rfl ⟨rfl, sres17 hb2 _ _⟩
    · have he : ((q : Int) != (n : Int)) = true := by simp; omega
      clear h1 f3
      go_enter Tryz.func24, Tryz.ntmps24
      go_wp2_with fail
      refine (sall17_eq HR HM HN hn HP1 HB1 HA1 H1).mono ?_
      rintro _ w1 ⟨rfl, hw⟩
      subst hw
      go_wp2_with fail
      exact bodyPost_ret (v := fb (0, 0) false) (by simp [results, Tryz.results24, go_sem, fb]) rfl ⟨rfl, below_new _ _⟩
end Go.Proofs.YtlbagigghpiifabGreat
namespace Go.Proofs.YtlbagigghpiifabGreat
open Go.RowKit

theorem take_far17 (L : List (Int × Int)) {k : Nat} (hk : k < L.length) {x y : Int} (h : L.getD k (0, 0) = (x, y)) : fcells (L.take k) ++ [.int .i64 x, .int .i64 y] = fcells (L.take (k + 1)) := by
  rw [List.take_add_one, show L[k]?.toList = [(x, y)] by rw [← h]; simp [hk], fcells_snoc]
set_option maxHeartbeats 4000000 in
theorem str_go {p b a o : Option Addr} {n m c d e f : Nat} {ps cs ws os : List Int} {w : World} (HR : Hid (ps.length = m)) (HM : Hid (cs.length = m)) (HN : Hid (ws.length = n)) (HQ : Hid (os.length = n)) (HPr : Hid (ARow w p ps)) (HB : Hid (ARow w b cs)) (HA : Hid (ARow w a ws)) (HOr : Hid (ARow w o os)) (HD : Hid (Hs.trB ps cs ws os = true)) :
    Calls Tryz.prog 24 #[.slice p m f, .slice b m d, .slice a n c, .slice o n e] w fun e w' => e = .returned (fb (Fr.sumN (Hs.farL ps cs ws os), Fr.sumD (Hs.farL ps cs ws os)) (Fr.sumB (Hs.farL ps cs ws os))) ∧ Below w.heap.size w w' := by
  obtain ⟨i0, hi, hz0, hz1, hz2⟩ := info_parts infF
  obtain ⟨_, _, n10, m8, t1, t2, t3, t4⟩ := Hs.tr_yes HM.out HN.out HD.out
  have HP := hide t1
  have HC := hide t2
  have HW := hide t3
  have HO := hide t4
  have hd := HD.out
  rw [Hs.trB, Bool.and_eq_true] at hd
  obtain ⟨f1, f2, f3⟩ := Hs.day_yes hd.1
  have H1 := hide hd.1
  have H3 := hide hd.2
  have m1 : 1 ≤ m := (cnt_few HM (Hs.slotsB_yes f3).1).1
  have n1 : 1 ≤ n := by
    have h1 := (Hs.slotsB_yes f3).2.1
    have h2 := Hs.cntB_at (Hs.slotsB_yes f3).1 (i := 0) (by rw [HM.out]; omega)
    have h3 := (Pf.sum_bd (Hs.cntB_yes (Hs.slotsB_yes f3).1).2.2.1).1
    have := HN.out
    have := HM.out
    omega
  have hb0 := below_new w (.cells #[.int .i64 0, .int .i64 0] 32)
  have HA1 := hide (HA.out.below hb0)
  have HB1 := hide (HB.out.below hb0)
  have HP1 := hide (HPr.out.below hb0)
  have HO1 := hide (HOr.out.below hb0)
  have HL : Hid ((Hs.farL ps cs ws os).length = n) := hide ((Hs.farL_len ps cs ws os).trans HQ.out)
  have he : ((n : Int) != (n : Int)) = false := by simp
  clear hb0 hd f1 f2 f3 t1 t2 t3 t4
  go_enter Tryz.func24, Tryz.ntmps24
  go_wp2_with fail
  refine (sall17_eq HR HM HN (by omega) HP1 HB1 HA1 H1).mono ?_
  rintro _ w1 ⟨rfl, hw⟩
  subst hw
  go_wp2_with fail
  refine (sfit_eq HM m1 m8 HQ (by omega) HB1 HO1 H3).mono ?_
  rintro _ w2 ⟨rfl, hb2⟩
  have HB2 := hide hb2
  have hz0w : w.heap.size + 1 ≤ w2.heap.size := by have := hb2.size; simpa using this
  clear hb2 HA1 HB1 HP1 HO1
  go_wp2_with fail
  go_loopw [10, 11, 12, 34] (fun s10 _ _ s wr => ∃ (k : Nat) (V : Value), s10 = V ∧ s = .int .i64 k ∧ k ≤ n ∧ Hid (wr.ownsRow (w.heap.size + 1) 32 2 V k (fcells ((Hs.farL ps cs ws os).take k))) ∧ Hid (Below (w.alloc (.cells #[.int .i64 0, .int .i64 0] 32)).heap.size (w.alloc (.cells #[.int .i64 0, .int .i64 0] 32)) wr)) (fun _ _ _ s _ => n - (intOf s).toNat)
  case atStart => exact ⟨0, _, rfl, rfl, Nat.zero_le _, hide (World.ownsRow_nil _ _ _ _), HB2⟩
  case round =>
    clear HB2
    obtain ⟨k, V, hV, rfl, hk, HOW, HBX⟩ := hrel
    have hV' := hV.symm
    subst hV'
    have b0 := below_new w (.cells #[.int .i64 0, .int .i64 0] 32)
    have HBw := hide (b0.trans (HBX.out.mono b0.size))
    have hzr : w.heap.size + 1 ≤ wr.heap.size := by have := HBX.out.size; simpa using this
    clear b0
    by_cases hlt : k < n
    · have i0' : (0 : Int) ≤ (k : Int) := by omega
      have i1 : (k : Int) < (n : Int) := by omega
      obtain ⟨hx0, hx1⟩ := HO.out k hlt
      obtain ⟨hw0, hw1⟩ := HW.out k hlt
      obtain ⟨bo, oo, rfl, r1⟩ := (HOr.out.below HBw.out).at (i := k) (by rw [HQ.out]; exact hlt)
      obtain ⟨ba, oa, rfl, r2⟩ := (HA.out.below HBw.out).at (i := k) (by rw [HN.out]; exact hlt)
      have HLA := hide (Hs.farL_at ps cs ws os (s := k) (by rw [HQ.out]; exact hlt))
      generalize hxx : os.getD k 0 = x at *
      obtain ⟨j, rfl⟩ := Int.eq_ofNat_of_zero_le hx0
      have hjm : j < m := by omega
      rw [Int.toNat_natCast] at HLA
      obtain ⟨bp, op, rfl, r3⟩ := (HPr.out.below HBw.out).at (i := j) (by rw [HR.out]; exact hjm)
      obtain ⟨bb, ob, rfl, r4⟩ := (HB.out.below HBw.out).at (i := j) (by rw [HM.out]; exact hjm)
      obtain ⟨p0, p1⟩ := HP.out j hjm
      obtain ⟨c0, c1⟩ := HC.out j hjm
      have j0 : (0 : Int) ≤ (j : Int) := by omega
      have j1 : (j : Int) < (m : Int) := by omega
      generalize hY0 : ws.getD k 0 = y at *
      generalize hZ0 : ps.getD j 0 = z at *
      generalize hV0 : cs.getD j 0 = v at *
      have hyz0 : 0 ≤ y * z := Int.mul_nonneg (by omega) (by omega)
      have hyz1 : y * z ≤ 1000 * 30 := Int.mul_le_mul hw1 p1 (by omega) (by omega)
      have mi : IntKind.i64.wrap (y * z) = y * z := by rw [IntKind.wrap_i64]; omega
      have HCL := hide fun (W : World) => make_pos (y * z) v W (by omega) (by omega) (by omega) (by omega)
      have hml : Hid ((Hs.farL ps cs ws os).getD k (0, 0) = (Fr.mkN (y * z) v, Fr.mkD (y * z) v)) := hide HLA.out
      generalize Fr.mkN (y * z) v = X at *
      generalize Fr.mkD (y * z) v = Y at *
      have HRD : Hid (∀ W, Below (w.alloc (.cells #[.int .i64 0, .int .i64 0] 32)).heap.size (w.alloc (.cells #[.int .i64 0, .int .i64 0] 32)) W → W.cell? ⟨ba, oa + k, none⟩ = some (.int .i64 y) ∧ W.cell? ⟨bp, op + j, none⟩ = some (.int .i64 z) ∧ W.cell? ⟨bb, ob + j, none⟩ = some (.int .i64 v)) := hide fun W hb' => by
        have b0 := below_new w (.cells #[.int .i64 0, .int .i64 0] 32)
        have hb := b0.trans (hb'.mono b0.size)
        obtain ⟨_, _, e1, q1⟩ := (HA.out.below hb).at (i := k) (by rw [HN.out]; exact hlt)
        cases e1
        obtain ⟨_, _, e2, q2⟩ := (HPr.out.below hb).at (i := j) (by rw [HR.out]; exact hjm)
        cases e2
        obtain ⟨_, _, e3, q3⟩ := (HB.out.below hb).at (i := j) (by rw [HM.out]; exact hjm)
        cases e3
        rw [hY0] at q1
        rw [hZ0] at q2
        rw [hV0] at q3
        exact ⟨q1, q2, q3⟩
      clear r2 r3 r4 HLA hyz0 hyz1 hxx hY0 hZ0 hV0
      go_upto_region 7 with fail
      refine wp_region_noPanic ?_
      refine wp_region_held_drew (S := fun w' => Below (w.alloc (.cells #[.int .i64 0, .int .i64 0] 32)).heap.size (w.alloc (.cells #[.int .i64 0, .int .i64 0] 32)) w') (by kernel_rfl) HBX.out.drew (fun hHeld => ?_)
      refine wpAnyH_take (i := 0) (oi := ⟨some 39, _, _, _, _, none⟩) (v := V) rfl (by kernel_rfl) (by kernel_rfl) (by kernel_rfl) (fun _ _ _ h => h) (Or.inl ⟨by rfl, fun w' hSw => by clear hSw; go_simp⟩) hHeld ?_
      simp only [Act.put, List.setIfInBounds_toArray, List.set_cons_zero, List.set_cons_succ]
      refine wpAnyH_take (i := 1) (oi := ⟨some 40, _, _, _, _, none⟩) (v := .slice (some ⟨ba, oa, none⟩) n c) rfl (by kernel_rfl) (by kernel_rfl) (by kernel_rfl) (fun _ _ _ h => h) (Or.inl ⟨by rfl, fun w' hSw => by clear hSw; go_simp⟩) hHeld ?_
      simp only [Act.put, List.setIfInBounds_toArray, List.set_cons_zero, List.set_cons_succ]
      refine wpAnyH_take (i := 2) (oi := ⟨some 41, _, _, _, _, none⟩) (v := .int .i64 (k : Int)) rfl (by kernel_rfl) (by kernel_rfl) (by kernel_rfl) (fun _ _ _ h => h) (Or.inl ⟨by rfl, fun w' hSw => by clear hSw; go_simp⟩) hHeld ?_
      simp only [Act.put, List.setIfInBounds_toArray, List.set_cons_zero, List.set_cons_succ]
      refine wpAnyH_take (i := 3) (oi := ⟨some 42, _, _, _, _, none⟩) (v := .pointer (some ⟨ba, oa + k, none⟩)) rfl (by kernel_rfl) (by kernel_rfl) (by kernel_rfl) (fun _ _ _ h => h) (Or.inl ⟨by rfl, fun w' hSw => by clear hSw; go_simp⟩) hHeld ?_
      simp only [Act.put, List.setIfInBounds_toArray, List.set_cons_zero, List.set_cons_succ]
      refine wpAnyH_take (i := 4) (oi := ⟨some 43, _, _, _, _, none⟩) (v := .int .i64 y) rfl (by kernel_rfl) (by kernel_rfl) (by kernel_rfl) (fun _ _ _ h => h) (Or.inl ⟨by rfl, fun w' hSw => by obtain ⟨q1, q2, q3⟩ := HRD.out _ hSw; clear hSw; go_simp⟩) hHeld ?_
      simp only [Act.put, List.setIfInBounds_toArray, List.set_cons_zero, List.set_cons_succ]
      refine wpAnyH_take (i := 5) (oi := ⟨some 44, _, _, _, _, none⟩) (v := .slice (some ⟨bp, op, none⟩) m f) rfl (by kernel_rfl) (by kernel_rfl) (by kernel_rfl) (fun _ _ _ h => h) (Or.inl ⟨by rfl, fun w' hSw => by clear hSw; go_simp⟩) hHeld ?_
      simp only [Act.put, List.setIfInBounds_toArray, List.set_cons_zero, List.set_cons_succ]
      refine wpAnyH_take (i := 6) (oi := ⟨some 45, _, _, _, _, none⟩) (v := .int .i64 (j : Int)) rfl (by kernel_rfl) (by kernel_rfl) (by kernel_rfl) (fun _ _ _ h => h) (Or.inl ⟨by rfl, fun w' hSw => by clear hSw; go_simp⟩) hHeld ?_
      simp only [Act.put, List.setIfInBounds_toArray, List.set_cons_zero, List.set_cons_succ]
      refine wpAnyH_take (i := 7) (oi := ⟨some 46, _, _, _, _, none⟩) (v := .pointer (some ⟨bp, op + j, none⟩)) rfl (by kernel_rfl) (by kernel_rfl) (by kernel_rfl) (fun _ _ _ h => h) (Or.inl ⟨by rfl, fun w' hSw => by clear hSw; go_simp⟩) hHeld ?_
      simp only [Act.put, List.setIfInBounds_toArray, List.set_cons_zero, List.set_cons_succ]
      refine wpAnyH_take (i := 8) (oi := ⟨some 47, _, _, _, _, none⟩) (v := .int .i64 z) rfl (by kernel_rfl) (by kernel_rfl) (by kernel_rfl) (fun _ _ _ h => h) (Or.inl ⟨by rfl, fun w' hSw => by obtain ⟨q1, q2, q3⟩ := HRD.out _ hSw; clear hSw; go_simp⟩) hHeld ?_
      simp only [Act.put, List.setIfInBounds_toArray, List.set_cons_zero, List.set_cons_succ]
      refine wpAnyH_take (i := 9) (oi := ⟨some 48, _, _, _, _, none⟩) (v := .int .i64 (y * z)) rfl (by kernel_rfl) (by kernel_rfl) (by kernel_rfl) (fun _ _ _ h => h) (Or.inl ⟨by rfl, fun w' hSw => by clear hSw; go_simp⟩) hHeld ?_
      simp only [Act.put, List.setIfInBounds_toArray, List.set_cons_zero, List.set_cons_succ]
      refine wpAnyH_take (i := 10) (oi := ⟨some 49, _, _, _, _, none⟩) (v := .slice (some ⟨bb, ob, none⟩) m d) rfl (by kernel_rfl) (by kernel_rfl) (by kernel_rfl) (fun _ _ _ h => h) (Or.inl ⟨by rfl, fun w' hSw => by clear hSw; go_simp⟩) hHeld ?_
      simp only [Act.put, List.setIfInBounds_toArray, List.set_cons_zero, List.set_cons_succ]
      refine wpAnyH_take (i := 11) (oi := ⟨some 50, _, _, _, _, none⟩) (v := .int .i64 (j : Int)) rfl (by kernel_rfl) (by kernel_rfl) (by kernel_rfl) (fun _ _ _ h => h) (Or.inl ⟨by rfl, fun w' hSw => by clear hSw; go_simp⟩) hHeld ?_
      simp only [Act.put, List.setIfInBounds_toArray, List.set_cons_zero, List.set_cons_succ]
      refine wpAnyH_take (i := 12) (oi := ⟨some 51, _, _, _, _, none⟩) (v := .pointer (some ⟨bb, ob + j, none⟩)) rfl (by kernel_rfl) (by kernel_rfl) (by kernel_rfl) (fun _ _ _ h => h) (Or.inl ⟨by rfl, fun w' hSw => by clear hSw; go_simp⟩) hHeld ?_
      simp only [Act.put, List.setIfInBounds_toArray, List.set_cons_zero, List.set_cons_succ]
      refine wpAnyH_take (i := 13) (oi := ⟨some 52, _, _, _, _, none⟩) (v := .int .i64 v) rfl (by kernel_rfl) (by kernel_rfl) (by kernel_rfl) (fun _ _ _ h => h) (Or.inl ⟨by rfl, fun w' hSw => by obtain ⟨q1, q2, q3⟩ := HRD.out _ hSw; clear hSw; go_simp⟩) hHeld ?_
      simp only [Act.put, List.setIfInBounds_toArray, List.set_cons_zero, List.set_cons_succ]
      refine wpAnyH_ready (rs := [14]) (by kernel_rfl) (by simp) ?_
      refine AllReadyH.cons (o := ⟨some 53, _, _, _, _, none⟩) rfl (fun K hK => ?_) AllReadyH.nil
      go_simp
      refine (HCL.out _).mono ?_
      rintro _ w5 ⟨rfl, hb5⟩
      have OA := own_below4 HOW.out (((Below.refl wr.heap.size wr).drew).trans hb5)
      have hz5 := (((Below.refl wr.heap.size wr).drew).trans hb5).size
      refine hK.out _ _ (hHeld.trans (hb5.mono hHeld.size)) (fun hHeld2 => ?_)
      clear hK K hb5 hHeld
      refine wpAnyH_ready (rs := [15]) (by kernel_rfl) (by simp) ?_
      refine AllReadyH.cons (o := ⟨some 54, _, _, _, _, none⟩) rfl (fun K hK => ?_) AllReadyH.nil
      go_simp
      refine hK.out _ _ (hHeld2.trans ((below_new _ _).mono hHeld2.size)) (fun hHeld3 => ?_)
      clear hK K
      refine wpAnyH_ready (rs := [16]) (by kernel_rfl) (by simp) ?_
      refine AllReadyH.cons (o := ⟨some 55, _, _, _, _, none⟩) rfl (fun K hK => ?_) AllReadyH.nil
      refine step_append_lies _ (by rfl) _ _ _ (by rfl) (w.heap.size + 1) 32 i0 _ 2 16 Tryz.underlying79 hi hz0 hz1 hz2 rfl (by omega) V k (fcells ((Hs.farL ps cs ws os).take k)) (by rfl) (OA.alloc _) ⟨w5.heap.size, 0, none⟩ 1 1 [.int .i64 X, .int .i64 Y] (by rfl) (by rfl) (new_frac w5 (X, Y) _ rfl) (frac_cells (X, Y)) (by omega) (by unfold maxLen; omega) (by omega) (by simp; omega) (w5.heap.size + 1) (by simp) ?_
      intro gg cap1 w6 hown' hgrow hat hlt'
      have hS6 := hHeld2.trans (own_grow (B := (w.alloc (.cells #[.int .i64 0, .int .i64 0] 32)).heap.size) OA hgrow (by simp) (by simp; omega))
      rw [take_far17 _ (by rw [HL.out]; exact hlt) hml.out] at hown'
      have HOW6 := hide hown'
      refine hK.out _ _ hS6 (fun hHeld4 => ?_)
      clear hK K hHeld2 hHeld3 OA hgrow hat hlt' hown'
      refine wpAnyH_take (i := 17) (oi := ⟨some 10, _, _, _, _, none⟩) (v := .slice (some ⟨gg, 0, none⟩) (k + 1 : Nat) cap1) rfl (by kernel_rfl) (by kernel_rfl) (by kernel_rfl) (fun _ _ _ h => h) (Or.inl ⟨by rfl, fun w' hSw => by clear hSw; go_simp⟩) hHeld4 ?_
      simp only [Act.put, List.setIfInBounds_toArray, List.set_cons_zero, List.set_cons_succ]
      refine wpAnyH_done (by kernel_rfl) ?_ _
      refine NoPanic.normal ?_
      have HBX6 := hide hS6
      clear hHeld4 hS6
      go_wp2_with fail
      go_roundw
      case rel => exact ⟨k + 1, _, rfl, by go_num, by omega, HOW6, HBX6⟩
      case measure => simp only [intOf]; omega
    · have hke : k = n := by omega
      subst hke
      have ho := HOW.out
      rw [show (Hs.farL ps cs ws os).take k = Hs.farL ps cs ws os by rw [← HL.out, List.take_length]] at ho
      obtain ⟨g, cap, rfl, _, g1, row1⟩ := (frow_owns HL.out ho).resolve_left (fun h => by have := h.2; omega)
      have HROW := hide row1
      have hsum := hide (ssumF17 (cap := cap) HROW HL g1)
      generalize hp1 : Fr.sumN (Hs.farL ps cs ws os) = q1 at hsum
      generalize hp2 : Fr.sumD (Hs.farL ps cs ws os) = q2 at hsum
      generalize hp3 : Fr.sumB (Hs.farL ps cs ws os) = qb at hsum
      have HPQ := hide (And.intro hp1 (And.intro hp2 hp3))
      rw [fb_eq] at hsum
      clear ho row1 HOW hp1 hp2 hp3
      go_wp2_with fail
      refine hsum.out.mono ?_
      rintro _ w5 ⟨rfl, hb5⟩
      have hb6 := HBX.out.trans (hb5.mono HBX.out.size)
      obtain ⟨c0, c1, g0, g1'⟩ := res_new' hb6
      clear hb5
      go_wp2_with fail
      exact bodyPost_ret (v := fb (q1, q2) qb) (by simp [results, Tryz.results24, go_sem, c0, c1, fb]) rfl ⟨by rw [HPQ.out.1, HPQ.out.2.1, HPQ.out.2.2], sres17 hb6 _ _⟩
theorem str_any {p b a o : Option Addr} {n m r q c d e f : Nat} {ps cs ws os : List Int} {w : World} (HR : Hid (ps.length = r)) (HM : Hid (cs.length = m)) (HN : Hid (ws.length = n)) (hn : n ≤ 1048576) (HQ : Hid (os.length = q)) (hq : q ≤ 1048576) (HP : Hid (ARow w p ps)) (HB : Hid (ARow w b cs)) (HA : Hid (ARow w a ws)) (HO : Hid (ARow w o os)) :
    Calls Tryz.prog 24 #[.slice p r f, .slice b m d, .slice a n c, .slice o q e] w fun e w' => e = .returned (fb (Hs.trF ps cs ws os) (Hs.trG ps cs ws os)) ∧ Below w.heap.size w w' := by
  unfold Hs.trF Hs.trG
  cases h : Hs.trB ps cs ws os
  · exact str_no HR HM HN hn HQ hq HP HB HA HO (hide h)
  · obtain ⟨h1, h2, _⟩ := Hs.tr_yes HM.out HN.out h
    obtain rfl : r = m := HR.out.symm.trans h1
    obtain rfl : q = n := HQ.out.symm.trans h2
    exact str_go HR HM HN HQ HP HB HA HO (hide h)
end Go.Proofs.YtlbagigghpiifabGreat
namespace Go.Proofs.YtlbagigghpiifabGreat
open Go.RowKit

/-- The byte at a place, as a number. -/
def byteI (s : ByteArray) (i : Nat) : Int := ((s.data[i]?.getD 0).toNat : Int)
def letB (b : Int) : Bool := decide (97 ≤ b) && decide (b ≤ 122)
/-- One to eight letters a to z. -/
def nameB (s : ByteArray) : Bool := Pf.inB (s.size : Int) 1 8 && (List.range s.size).all fun i => letB (byteI s i)
theorem nameB_at {s : ByteArray} (h : nameB s = true) {i : Nat} (hi : i < s.size) : letB (byteI s i) = true := by
  simp only [nameB, Bool.and_eq_true] at h
  exact List.all_eq_true.1 h.2 i (by simpa using hi)
theorem nameB_of {s : ByteArray} (h1 : Pf.inB (s.size : Int) 1 8 = true) (h : ∀ i, i < s.size → letB (byteI s i) = true) : nameB s = true := by
  simp only [nameB, Bool.and_eq_true]
  exact ⟨h1, List.all_eq_true.2 fun i hi => h i (by simpa using hi)⟩
theorem nameB_len {s : ByteArray} (h : Pf.inB (s.size : Int) 1 8 = false) : nameB s = false := by simp [nameB, h]
theorem nameB_not {s : ByteArray} {i : Nat} (hi : i < s.size) (h : letB (byteI s i) = false) : nameB s = false := by
  cases e : nameB s
  · rfl
  · rw [nameB_at e hi] at h; cases h
theorem byte_get {s : ByteArray} {i : Nat} (hi : i < s.size) : ((s[i]'hi).toNat : Int) = byteI s i := by
  unfold byteI
  rw [Array.getElem?_eq_getElem (show i < s.data.size from hi)]
  rfl

theorem ix_run {s : ByteArray} {k : Nat} (hk : k < s.size) (W : World) : (Instr.index 9 (.string s) (.int .i64 (k : Int))).run Tryz.prog W = .ok (.int .u8 (byteI s k)) W := by
  rw [run_index_string W 9 s .i64 (k : Int) Tryz.underlying9, dif_pos ⟨by omega, by omega⟩]
  congr 2
  exact byte_get hk

set_option maxHeartbeats 1000000 in
theorem isName_any (s : ByteArray) (w : World) (hs : s.size ≤ 4000000000000) :
    Calls Tryz.prog 97 #[.string s] w fun e w' => e = .returned (.bool (nameB s)) ∧ w' = w := by
  cases hl : Pf.inB (s.size : Int) 1 8
  · have HN := hide (nameB_len hl)
    go_enter Tryz.func97, Tryz.ntmps97
    go_wp2_with ((go_at_call 81; refine (between_eq hl).mono ?_; rintro e w1 ⟨rfl, rfl⟩))
    go_ret
    exact ⟨ret_bool HN.out.symm, rfl⟩
  · have HL := hide hl
    go_enter Tryz.func97, Tryz.ntmps97
    go_wp2_with ((go_at_call 81; refine (between_eq hl).mono ?_; rintro e w1 ⟨rfl, hw1⟩; subst hw1))
    go_loop [2, 3, 10] (fun s2 _ t => ∃ k : Nat, s2 = .bool false ∧ t = .int .i64 k ∧ k ≤ s.size ∧ Hid (∀ i, i < k → letB (byteI s i) = true)) (fun _ _ t => s.size - (intOf t).toNat)
    case atStart => exact ⟨0, rfl, rfl, Nat.zero_le _, hide fun i hi => absurd hi (Nat.not_lt_zero _)⟩
    case round =>
      obtain ⟨k, rfl, rfl, hk, HA⟩ := hrel
      by_cases hlt : k < s.size
      · have i0 : (0 : Int) ≤ (k : Int) := by omega
        have i1 : (k : Int) < (s.size : Int) := by omega
        have hix := ix_run hlt
        generalize hx : byteI s k = x at hix
        cases hb : letB x
        · have HN := hide (nameB_not hlt (by rw [hx]; exact hb))
          clear hx
          by_cases h97 : x < 97
          · go_wp2_with fail
            go_ret
            exact ⟨ret_bool HN.out.symm, rfl⟩
          · have h122 : 122 < x := by simp [letB] at hb; omega
            go_wp2_with fail
            go_ret
            exact ⟨ret_bool HN.out.symm, rfl⟩
        · have HY : Hid (∀ i, i < k + 1 → letB (byteI s i) = true) := hide fun i hi => by
            by_cases e : i = k
            · subst e; rw [hx]; exact hb
            · exact HA.out i (by omega)
          have hb' : 97 ≤ x ∧ x ≤ 122 := by simpa [letB] using hb
          obtain ⟨g1, g2⟩ := hb'
          have h97 : ¬ x < 97 := by omega
          have h122 : ¬ 122 < x := by omega
          clear hx hb
          go_wp2_with fail
          go_round
          case rel => exact ⟨k + 1, rfl, by go_num, by omega, HY⟩
          case measure => simp only [intOf]; omega
      · have hke : k = s.size := by omega
        subst hke
        have HY := hide (nameB_of HL.out HA.out)
        go_wp2_with fail
        go_ret
        exact ⟨ret_bool HY.out.symm, rfl⟩

set_option maxHeartbeats 1000000 in
theorem l3Name_any (s : ByteArray) (w : World) (hs : s.size ≤ 4000000000000) :
    Calls Tryz.prog 110 #[.string s] w fun e w' => e = .returned (.bool (nameB s)) ∧ w' = w := by
  go_enter Tryz.func110, Tryz.ntmps110
  go_wp2_with fail
  go_loop [2, 3] (fun s2 t => ∃ k : Nat, s2 = .bool false ∧ t = .int .i64 k ∧ k ≤ s.size ∧ Hid (∀ i, i < k → letB (byteI s i) = true)) (fun _ t => s.size - (intOf t).toNat)
  case atStart => exact ⟨0, rfl, rfl, Nat.zero_le _, hide fun i hi => absurd hi (Nat.not_lt_zero _)⟩
  case round =>
    obtain ⟨k, rfl, rfl, hk, HA⟩ := hrel
    by_cases hlt : k < s.size
    · have i0 : (0 : Int) ≤ (k : Int) := by omega
      have i1 : (k : Int) < (s.size : Int) := by omega
      have hix := ix_run hlt
      generalize hx : byteI s k = x at hix
      cases hb : letB x
      · have HN := hide (nameB_not hlt (by rw [hx]; exact hb))
        clear hx
        by_cases h97 : x < 97
        · go_wp2_with fail
          go_ret
          exact ⟨ret_bool HN.out.symm, rfl⟩
        · have h122 : 122 < x := by simp [letB] at hb; omega
          go_wp2_with fail
          go_ret
          exact ⟨ret_bool HN.out.symm, rfl⟩
      · have HY : Hid (∀ i, i < k + 1 → letB (byteI s i) = true) := hide fun i hi => by
          by_cases e : i = k
          · subst e; rw [hx]; exact hb
          · exact HA.out i (by omega)
        have hb' : 97 ≤ x ∧ x ≤ 122 := by simpa [letB] using hb
        obtain ⟨g1, g2⟩ := hb'
        have h97 : ¬ x < 97 := by omega
        have h122 : ¬ 122 < x := by omega
        clear hx hb
        go_wp2_with fail
        go_round
        case rel => exact ⟨k + 1, rfl, by go_num, by omega, HY⟩
        case measure => simp only [intOf]; omega
    · have hke : k = s.size := by omega
      subst hke
      cases hl : Pf.inB (s.size : Int) 1 8
      · have HN := hide (nameB_len hl)
        go_wp2_with ((go_at_call 68; refine (in_eq hl).mono ?_; rintro e w1 ⟨rfl, rfl⟩))
        go_ret
        exact ⟨ret_bool HN.out.symm, rfl⟩
      · have HY := hide (nameB_of hl HA.out)
        go_wp2_with ((go_at_call 68; refine (in_eq hl).mono ?_; rintro e w1 ⟨rfl, rfl⟩))
        go_ret
        exact ⟨ret_bool HY.out.symm, rfl⟩
end Go.Proofs.YtlbagigghpiifabGreat
namespace Go.Proofs.YtlbagigghpiifabGreat
open Go.RowKit

abbrev Gd := ByteArray × Int
def gd0 : Gd := (⟨#[]⟩, 0)
/-- A slice of goods, wherever it lies. -/
def GRow (w : World) (a : Option Addr) (gs : List Gd) : Prop := gs = [] ∨ ∃ b off, a = some ⟨b, off, none⟩ ∧ b < w.heap.size ∧ ∀ i, i < gs.length → w.cell? ⟨b, off + i * 2, none⟩ = some (.string (gs.getD i gd0).1) ∧ w.cell? ⟨b, off + i * 2 + 1, none⟩ = some (.int .i64 (gs.getD i gd0).2)
theorem GRow.keep {w w' : World} {a : Option Addr} {gs : List Gd} (h : GRow w a gs) (hs : w.heap.size ≤ w'.heap.size) (hB : ∀ b, b < w.heap.size → w'.heap[b]? = w.heap[b]?) : GRow w' a gs := by
  rcases h with h | ⟨b, off, ha, hb, hc⟩
  · exact Or.inl h
  · exact Or.inr ⟨b, off, ha, Nat.lt_of_lt_of_le hb hs, fun i hi => ⟨(World.cell?_of_block (w := w) (a := ⟨b, off + i * 2, none⟩) (hB b hb)).trans (hc i hi).1, (World.cell?_of_block (w := w) (a := ⟨b, off + i * 2 + 1, none⟩) (hB b hb)).trans (hc i hi).2⟩⟩
theorem GRow.below {w w' : World} {a : Option Addr} {gs : List Gd} (h : GRow w a gs) (hB : Below w.heap.size w w') : GRow w' a gs := h.keep hB.size hB.block
theorem GRow.at {w : World} {a : Option Addr} {gs : List Gd} (h : GRow w a gs) {i : Nat} (hi : i < gs.length) : ∃ b off, a = some ⟨b, off, none⟩ ∧ b < w.heap.size ∧ w.cell? ⟨b, off + i * 2, none⟩ = some (.string (gs.getD i gd0).1) ∧ w.cell? ⟨b, off + i * 2 + 1, none⟩ = some (.int .i64 (gs.getD i gd0).2) := by
  rcases h with h | ⟨b, off, ha, hb, hc⟩
  · rw [h] at hi; simp at hi
  · exact ⟨b, off, ha, hb, hc i hi⟩
theorem GRow.take {w : World} {a : Option Addr} {gs : List Gd} (h : GRow w a gs) (k : Nat) : GRow w a (gs.take k) := by
  rcases h with h | ⟨b, off, ha, hb, hc⟩
  · left; rw [h]; simp
  · exact Or.inr ⟨b, off, ha, hb, fun i hi => by
      simp only [List.length_take] at hi
      have e : (gs.take k).getD i gd0 = gs.getD i gd0 := by simp [show i < k by omega]
      rw [e]; exact hc i (by omega)⟩
/-- Whether one of them has the name. -/
def hasB (gs : List Gd) (s : ByteArray) : Bool := gs.any fun g => g.1.toList == s.toList
theorem hasB_of {gs : List Gd} {s : ByteArray} {i : Nat} (hi : i < gs.length) (h : ((gs.getD i gd0).1.toList == s.toList) = true) : hasB gs s = true := by
  refine List.any_eq_true.2 ⟨gs.getD i gd0, ?_, h⟩
  rw [Pf.getD_lt _ _ hi]; exact List.getElem_mem hi
theorem hasB_no {gs : List Gd} {s : ByteArray} (h : ∀ i, i < gs.length → ((gs.getD i gd0).1.toList == s.toList) = false) : hasB gs s = false := by
  cases e : hasB gs s
  · rfl
  · obtain ⟨g, hg, hg'⟩ := List.any_eq_true.1 e
    obtain ⟨i, hi, rfl⟩ := List.getElem_of_mem hg
    have := h i hi
    rw [Pf.getD_lt _ _ hi, hg'] at this; cases this

/-- The number of the first good of a name, -1 where there is none. -/
def fnd (gs : List Gd) (s : ByteArray) : Nat := gs.findIdx fun g => g.1.toList == s.toList
def fndI (gs : List Gd) (s : ByteArray) : Int := if fnd gs s < gs.length then (fnd gs s : Int) else -1
theorem fndI_at {gs : List Gd} {s : ByteArray} {k : Nat} (hk : k < gs.length) (h : ((gs.getD k gd0).1.toList == s.toList) = true) (ha : ∀ i, i < k → ((gs.getD i gd0).1.toList == s.toList) = false) : fndI gs s = k := by
  have e : fnd gs s = k := by
    unfold fnd
    refine (List.findIdx_eq hk).2 ⟨?_, fun j hj => ?_⟩
    · simpa [hk] using h
    · have hj' : j < gs.length := by omega
      simpa [hj'] using ha j hj
  rw [fndI, e, if_pos hk]
theorem fndI_no {gs : List Gd} {s : ByteArray} (h : ∀ i, i < gs.length → ((gs.getD i gd0).1.toList == s.toList) = false) : fndI gs s = -1 := by
  have e : fnd gs s = gs.length := by
    unfold fnd
    refine List.findIdx_eq_length.2 fun x hx => ?_
    obtain ⟨i, hi, rfl⟩ := List.getElem_of_mem hx
    simpa [hi] using h i hi
  rw [fndI, e, if_neg (Nat.lt_irrefl _)]
theorem fndI_has (gs : List Gd) (s : ByteArray) : decide (0 ≤ fndI gs s) = hasB gs s := by
  unfold fndI fnd hasB
  by_cases h : (gs.findIdx fun g => g.1.toList == s.toList) < gs.length
  · rw [if_pos h]
    have h2 : (gs.any fun g => g.1.toList == s.toList) = true := List.any_eq_true.2 ⟨_, List.getElem_mem h, List.findIdx_getElem (w := h)⟩
    rw [h2]; exact decide_eq_true (Int.natCast_nonneg _)
  · rw [if_neg h]
    have h2 : (gs.any fun g => g.1.toList == s.toList) = false := by
      cases e : (gs.any fun g => g.1.toList == s.toList)
      · rfl
      · obtain ⟨x, hx, hp⟩ := List.any_eq_true.1 e
        exact absurd (List.findIdx_lt_length_of_exists (p := fun g : Gd => g.1.toList == s.toList) ⟨x, hx, hp⟩) h
    rw [h2]; rfl
theorem fndI_lt (gs : List Gd) (s : ByteArray) : -1 ≤ fndI gs s ∧ fndI gs s < gs.length ∨ fndI gs s = -1 := by
  unfold fndI
  by_cases h : fnd gs s < gs.length
  · rw [if_pos h]; left; omega
  · rw [if_neg h]; right; rfl

set_option maxHeartbeats 1000000 in
theorem same_any (s t : ByteArray) (z : Int) (B : Nat) (w : World) (hB : w.cell? ⟨B, 0, none⟩ = some (.string t)) (hl : B < w.heap.size) :
    Calls Tryz.prog 125 #[.agg #[.string s, .int .i64 z], .pointer (some ⟨B, 0, none⟩)] w fun e w' => e = .returned (.bool (s.toList == t.toList)) ∧ Below w.heap.size w w' := by
  have hc : ∀ o : Obj, (w.alloc o).cell? ⟨B, 0, none⟩ = some (.string t) := fun o => ((((Below.refl _ _).alloc (Nat.le_refl _) o)).cell (p := ⟨B, 0, none⟩) hl).trans hB
  go_enter Tryz.func125, Tryz.ntmps125
  go_wp2_with fail
  go_ret
  exact ⟨rfl, (Below.refl _ _).alloc (Nat.le_refl _) _⟩

set_option maxHeartbeats 2000000 in
theorem index_any {a : Option Addr} {n c B : Nat} {gs : List Gd} {t : ByteArray} {w : World} (hn : gs.length = n) (hn' : n ≤ 1048576) (h : GRow w a gs) (hB : w.cell? ⟨B, 0, none⟩ = some (.string t)) (hl : B < w.heap.size) :
    Calls Tryz.prog 124 #[.slice a n c, .func (.func 125) #[] #[.pointer (some ⟨B, 0, none⟩)]] w fun e w' => e = .returned (.int .i64 (fndI gs t)) ∧ Below w.heap.size w w' := by
  have H := hide h
  have HN := hide hn
  have HB := hide hB
  have eg : ∀ args w, (callFunc 125 args).run Tryz.prog w = .ok (.enter 125 args) w := enters_of Tryz.func125 (by kernel_rfl) rfl
  clear h hn hB
  go_enter Tryz.func124, Tryz.ntmps124
  go_wp2_with fail
  go_loopw [4, 5, 8] (fun _ _ s wr => ∃ k : Nat, s = .int .i64 k ∧ k ≤ n ∧ Hid (∀ i, i < k → ((gs.getD i gd0).1.toList == t.toList) = false) ∧ Hid (Below w.heap.size w wr)) (fun _ _ s _ => n - (intOf s).toNat)
  case atStart => exact ⟨0, rfl, Nat.zero_le _, hide fun i hi => absurd hi (Nat.not_lt_zero _), hide (Below.refl _ _)⟩
  case round =>
    obtain ⟨k, rfl, hk, HA, HBl⟩ := hrel
    by_cases hlt : k < n
    · obtain ⟨b, off, rfl, hb, r1, r2⟩ := (H.out.below HBl.out).at (i := k) (by rw [HN.out]; exact hlt)
      have i0 : (0 : Int) ≤ (k : Int) := by omega
      have i1 : (k : Int) < (n : Int) := by omega
      have hcB : wr.cell? ⟨B, 0, none⟩ = some (.string t) := (HBl.out.cell (p := ⟨B, 0, none⟩) hl).trans HB.out
      have hlB : B < wr.heap.size := Nat.lt_of_lt_of_le hl HBl.out.size
      generalize hx : (gs.getD k gd0).1 = x at r1
      generalize (gs.getD k gd0).2 = z at r2
      have hcall := hide (same_any x t z B wr hcB hlB)
      cases he : (x.toList == t.toList)
      · have HY : Hid (∀ i, i < k + 1 → ((gs.getD i gd0).1.toList == t.toList) = false) := hide fun i hi => by
          by_cases e : i = k
          · subst e; rw [hx]; exact he
          · exact HA.out i (by omega)
        rw [he] at hcall
        clear hx hcB he
        go_wp2_with (go_at_fn 125; refine hcall.out.mono ?_; rintro e w1 ⟨rfl, hb1⟩)
        go_roundw
        case rel => exact ⟨k + 1, by go_num, by omega, HY, hide (HBl.out.trans (hb1.mono HBl.out.size))⟩
        case measure => simp only [intOf]; omega
      · have HY := hide (fndI_at (gs := gs) (s := t) (k := k) (by rw [HN.out]; exact hlt) (by rw [hx]; exact he) HA.out)
        rw [he] at hcall
        clear hx hcB he
        go_wp2_with (go_at_fn 125; refine hcall.out.mono ?_; rintro e w1 ⟨rfl, hb1⟩)
        go_ret
        exact ⟨by rw [HY.out]; rfl, HBl.out.trans (hb1.mono HBl.out.size)⟩
    · have hke : k = n := by omega
      subst hke
      have HY := hide (fndI_no (gs := gs) (s := t) (fun i hi => HA.out i (by rw [← HN.out]; exact hi)))
      go_wp2_with fail
      go_ret
      exact ⟨by rw [HY.out]; rfl, HBl.out⟩
set_option maxHeartbeats 1000000 in
theorem number_any {a : Option Addr} {n c : Nat} {gs : List Gd} {t : ByteArray} {w : World} (hn : gs.length = n) (hn' : n ≤ 1048576) (h : GRow w a gs) :
    Calls Tryz.prog 112 #[.slice a n c, .string t] w fun e w' => e = .returned (.int .i64 (fndI gs t)) ∧ Below w.heap.size w w' := by
  have bn := (Below.refl w.heap.size w).alloc (Nat.le_refl _) (.cells #[.string t] 9)
  have H := hide (index_any (c := c) (B := w.heap.size) (t := t) hn hn' (h.below bn) (by simp [go_sem]) (by simp))
  clear h hn
  go_enter Tryz.func112, Tryz.ntmps112
  go_wp2_with (go_at_call 124; refine H.out.mono ?_; rintro e w1 ⟨rfl, hb1⟩)
  go_ret
  exact ⟨rfl, bn.trans (hb1.mono (by simp))⟩
set_option maxHeartbeats 1000000 in
theorem hasName_any {a : Option Addr} {n c : Nat} {gs : List Gd} {t : ByteArray} {w : World} (hn : gs.length = n) (hn' : n ≤ 1048576) (h : GRow w a gs) :
    Calls Tryz.prog 98 #[.slice a n c, .string t] w fun e w' => e = .returned (.bool (hasB gs t)) ∧ Below w.heap.size w w' := by
  have H := hide (number_any (c := c) (t := t) hn hn' h)
  have HH := hide (fndI_has gs t)
  clear h hn
  generalize fndI gs t = F at H HH
  go_enter Tryz.func98, Tryz.ntmps98
  go_wp2_with (go_at_call 112; refine H.out.mono ?_; rintro e w1 ⟨rfl, hb1⟩)
  go_ret
  exact ⟨by rw [← HH.out]; rfl, hb1⟩
end Go.Proofs.YtlbagigghpiifabGreat
namespace Go.Proofs.YtlbagigghpiifabGreat
open Go.RowKit

def okG (gs : List Gd) (i : Nat) : Bool := nameB (gs.getD i gd0).1 && (Pf.inB (gs.getD i gd0).2 1 100 && !hasB (gs.take i) (gs.getD i gd0).1)
def goodsB (gs : List Gd) : Bool := decide (gs.length ≤ 12) && (List.range gs.length).all fun i => okG gs i
theorem goodsB_len {gs : List Gd} (h : goodsB gs = true) : gs.length ≤ 12 := by
  simp only [goodsB, Bool.and_eq_true, decide_eq_true_eq] at h; exact h.1
theorem goodsB_at {gs : List Gd} (h : goodsB gs = true) {i : Nat} (hi : i < gs.length) : okG gs i = true := by
  simp only [goodsB, Bool.and_eq_true] at h
  exact List.all_eq_true.1 h.2 i (by simpa using hi)
theorem goodsB_of {gs : List Gd} (h1 : gs.length ≤ 12) (h : ∀ i, i < gs.length → okG gs i = true) : goodsB gs = true := by
  simp only [goodsB, Bool.and_eq_true, decide_eq_true_eq]
  exact ⟨h1, List.all_eq_true.2 fun i hi => h i (by simpa using hi)⟩
theorem goodsB_many {gs : List Gd} (h : 12 < gs.length) : goodsB gs = false := by simp [goodsB, show ¬ gs.length ≤ 12 by omega]
theorem goodsB_not {gs : List Gd} {i : Nat} (hi : i < gs.length) (h : okG gs i = false) : goodsB gs = false := by
  cases e : goodsB gs
  · rfl
  · rw [goodsB_at e hi] at h; cases h
theorem okG_n1 {gs : List Gd} {i : Nat} (h : nameB (gs.getD i gd0).1 = false) : okG gs i = false := by unfold okG; rw [h]; rfl
theorem okG_n2 {gs : List Gd} {i : Nat} (h : Pf.inB (gs.getD i gd0).2 1 100 = false) : okG gs i = false := by unfold okG; rw [h]; simp
theorem okG_n3 {gs : List Gd} {i : Nat} (h : hasB (gs.take i) (gs.getD i gd0).1 = true) : okG gs i = false := by unfold okG; rw [h]; simp
theorem okG_y {gs : List Gd} {i : Nat} (h1 : nameB (gs.getD i gd0).1 = true) (h2 : Pf.inB (gs.getD i gd0).2 1 100 = true) (h3 : hasB (gs.take i) (gs.getD i gd0).1 = false) : okG gs i = true := by unfold okG; rw [h1, h2, h3]; rfl
/-- No name is too long to be gone through. -/
def Short (gs : List Gd) : Prop := ∀ i, (gs.getD i gd0).1.size ≤ 1048576

/-- What stays while a good is looked at: its two fields. -/
theorem kG_call {w w1 w2 : World} {V : Nat} {v0 v1 : Value} (s : w1.cell? ⟨V, 0, none⟩ = some v0 ∧ w1.cell? ⟨V, 1, none⟩ = some v1 ∧ Below w.heap.size w w1 ∧ w.heap.size ≤ V ∧ V < w1.heap.size) (h : Below w1.heap.size w1 w2) :
    w2.cell? ⟨V, 0, none⟩ = some v0 ∧ w2.cell? ⟨V, 1, none⟩ = some v1 ∧ Below w.heap.size w w2 ∧ w.heap.size ≤ V ∧ V < w2.heap.size := by
  obtain ⟨s0, s1, s2, s3, s4⟩ := s
  obtain ⟨hc, _⟩ := bcell h
  exact ⟨(hc _ _ s4).trans s0, (hc _ _ s4).trans s1, s2.trans (h.mono (by omega)), s3, Nat.lt_of_lt_of_le s4 h.size⟩
theorem kG_same {w w1 w2 : World} {V : Nat} {v0 v1 : Value} (s : w1.cell? ⟨V, 0, none⟩ = some v0 ∧ w1.cell? ⟨V, 1, none⟩ = some v1 ∧ Below w.heap.size w w1 ∧ w.heap.size ≤ V ∧ V < w1.heap.size) (h : w2 = w1) :
    w2.cell? ⟨V, 0, none⟩ = some v0 ∧ w2.cell? ⟨V, 1, none⟩ = some v1 ∧ Below w.heap.size w w2 ∧ w.heap.size ≤ V ∧ V < w2.heap.size := h ▸ s

theorem isName_eq {s : ByteArray} {w : World} {b : Bool} (hs : s.size ≤ 1048576) (h : Hid (nameB s = b)) :
    Calls Tryz.prog 97 #[.string s] w fun e w' => e = .returned (.bool b) ∧ w' = w := h.out ▸ isName_any s w (by omega)
theorem hasName_eq {a : Option Addr} {k c : Nat} {gs : List Gd} {t : ByteArray} {w w1 : World} {b : Bool} (H : Hid (GRow w a gs)) (hk : k ≤ gs.length) (hk' : k ≤ 12) (hb : Hid (hasB (gs.take k) t = b)) (hB : Below w.heap.size w w1) :
    Calls Tryz.prog 98 #[.slice a k c, .string t] w1 fun e w' => e = .returned (.bool b) ∧ Below w1.heap.size w1 w' :=
  hb.out ▸ hasName_any (by simp; omega) (by omega) ((H.out.below hB).take k)
set_option maxHeartbeats 1000000 in
theorem gg_many {a : Option Addr} {n c : Nat} {w : World} (h : 12 < n) :
    Calls Tryz.prog 73 #[.slice a n c] w fun e w' => e = .returned (.bool false) ∧ Below w.heap.size w w' := by
  have h1 : (12 : Int) < n := by omega
  go_enter Tryz.func73, Tryz.ntmps73
  go_wp2_with fail
  go_ret
  exact ⟨rfl, Below.refl _ _⟩
set_option maxHeartbeats 8000000 in
set_option maxRecDepth 100000 in
theorem gg_few {a : Option Addr} {n c : Nat} {gs : List Gd} {w : World} (hn : gs.length = n) (hn' : n ≤ 12) (hc : n ≤ c) (hs : Short gs) (h : GRow w a gs) :
    Calls Tryz.prog 73 #[.slice a n c] w fun e w' => e = .returned (.bool (goodsB gs)) ∧ Below w.heap.size w w' := by
  have h1 : ¬ (12 : Int) < n := by omega
  have H := hide h
  have HN := hide hn
  have HSh := hide hs
  clear h hn hs
  go_enter Tryz.func73, Tryz.ntmps73
  go_wp2_with fail
  go_loopw [2, 3, 4, 10] (fun s2 _ _ s wr => ∃ k : Nat, s2 = .bool false ∧ s = .int .i64 k ∧ k ≤ n ∧ Hid (∀ i, i < k → okG gs i = true) ∧ Hid (Below w.heap.size w wr)) (fun _ _ _ s _ => n - (intOf s).toNat)
  case atStart => exact ⟨0, rfl, rfl, Nat.zero_le _, hide fun i hi => absurd hi (Nat.not_lt_zero _), hide (Below.refl _ _)⟩
  case round =>
    obtain ⟨k, rfl, rfl, hk, HA, HBl⟩ := hrel
    by_cases hlt : k < n
    · obtain ⟨b, off, rfl, hb, r1, r2⟩ := (H.out.below HBl.out).at (i := k) (by rw [HN.out]; exact hlt)
      have i0 : (0 : Int) ≤ (k : Int) := by omega
      have i1 : (k : Int) < (n : Int) := by omega
      have i2 : (k : Int) ≤ (n : Int) := by omega
      have i3 : (k : Int) ≤ (c : Int) := by omega
      have hsz := HSh.out k
      have hklen : k < gs.length := by rw [HN.out]; exact hlt
      have HOK : Hid (okG gs k = true → ∀ i, i < k + 1 → okG gs i = true) := hide fun he i hi => by
        by_cases e : i = k
        · subst e; exact he
        · exact HA.out i (by omega)
      have HN1 := hide (fun (h : okG gs k = false) => goodsB_not hklen h)
      have O1 := hide (@okG_n1 gs k)
      have O2 := hide (@okG_n2 gs k)
      have O3 := hide (@okG_n3 gs k)
      have O4 := hide (@okG_y gs k)
      generalize (gs.getD k gd0).1 = x at *
      generalize (gs.getD k gd0).2 = z at *
      have hBz := HBl.out.size
      have bn := (Below.refl wr.heap.size wr).alloc (Nat.le_refl _) (.cells #[.string x, .int .i64 z] 82)
      have HBn := hide (HBl.out.trans (bn.mono hBz))
      clear bn hklen
      cases hnm : nameB x
      · have HF := hide (HN1.out (O1.out hnm))
        have HNM := hide hnm
        clear hnm
        go_wp2_with fail
        go_quiet ((go_at_call 97; exact Calls.quiet_of_same (isName_eq hsz HNM)))
        go_wp2_with fail
        go_ret
        exact ⟨ret_bool HF.out.symm, below_drewN HBn.out _⟩
      · have HNM := hide hnm
        cases hin : Pf.inB z 1 100
        · have HF := hide (HN1.out (O2.out hin))
          clear hnm
          go_wp2_with fail
          go_quiet (first
            | (go_at_call 97; exact Calls.quiet_of_same (isName_eq hsz HNM))
            | (go_at_call 81; exact Calls.quiet_of_same (between_eq hin)))
          go_wp2_with fail
          go_ret
          exact ⟨ret_bool HF.out.symm, below_drewN HBn.out _⟩
        · cases hhs : hasB (gs.take k) x
          · have HF := hide (HOK.out (O4.out hnm hin hhs))
            have HHS := hide hhs
            clear hnm hhs
            go_wp2_with fail
            go_region_held3 (fun w' => w'.cell? ⟨wr.heap.size, 0, none⟩ = some (.string x) ∧ w'.cell? ⟨wr.heap.size, 1, none⟩ = some (.int .i64 z) ∧ Below w.heap.size w w' ∧ w.heap.size ≤ wr.heap.size ∧ wr.heap.size < w'.heap.size)
              (first | exact ⟨by simp [go_sem], by simp [go_sem], HBn.out.drew, hBz, by simp⟩ | assumption | exact kG_call ‹_› (by assumption))
              (first
              | (go_at_call 97; refine (isName_eq hsz HNM).mono ?_; rintro e w1 ⟨rfl, rfl⟩)
              | (go_at_call 81; refine (between_eq hin).mono ?_; rintro e w1 ⟨rfl, rfl⟩)
              | (go_at_call 98; refine (hasName_eq H (by rw [HN.out]; omega) (by omega) HHS (‹_ ∧ _ ∧ _ ∧ _ ∧ _›).2.2.1).mono ?_; rintro e w1 ⟨rfl, hb1⟩))
            obtain ⟨_, _, hBe, _, _⟩ := ‹_ ∧ _ ∧ _ ∧ _ ∧ _›
            go_wp2_with fail
            go_roundw
            case rel => exact ⟨k + 1, rfl, by go_num, by omega, HF, hide hBe⟩
            case measure => simp only [intOf]; omega
          · have HF := hide (HN1.out (O3.out hhs))
            have HHS := hide hhs
            clear hnm hhs
            go_wp2_with fail
            go_region_held3 (fun w' => w'.cell? ⟨wr.heap.size, 0, none⟩ = some (.string x) ∧ w'.cell? ⟨wr.heap.size, 1, none⟩ = some (.int .i64 z) ∧ Below w.heap.size w w' ∧ w.heap.size ≤ wr.heap.size ∧ wr.heap.size < w'.heap.size)
              (first | exact ⟨by simp [go_sem], by simp [go_sem], HBn.out.drew, hBz, by simp⟩ | assumption | exact kG_call ‹_› (by assumption))
              (first
              | (go_at_call 97; refine (isName_eq hsz HNM).mono ?_; rintro e w1 ⟨rfl, rfl⟩)
              | (go_at_call 81; refine (between_eq hin).mono ?_; rintro e w1 ⟨rfl, rfl⟩)
              | (go_at_call 98; refine (hasName_eq H (by rw [HN.out]; omega) (by omega) HHS (‹_ ∧ _ ∧ _ ∧ _ ∧ _›).2.2.1).mono ?_; rintro e w1 ⟨rfl, hb1⟩))
            obtain ⟨_, _, hBe, _, _⟩ := ‹_ ∧ _ ∧ _ ∧ _ ∧ _›
            go_wp2_with fail
            go_ret
            exact ⟨ret_bool HF.out.symm, hBe⟩
    · have hke : k = n := by omega
      subst hke
      have HY := hide (goodsB_of (by rw [HN.out]; exact hn') (fun i hi => HA.out i (by rw [← HN.out]; exact hi)))
      go_wp2_with fail
      go_ret
      exact ⟨ret_bool HY.out.symm, HBl.out⟩
theorem gg_any {a : Option Addr} {n c : Nat} {gs : List Gd} {w : World} (hn : gs.length = n) (hc : n ≤ c) (hs : Short gs) (h : GRow w a gs) :
    Calls Tryz.prog 73 #[.slice a n c] w fun e w' => e = .returned (.bool (goodsB gs)) ∧ Below w.heap.size w w' := by
  by_cases h12 : n ≤ 12
  · exact gg_few hn h12 hc hs h
  · rw [goodsB_many (by omega)]; exact gg_many (by omega)
end Go.Proofs.YtlbagigghpiifabGreat
namespace Go.Proofs.YtlbagigghpiifabGreat
open Go.RowKit

theorem goodsB_all {gs : List Gd} (h : ∀ i, i < gs.length → okG gs i = true) : goodsB gs = decide (gs.length ≤ 12) := by
  unfold goodsB
  rw [List.all_eq_true.2 fun i hi => h i (by simpa using hi), Bool.and_true]
theorem PBn (w : World) (v0 v1 : Value) (t : TypeId) : (w.alloc (.cells #[v0, v1] t)).cell? ⟨w.heap.size, 0, none⟩ = some v0 := by simp [go_sem]

theorem hasB_take {gs : List Gd} {x : ByteArray} {i k : Nat} (hi : i < k) (hk : k ≤ gs.length) (h : ((gs.getD i gd0).1.toList == x.toList) = true) : hasB (gs.take k) x = true :=
  hasB_of (i := i) (by simp; omega) (by rw [show (gs.take k).getD i gd0 = gs.getD i gd0 by simp [hi]]; exact h)
theorem hasB_none {gs : List Gd} {x : ByteArray} {k : Nat} (hk : k ≤ gs.length) (h : ∀ i, i < k → ((gs.getD i gd0).1.toList == x.toList) = false) : hasB (gs.take k) x = false :=
  hasB_no fun i hi => by
    have hi' : i < k := by simp at hi; omega
    rw [show (gs.take k).getD i gd0 = gs.getD i gd0 by simp [hi']]; exact h i hi'

theorem l3Name_eq {s : ByteArray} {w : World} {b : Bool} (hs : s.size ≤ 1048576) (h : Hid (nameB s = b)) :
    Calls Tryz.prog 110 #[.string s] w fun e w' => e = .returned (.bool b) ∧ w' = w := h.out ▸ l3Name_any s w (by omega)
set_option maxHeartbeats 8000000 in
set_option maxRecDepth 100000 in
theorem sgg_any {a : Option Addr} {n c : Nat} {gs : List Gd} {w : World} (hn : gs.length = n) (hn' : n ≤ 1048576) (hc : n ≤ c) (hs : Short gs) (h : GRow w a gs) :
    Calls Tryz.prog 92 #[.slice a n c] w fun e w' => e = .returned (.bool (goodsB gs)) ∧ Below w.heap.size w w' := by
  have H := hide h
  have HN := hide hn
  have HSh := hide hs
  clear h hn hs
  go_enter Tryz.func92, Tryz.ntmps92
  go_wp2_with fail
  go_loopw [2, 3, 4, 6, 9] (fun s2 _ _ _ s wr => ∃ k : Nat, s2 = .bool false ∧ s = .int .i64 k ∧ k ≤ n ∧ Hid (∀ i, i < k → okG gs i = true) ∧ Hid (Below w.heap.size w wr)) (fun _ _ _ _ s _ => n - (intOf s).toNat)
  case atStart => exact ⟨0, rfl, rfl, Nat.zero_le _, hide fun i hi => absurd hi (Nat.not_lt_zero _), hide (Below.refl _ _)⟩
  case round =>
    obtain ⟨k, rfl, rfl, hk, HA, HBl⟩ := hrel
    by_cases hlt : k < n
    · obtain ⟨b, off, rfl, hb, r1, r2⟩ := (H.out.below HBl.out).at (i := k) (by rw [HN.out]; exact hlt)
      have i0 : (0 : Int) ≤ (k : Int) := by omega
      have i1 : (k : Int) < (n : Int) := by omega
      have i2 : (k : Int) ≤ (n : Int) := by omega
      have i3 : (k : Int) ≤ (c : Int) := by omega
      have hsz := HSh.out k
      have hklen : k < gs.length := by rw [HN.out]; exact hlt
      have HOK : Hid (okG gs k = true → ∀ i, i < k + 1 → okG gs i = true) := hide fun he i hi => by
        by_cases e : i = k
        · subst e; exact he
        · exact HA.out i (by omega)
      have HN1 := hide (fun (h : okG gs k = false) => goodsB_not hklen h)
      have O1 := hide (@okG_n1 gs k)
      have O2 := hide (@okG_n2 gs k)
      have O3 := hide (@okG_n3 gs k)
      have O4 := hide (@okG_y gs k)
      generalize (gs.getD k gd0).1 = x at *
      generalize (gs.getD k gd0).2 = z at *
      have hBz := HBl.out.size
      have bn := (Below.refl wr.heap.size wr).alloc (Nat.le_refl _) (.cells #[.string x, .int .i64 z] 82)
      have HBn := hide (HBl.out.trans (bn.mono hBz))
      have HCV := hide (PBn wr (.string x) (.int .i64 z) 82)
      have HSV := hide (World.size_alloc wr (.cells #[.string x, .int .i64 z] 82))
      clear bn hklen
      cases hnm : nameB x
      · have HF := hide (HN1.out (O1.out hnm))
        have HNM := hide hnm
        clear hnm
        go_wp2_with ((go_at_call 110; refine (l3Name_eq hsz HNM).mono ?_; rintro e w1 ⟨rfl, rfl⟩))
        go_ret
        exact ⟨ret_bool HF.out.symm, HBn.out⟩
      · have HNM := hide hnm
        cases hin : Pf.inB z 1 100
        · have HF := hide (HN1.out (O2.out hin))
          clear hnm
          go_wp2_with (first
            | (go_at_call 110; refine (l3Name_eq hsz HNM).mono ?_; rintro e w1 ⟨rfl, rfl⟩)
            | (go_at_call 68; refine (in_eq hin).mono ?_; rintro e w1 ⟨rfl, rfl⟩))
          go_ret
          exact ⟨ret_bool HF.out.symm, HBn.out⟩
        · have HF3 := hide (fun (h : hasB (gs.take k) x = true) => HN1.out (O3.out h))
          have HF4 := hide (fun (h : hasB (gs.take k) x = false) => HOK.out (O4.out hnm hin h))
          clear hnm
          go_wp2_with (first
            | (go_at_call 110; refine (l3Name_eq hsz HNM).mono ?_; rintro e w1 ⟨rfl, rfl⟩)
            | (go_at_call 68; refine (in_eq hin).mono ?_; rintro e w1 ⟨rfl, rfl⟩))
          clear HN1 HOK O1 O2 O3 O4
          generalize wr.alloc (.cells #[.string x, .int .i64 z] 82) = W1 at *
          generalize wr.heap.size = V at *
          go_loopw [2, 6, 28] (fun s2 _ s wr => ∃ j : Nat, s2 = .bool false ∧ s = .int .i64 j ∧ j ≤ k ∧ Hid (∀ i, i < j → ((gs.getD i gd0).1.toList == x.toList) = false) ∧ Hid (Below W1.heap.size W1 wr)) (fun _ _ s _ => k - (intOf s).toNat)
          case atStart => exact ⟨0, rfl, rfl, Nat.zero_le _, hide fun i hi => absurd hi (Nat.not_lt_zero _), hide (Below.refl _ _)⟩
          case round =>
            obtain ⟨j, rfl, rfl, hj, HJ, HBj⟩ := hrel
            have hSV := HSV.out
            have hBw := HBn.out.trans (HBj.out.mono HBn.out.size)
            by_cases hjk : j < k
            · obtain ⟨b', off', hab, hb', t1, t2⟩ := (H.out.below hBw).at (i := j) (by rw [HN.out]; omega)
              cases hab
              have j0 : (0 : Int) ≤ (j : Int) := by omega
              have j1 : (j : Int) < (k : Int) := by omega
              have hVl : V < wr.heap.size := by have := HBj.out.size; omega
              have hV := (HBj.out.cell (p := ⟨V, 0, none⟩) (show V < W1.heap.size by omega)).trans HCV.out
              have hVa : ∀ o : Obj, (wr.alloc o).cell? ⟨V, 0, none⟩ = some (.string x) := fun o => ((((Below.refl _ _).alloc (Nat.le_refl _) o)).cell (p := ⟨V, 0, none⟩) hVl).trans hV
              generalize hy : (gs.getD j gd0).1 = y at t1
              generalize (gs.getD j gd0).2 = zz at t2
              have bn2 := (Below.refl wr.heap.size wr).alloc (Nat.le_refl _) (.cells #[.string y, .int .i64 zz] 82)
              have HB2 := hide (HBj.out.trans (bn2.mono HBj.out.size))
              have HB3 := hide (hBw.trans (bn2.mono hBw.size))
              clear bn2 hSV
              cases he : (y.toList == x.toList)
              · have HJ' : Hid (∀ i, i < j + 1 → ((gs.getD i gd0).1.toList == x.toList) = false) := hide fun i hi => by
                  by_cases e : i = j
                  · subst e; rw [hy]; exact he
                  · exact HJ.out i (by omega)
                clear hy hBw
                go_wp2_with fail
                go_roundw
                case rel => exact ⟨j + 1, rfl, by go_num, by omega, HJ', HB2⟩
                case measure => simp only [intOf]; omega
              · have HR := hide (HF3.out (hasB_take (i := j) hjk (by rw [HN.out]; omega) (by rw [hy]; exact he)))
                clear hy hBw
                go_wp2_with fail
                go_ret
                exact ⟨ret_bool HR.out.symm, HB3.out⟩
            · have hje : j = k := by omega
              subst hje
              have HR := hide (HF4.out (hasB_none (by rw [HN.out]; omega) HJ.out))
              have HBW := hide hBw
              clear hBw
              go_wp2_with fail
              go_roundw
              case rel => exact ⟨j + 1, rfl, by go_num, by omega, HR, HBW⟩
              case measure => simp only [intOf]; omega
    · have hke : k = n := by omega
      subst hke
      have HY := hide (goodsB_all (fun i hi => HA.out i (by rw [← HN.out]; exact hi)))
      rw [HN.out] at HY
      by_cases h12 : k ≤ 12
      · have h12' : (k : Int) ≤ 12 := by omega
        go_wp2_with fail
        go_ret
        exact ⟨ret_bool (by rw [HY.out]; simp [h12]), HBl.out⟩
      · have h12' : ¬ (k : Int) ≤ 12 := by omega
        go_wp2_with fail
        go_ret
        exact ⟨ret_bool (by rw [HY.out]; simp [h12]), HBl.out⟩
end Go.Proofs.YtlbagigghpiifabGreat
namespace Go.Proofs.YtlbagigghpiifabGreat
open Go.RowKit

def Fits (gs : List Gd) : Prop := ∀ i, (gs.getD i gd0).1.size ≤ maxLen

set_option maxHeartbeats 400000 in
theorem szg_yes {s : ByteArray} {z left : Int} {w : World} (h0 : 0 ≤ left) (h1 : left ≤ 1048576) (h : (s.size : Int) ≤ left) :
    Calls Tryz.prog 41 #[.agg #[.string s, .int .i64 z], .int .i64 left] w fun e w' => e = .returned (.int .i64 (left - s.size)) ∧ Below w.heap.size w w' := by
  have h2 : ¬ left - (s.size : Int) < 0 := by omega
  go_enter Tryz.func41, Tryz.ntmps41
  go_wp2
  go_ret
  exact ⟨rfl, (Below.refl _ _).alloc (Nat.le_refl _) _⟩
set_option maxHeartbeats 400000 in
theorem szg_no {s : ByteArray} {z left : Int} {w : World} (h0 : 0 ≤ left) (h1 : left ≤ 1048576) (hm : s.size ≤ maxLen) (h : left < (s.size : Int)) :
    Calls Tryz.prog 41 #[.agg #[.string s, .int .i64 z], .int .i64 left] w fun e w' => e = .returned (.int .i64 (-1)) ∧ Below w.heap.size w w' := by
  unfold maxLen at hm
  have h2 : left - (s.size : Int) < 0 := by omega
  have h3 : wrap64 (left - (s.size : Int)) = left - (s.size : Int) := wrap_id' _ (by omega) (by omega)
  go_enter Tryz.func41, Tryz.ntmps41
  go_wp2
  go_ret
  exact ⟨rfl, (Below.refl _ _).alloc (Nat.le_refl _) _⟩

set_option maxHeartbeats 400000 in
theorem szG_long {a : Option Addr} {n c : Nat} {left : Int} {w : World} (h0 : 0 ≤ left) (h1 : left ≤ 1048576) (hm : n ≤ maxLen) (h : left < (n : Int)) :
    Calls Tryz.prog 19 #[.slice a n c, .int .i64 left] w fun e w' => e = .returned (.int .i64 (-1)) ∧ w' = w := by
  unfold maxLen at hm
  have h2 : left - (n : Int) < 0 := by omega
  have h3 : wrap64 (left - (n : Int)) = left - (n : Int) := wrap_id' _ (by omega) (by omega)
  go_enter Tryz.func19, Tryz.ntmps19
  go_wp2_with fail
  go_ret
  exact ⟨rfl, rfl⟩
set_option maxHeartbeats 2000000 in
theorem szG_any {a : Option Addr} {n c : Nat} {left : Int} {gs : List Gd} {w : World} (hn : gs.length = n) (h0 : 0 ≤ left) (h1 : left ≤ 1048576) (hl : (n : Int) ≤ left) (hf : Fits gs) (h : GRow w a gs) :
    Calls Tryz.prog 19 #[.slice a n c, .int .i64 left] w fun e w' => ∃ r : Int, e = .returned (.int .i64 r) ∧ r ≤ 1048576 ∧ (r = -1 ∨ (0 ≤ r ∧ ∀ i, i < n → (gs.getD i gd0).1.size ≤ 1048576)) ∧ Below w.heap.size w w' := by
  have H := hide h
  have HN := hide hn
  have HF := hide hf
  have h2 : ¬ left - (n : Int) < 0 := by omega
  clear h hn hf
  go_enter Tryz.func19, Tryz.ntmps19
  go_wp2_with fail
  go_loopw [1, 4, 5] (fun s1 _ s wr => ∃ (k : Nat) (r : Int), s1 = .int .i64 r ∧ s = .int .i64 k ∧ k ≤ n ∧ 0 ≤ r ∧ r ≤ 1048576 ∧ Hid (∀ i, i < k → (gs.getD i gd0).1.size ≤ 1048576) ∧ Hid (Below w.heap.size w wr)) (fun _ _ s _ => n - (intOf s).toNat)
  case atStart => exact ⟨0, _, rfl, rfl, Nat.zero_le _, by omega, by omega, hide fun i hi => absurd hi (Nat.not_lt_zero _), hide (Below.refl _ _)⟩
  case round =>
    obtain ⟨k, r, rfl, rfl, hk, r0, r1, HA, HBl⟩ := hrel
    by_cases hlt : k < n
    · obtain ⟨b, off, rfl, hb, c1, c2⟩ := (H.out.below HBl.out).at (i := k) (by rw [HN.out]; exact hlt)
      have i0 : (0 : Int) ≤ (k : Int) := by omega
      have i1 : (k : Int) < (n : Int) := by omega
      have hfk := HF.out k
      generalize hx : (gs.getD k gd0).1 = x at c1 hfk
      generalize (gs.getD k gd0).2 = z at c2
      by_cases hle : (x.size : Int) ≤ r
      · have HA' : Hid (∀ i, i < k + 1 → (gs.getD i gd0).1.size ≤ 1048576) := hide fun i hi => by
          by_cases e : i = k
          · subst e; rw [hx]; omega
          · exact HA.out i (by omega)
        have hnn : ¬ r - (x.size : Int) < 0 := by omega
        clear hx
        go_wp2_with (go_at_call 41; refine (szg_yes r0 r1 hle).mono ?_; rintro e w1 ⟨rfl, hb1⟩)
        go_roundw
        case rel => exact ⟨k + 1, _, rfl, by go_num, by omega, by omega, by omega, HA', hide (HBl.out.trans (hb1.mono HBl.out.size))⟩
        case measure => simp only [intOf]; omega
      · clear hx
        go_wp2_with (go_at_call 41; refine (szg_no r0 r1 hfk (by omega)).mono ?_; rintro e w1 ⟨rfl, hb1⟩)
        go_ret
        exact ⟨-1, rfl, by omega, Or.inl rfl, HBl.out.trans (hb1.mono HBl.out.size)⟩
    · have hke : k = n := by omega
      subst hke
      go_wp2_with fail
      go_ret
      exact ⟨r, rfl, r1, Or.inr ⟨r0, HA.out⟩, HBl.out⟩

set_option maxHeartbeats 400000 in
theorem toGood_any (s : ByteArray) (z : Int) (w : World) :
    Calls Tryz.prog 50 #[.agg #[.string s, .int .i64 z]] w fun e w' => e = .returned (.agg #[.string s, .int .i64 z]) ∧ Below w.heap.size w w' := by
  go_enter Tryz.func50, Tryz.ntmps50
  go_wp2
  exact bodyPost_ret (v := .agg #[.string s, .int .i64 z]) (by simp [results, Tryz.results50, go_sem]) rfl ⟨rfl, by
    first
    | exact ((((Below.refl _ _).alloc (Nat.le_refl _) _).alloc (by simp) _).alloc (by simp; omega) _)
    | exact (((((((Below.refl _ _).alloc (Nat.le_refl _) _).alloc (by simp) _).alloc (by simp; omega) _).setCell (by simp; omega) _).setCell (by simp; omega) _).setCell (by simp; omega) _).setCell (by simp; omega) _⟩
set_option maxHeartbeats 1000000 in
theorem eqGood_same (s : ByteArray) (z : Int) (w : World) :
    Calls Tryz.prog 58 #[.agg #[.string s, .int .i64 z], .agg #[.string s, .int .i64 z]] w fun e w' => e = .returned (.bool true) ∧ Below w.heap.size w w' := by
  have hz : (z != z) = false := by simp
  have hs : (s.toList == s.toList) = true := by simp
  have hs' : (s.toList != s.toList) = false := by simp
  go_enter Tryz.func58, Tryz.ntmps58
  go_wp2_with fail
  go_ret
  exact ⟨rfl, ((Below.refl _ _).alloc (Nat.le_refl _) _).alloc (by simp) _⟩
end Go.Proofs.YtlbagigghpiifabGreat
namespace Go.Proofs.YtlbagigghpiifabGreat
open Go.RowKit

theorem makeG_run (n : Nat) (hn : n ≤ 1048576) (w : World) : (Instr.makeSlice 35 (.int .i64 (n : Int)) (.int .i64 (n : Int))).run Tryz.prog w = .ok (.slice (some ⟨w.heap.size, 0, none⟩) n n) (w.alloc (.cells (madeCells #[.string ⟨#[]⟩, .int .i64 0] (n * 2)) 82)) := by
  have h : (Tryz.prog.info? 82).map (fun i => (i.zero, i.size, i.bytes)) = some (some (.agg #[.string ⟨#[]⟩, .int .i64 0]), 2, 24) := by kernel_rfl
  obtain ⟨i, hi, hzz⟩ := Option.map_eq_some_iff.1 h
  simp only [Prod.mk.injEq] at hzz
  obtain ⟨hz, hs, hb⟩ := hzz
  have := run_make (P := Tryz.prog) w 35 82 i _ Tryz.underlying35 hi hz .i64 .i64 (n : Int) (n : Int) (by omega) (by omega) (by rw [hb]; omega) (by omega)
  simpa [hs, Value.cells] using this
theorem madeG_cell (w : World) (n j : Nat) (t : TypeId) (hj : j < n * 2) : ((w.alloc (.cells (madeCells #[.string ⟨#[]⟩, .int .i64 0] (n * 2)) t)).cell? ⟨w.heap.size, j, none⟩).isSome = true := by
  have h2 : j % 2 = 0 ∨ j % 2 = 1 := by omega
  have h3 : ((madeCells #[.string ⟨#[]⟩, .int .i64 0] (n * 2))[j]?).isSome = true := by
    rcases h2 with h2 | h2 <;> simp [madeCells, hj, h2]
  simp only [World.cell?, (MapKept.heap_alloc w _).1]
  simpa using h3
theorem putG {W : World} {B i : Nat} {x y : Value} (h0 : (W.cell? ⟨B, i, none⟩).isSome = true) (h1 : (W.cell? ⟨B, i + 1, none⟩).isSome = true) :
    ((W.setCell ⟨B, i, none⟩ x).setCell ⟨B, i + 1, none⟩ y).cell? ⟨B, i, none⟩ = some x ∧ ((W.setCell ⟨B, i, none⟩ x).setCell ⟨B, i + 1, none⟩ y).cell? ⟨B, i + 1, none⟩ = some y ∧
    (∀ j, j ≠ i → j ≠ i + 1 → ((W.setCell ⟨B, i, none⟩ x).setCell ⟨B, i + 1, none⟩ y).cell? ⟨B, j, none⟩ = W.cell? ⟨B, j, none⟩) ∧ (∀ a, ((W.setCell ⟨B, i, none⟩ x).setCell ⟨B, i + 1, none⟩ y).frozen? a = W.frozen? a) := by
  obtain ⟨v0, e0⟩ := Option.isSome_iff_exists.1 h0
  obtain ⟨v1, e1⟩ := Option.isSome_iff_exists.1 h1
  refine ⟨?_, ?_, ?_, ?_⟩
  · rw [World.cell?_setCell_other _ _ _ _ (by simp)]; exact World.cell?_setCell_same _ _ _ e0
  · exact World.cell?_setCell_same _ _ _ (by rw [World.cell?_setCell_other _ _ _ _ (by simp)]; exact e1)
  · intro j hj hj'
    rw [World.cell?_setCell_other _ _ _ _ (fun e => hj' (by injection e with _ e2; exact e2.symm)), World.cell?_setCell_other _ _ _ _ (fun e => hj (by injection e with _ e2; exact e2.symm))]
  · intro a; rw [World.frozen?_setCell, World.frozen?_setCell]
/-- The first k goods, in their block. -/
def GAt (w : World) (B : Nat) (gs : List Gd) (k : Nat) : Prop := ∀ i, i < k → w.cell? ⟨B, 0 + i * 2, none⟩ = some (.string (gs.getD i gd0).1) ∧ w.cell? ⟨B, 0 + i * 2 + 1, none⟩ = some (.int .i64 (gs.getD i gd0).2)
theorem GAt.row {w : World} {B : Nat} {gs : List Gd} (h : GAt w B gs gs.length) (hB : B < w.heap.size) : GRow w (some ⟨B, 0, none⟩) gs := Or.inr ⟨B, 0, rfl, hB, h⟩

set_option maxHeartbeats 2000000 in
theorem toG_row (a : Option Addr) (cap n : Nat) (gs : List Gd) (w : World) (hn : gs.length = n) (hlen : n ≤ 1048576) (hr : GRow w a gs) :
    Calls Tryz.prog 25 #[.slice a n cap] w fun e w' => e = .returned (.slice (some ⟨w.heap.size, 0, none⟩) n n) ∧ Below w.heap.size w w' ∧ w.heap.size < w'.heap.size ∧ GRow w' (some ⟨w.heap.size, 0, none⟩) gs := by
  have hmk := makeG_run n hlen
  have HR := hide hr
  have HN := hide hn
  clear hr hn
  go_enter Tryz.func25, Tryz.ntmps25
  go_wp2_with fail
  go_loopw [4] (fun s wr => ∃ (k : Nat), s = .int .i64 k ∧ k ≤ n ∧ Hid (GAt wr w.heap.size gs k) ∧ Hid (∀ j, j < n * 2 → (wr.cell? ⟨w.heap.size, j, none⟩).isSome = true ∧ wr.frozen? ⟨w.heap.size, j, none⟩ = false) ∧ Below w.heap.size w wr ∧ w.heap.size < wr.heap.size) (fun s _ => n - (intOf s).toNat)
  case atStart =>
    exact ⟨0, rfl, Nat.zero_le _, hide fun i hi => absurd hi (Nat.not_lt_zero _), hide fun j hj => ⟨madeG_cell _ _ _ _ hj, by simp [go_sem]⟩, (Below.refl _ _).alloc (Nat.le_refl _) _, by simp⟩
  case round =>
    obtain ⟨k, rfl, hk, HG, HJ, hB, hz⟩ := hrel
    by_cases hlt : k < n
    · obtain ⟨b, off, rfl, hb, r0', r1'⟩ := (HR.out.keep hB.size hB.block).at (i := k) (by rw [HN.out]; exact hlt)
      have i0 : (0 : Int) ≤ (k : Int) := by omega
      have i1 : (k : Int) < (n : Int) := by omega
      generalize hgx : (gs.getD k gd0).1 = x at r0'
      generalize hgz : (gs.getD k gd0).2 = z at r1'
      have HX := hide hgx
      have HZ := hide hgz
      clear hmk hgx hgz
      go_wp2_with fail
      refine (toGood_any x z _).mono ?_
      rintro e w2 ⟨rfl, hb2⟩
      obtain ⟨hc2, hf2⟩ := bcell hb2
      have q0 := HJ.out (k * 2) (by omega)
      have q1 := HJ.out (k * 2 + 1) (by omega)
      obtain ⟨v0, hv0⟩ := Option.isSome_iff_exists.1 q0.1
      obtain ⟨v1, hv1⟩ := Option.isSome_iff_exists.1 q1.1
      have p0 : w2.cell? ⟨w.heap.size, k * 2, none⟩ = some v0 := (hc2 _ _ hz).trans hv0
      have p1 : w2.cell? ⟨w.heap.size, k * 2 + 1, none⟩ = some v1 := (hc2 _ _ hz).trans hv1
      have p2 : w2.frozen? ⟨w.heap.size, k * 2, none⟩ = false := (hf2 _ _ hz).trans q0.2
      have p3 : w2.frozen? ⟨w.heap.size, k * 2 + 1, none⟩ = false := (hf2 _ _ hz).trans q1.2
      go_wp2_with fail
      obtain ⟨u0, u1, u2, u3⟩ := putG (W := w2) (B := w.heap.size) (i := k * 2) (x := .string x) (y := .int .i64 z) (by rw [p0]; rfl) (by rw [p1]; rfl)
      refine ⟨⟨k + 1, by go_num, by omega, ?_, ?_, ?_, ?_⟩, by simp only [intOf]; omega⟩
      · refine hide fun i hi => ?_
        by_cases e : i = k
        · subst e
          rw [HX.out, HZ.out, Nat.zero_add]
          exact ⟨u0, u1⟩
        · obtain ⟨g0, g1⟩ := HG.out i (by omega)
          rw [Nat.zero_add] at g0 g1 ⊢
          exact ⟨(u2 _ (by omega) (by omega)).trans ((hc2 _ _ hz).trans g0), (u2 _ (by omega) (by omega)).trans ((hc2 _ _ hz).trans g1)⟩
      · refine hide fun j hj => ⟨?_, (u3 _).trans ((hf2 _ _ hz).trans (HJ.out j hj).2)⟩
        by_cases e0 : j = k * 2
        · subst e0; rw [u0]; rfl
        · by_cases e1 : j = k * 2 + 1
          · subst e1; rw [u1]; rfl
          · rw [u2 j e0 e1, hc2 _ _ hz]; exact (HJ.out j hj).1
      · exact ((hB.trans (hb2.mono (by omega))).setCell (Nat.le_refl _) _).setCell (Nat.le_refl _) _
      · have := hb2.size; simp; omega
    · have hke : k = n := by omega
      subst hke
      have HG' := HG.out
      rw [← HN.out] at HG'
      have HGG := hide HG'
      clear hmk HG'
      go_wp2_with fail
      go_ret
      exact ⟨rfl, hB, hz, HGG.out.row hz⟩

theorem heldG {w w1 w2 : World} {b c i o o' : Nat} {v0 v1 v2 v3 : Value} (hb : b < w.heap.size) (hc : c < w.heap.size)
    (s : w1.cell? ⟨b, o, none⟩ = some v0 ∧ w1.cell? ⟨b, o + 1, none⟩ = some v1 ∧ w1.cell? ⟨c, o', none⟩ = some v2 ∧ w1.cell? ⟨c, o' + 1, none⟩ = some v3 ∧ Below w.heap.size w w1 ∧ w.heap.size ≤ w1.heap.size) (hb2 : Below w1.heap.size w1 w2) (_ : i = i) :
    w2.cell? ⟨b, o, none⟩ = some v0 ∧ w2.cell? ⟨b, o + 1, none⟩ = some v1 ∧ w2.cell? ⟨c, o', none⟩ = some v2 ∧ w2.cell? ⟨c, o' + 1, none⟩ = some v3 ∧ Below w.heap.size w w2 ∧ w.heap.size ≤ w2.heap.size := by
  obtain ⟨s0, s1, s2, s3, s4, s5⟩ := s
  obtain ⟨h, _⟩ := bcell hb2
  exact ⟨(h _ _ (by omega)).trans s0, (h _ _ (by omega)).trans s1, (h _ _ (by omega)).trans s2, (h _ _ (by omega)).trans s3, s4.trans (hb2.mono s5), Nat.le_trans s5 hb2.size⟩

set_option maxHeartbeats 2000000 in
theorem eqG_same (b c cap cap' n : Nat) (gs : List Gd) (w : World) (hn : gs.length = n) (hlen : n ≤ 1048576) (h1 : GRow w (some ⟨b, 0, none⟩) gs) (h2 : GRow w (some ⟨c, 0, none⟩) gs) :
    Calls Tryz.prog 30 #[.slice (some ⟨b, 0, none⟩) n cap, .slice (some ⟨c, 0, none⟩) n cap'] w fun e w' => e = .returned (.bool true) ∧ Below w.heap.size w w' := by
  have hne : ((n : Int) != (n : Int)) = false := by simp
  have H1 := hide h1
  have H2 := hide h2
  have HN := hide hn
  clear h1 h2 hn
  go_enter Tryz.func30, Tryz.ntmps30
  go_wp2_with fail
  go_loopw [5] (fun s wr => ∃ (k : Nat), s = .int .i64 k ∧ k ≤ n ∧ Below w.heap.size w wr ∧ w.heap.size ≤ wr.heap.size) (fun s _ => n - (intOf s).toNat)
  case atStart => exact ⟨0, rfl, Nat.zero_le _, Below.refl _ _, Nat.le_refl _⟩
  case round =>
    obtain ⟨k, rfl, hk, hB, hz⟩ := hrel
    by_cases hlt : k < n
    · obtain ⟨b', o', e1, hb, r0, r1⟩ := H1.out.at (i := k) (by rw [HN.out]; exact hlt)
      cases e1
      obtain ⟨c', o'', e2, hc, s0, s1⟩ := H2.out.at (i := k) (by rw [HN.out]; exact hlt)
      cases e2
      have r0' := (hB.cell (p := ⟨b, 0 + k * 2, none⟩) hb).trans r0
      have r1' := (hB.cell (p := ⟨b, 0 + k * 2 + 1, none⟩) hb).trans r1
      have s0' := (hB.cell (p := ⟨c, 0 + k * 2, none⟩) hc).trans s0
      have s1' := (hB.cell (p := ⟨c, 0 + k * 2 + 1, none⟩) hc).trans s1
      simp only [Nat.zero_add] at r0' r1' s0' s1'
      generalize (gs.getD k gd0).1 = x at *
      generalize (gs.getD k gd0).2 = z at *
      clear r0 r1 s0 s1
      have i0 : (0 : Int) ≤ (k : Int) := by omega
      have i1 : (k : Int) < (n : Int) := by omega
      go_wp2_with fail
      go_region_held3 (fun w' => w'.cell? ⟨b, k * 2, none⟩ = some (.string x) ∧ w'.cell? ⟨b, k * 2 + 1, none⟩ = some (.int .i64 z) ∧ w'.cell? ⟨c, k * 2, none⟩ = some (.string x) ∧ w'.cell? ⟨c, k * 2 + 1, none⟩ = some (.int .i64 z) ∧ Below w.heap.size w w' ∧ w.heap.size ≤ w'.heap.size)
        (first | exact ⟨r0', r1', s0', s1', hB.drew, hz⟩ | assumption | exact heldG (i := k) hb hc ‹_› (by assumption) rfl)
        (first
        | (go_at_call 58; refine (eqGood_same _ _ _).mono ?_; rintro e w1 ⟨rfl, hb1⟩))
      go_wp2_with fail
      obtain ⟨_, _, _, _, hB2, hz2⟩ := ‹_ ∧ _ ∧ _ ∧ _ ∧ _ ∧ _›
      exact ⟨⟨k + 1, by go_num, by omega, hB2, hz2⟩, by simp only [intOf]; omega⟩
    · go_wp2_with fail
      go_ret
      exact ⟨rfl, hB⟩
end Go.Proofs.YtlbagigghpiifabGreat
namespace Go.Proofs.YtlbagigghpiifabGreat
open Go.RowKit

theorem short_of {gs : List Gd} {n : Nat} (hn : gs.length = n) (h : ∀ i, i < n → (gs.getD i gd0).1.size ≤ 1048576) : Short gs := fun i => by
  by_cases hi : i < n
  · exact h i hi
  · have : gs.getD i gd0 = gd0 := by simp [show gs.length ≤ i by omega]
    rw [this]; decide

end Go.Proofs.YtlbagigghpiifabGreat
namespace Go.Proofs.YtlbagigghpiifabGreat
open Go.RowKit

/-- Cells of a block that are there, and can be written. -/
def Loose (w : World) (B m : Nat) : Prop := ∀ j, j < m → (w.cell? ⟨B, j, none⟩).isSome = true ∧ w.frozen? ⟨B, j, none⟩ = false
theorem Loose.below {w w' : World} {B m : Nat} (h : Loose w B m) (hb : Below w.heap.size w w') : Loose w' B m := fun j hj => by
  obtain ⟨h1, h2⟩ := h j hj
  have hl : B < w.heap.size := by
    obtain ⟨v, hv⟩ := Option.isSome_iff_exists.1 h1
    exact World.block_lt_of_cell? w _ hv
  exact ⟨by rw [hb.cell (p := ⟨B, j, none⟩) hl]; exact h1, by rw [hb.frozen (p := ⟨B, j, none⟩) hl]; exact h2⟩
theorem Loose.set {w : World} {B m i : Nat} {v : Value} (h : Loose w B m) : Loose (w.setCell ⟨B, i, none⟩ v) B m := fun j hj => by
  obtain ⟨h1, h2⟩ := h j hj
  refine ⟨?_, by rw [World.frozen?_setCell]; exact h2⟩
  by_cases e : j = i
  · subst e
    obtain ⟨u, hu⟩ := Option.isSome_iff_exists.1 h1
    rw [World.cell?_setCell_same _ _ _ hu]; rfl
  · rw [World.cell?_setCell_other _ _ _ _ (fun e' => e (by injection e' with _ e2; exact e2.symm))]; exact h1
theorem Loose.lt {w : World} {B m : Nat} (h : Loose w B m) (hm : 0 < m) : B < w.heap.size := by
  obtain ⟨v, hv⟩ := Option.isSome_iff_exists.1 (h 0 hm).1
  exact World.block_lt_of_cell? w _ hv
theorem grown_set {a w : World} {B o : Nat} {v : Value} (h : a.grownBy w (some B)) : a.grownBy (w.setCell ⟨B, o, none⟩ v) (some B) :=
  ⟨h.os, h.tape, h.output, by simpa using h.size, fun k hk hne => (Below.heap_setCell _ _ _ k (by intro e; exact hne (by rw [e]))).trans (h.block k hk hne)⟩
theorem grown_of {a w w' : World} {B : Nat} (h : a.grownBy w (some B)) (hb : Below w.heap.size w w') : a.grownBy w' (some B) :=
  ⟨hb.os.trans h.os, hb.tape.trans h.tape, hb.output.trans h.output, Nat.le_trans h.size hb.size, fun k hk hne => (hb.block k (Nat.lt_of_lt_of_le hk h.size)).trans (h.block k hk hne)⟩
set_option maxHeartbeats 2000000 in
theorem toG_rowF (a : Option Addr) (cap n : Nat) (gs : List Gd) (w : World) (hn : gs.length = n) (hlen : n ≤ 1048576) (hr : GRow w a gs) :
    Calls Tryz.prog 25 #[.slice a n cap] w fun e w' => e = .returned (.slice (some ⟨w.heap.size, 0, none⟩) n n) ∧ Below w.heap.size w w' ∧ w.heap.size < w'.heap.size ∧ GRow w' (some ⟨w.heap.size, 0, none⟩) gs ∧ Loose w' w.heap.size (n * 2) := by
  have hmk := makeG_run n hlen
  have HR := hide hr
  have HN := hide hn
  clear hr hn
  go_enter Tryz.func25, Tryz.ntmps25
  go_wp2_with fail
  go_loopw [4] (fun s wr => ∃ (k : Nat), s = .int .i64 k ∧ k ≤ n ∧ Hid (GAt wr w.heap.size gs k) ∧ Hid (∀ j, j < n * 2 → (wr.cell? ⟨w.heap.size, j, none⟩).isSome = true ∧ wr.frozen? ⟨w.heap.size, j, none⟩ = false) ∧ Below w.heap.size w wr ∧ w.heap.size < wr.heap.size) (fun s _ => n - (intOf s).toNat)
  case atStart =>
    exact ⟨0, rfl, Nat.zero_le _, hide fun i hi => absurd hi (Nat.not_lt_zero _), hide fun j hj => ⟨madeG_cell _ _ _ _ hj, by simp [go_sem]⟩, (Below.refl _ _).alloc (Nat.le_refl _) _, by simp⟩
  case round =>
    obtain ⟨k, rfl, hk, HG, HJ, hB, hz⟩ := hrel
    by_cases hlt : k < n
    · obtain ⟨b, off, rfl, hb, r0', r1'⟩ := (HR.out.keep hB.size hB.block).at (i := k) (by rw [HN.out]; exact hlt)
      have i0 : (0 : Int) ≤ (k : Int) := by omega
      have i1 : (k : Int) < (n : Int) := by omega
      generalize hgx : (gs.getD k gd0).1 = x at r0'
      generalize hgz : (gs.getD k gd0).2 = z at r1'
      have HX := hide hgx
      have HZ := hide hgz
      clear hmk hgx hgz
      go_wp2_with fail
      refine (toGood_any x z _).mono ?_
      rintro e w2 ⟨rfl, hb2⟩
      obtain ⟨hc2, hf2⟩ := bcell hb2
      have q0 := HJ.out (k * 2) (by omega)
      have q1 := HJ.out (k * 2 + 1) (by omega)
      obtain ⟨v0, hv0⟩ := Option.isSome_iff_exists.1 q0.1
      obtain ⟨v1, hv1⟩ := Option.isSome_iff_exists.1 q1.1
      have p0 : w2.cell? ⟨w.heap.size, k * 2, none⟩ = some v0 := (hc2 _ _ hz).trans hv0
      have p1 : w2.cell? ⟨w.heap.size, k * 2 + 1, none⟩ = some v1 := (hc2 _ _ hz).trans hv1
      have p2 : w2.frozen? ⟨w.heap.size, k * 2, none⟩ = false := (hf2 _ _ hz).trans q0.2
      have p3 : w2.frozen? ⟨w.heap.size, k * 2 + 1, none⟩ = false := (hf2 _ _ hz).trans q1.2
      go_wp2_with fail
      obtain ⟨u0, u1, u2, u3⟩ := putG (W := w2) (B := w.heap.size) (i := k * 2) (x := .string x) (y := .int .i64 z) (by rw [p0]; rfl) (by rw [p1]; rfl)
      refine ⟨⟨k + 1, by go_num, by omega, ?_, ?_, ?_, ?_⟩, by simp only [intOf]; omega⟩
      · refine hide fun i hi => ?_
        by_cases e : i = k
        · subst e
          rw [HX.out, HZ.out, Nat.zero_add]
          exact ⟨u0, u1⟩
        · obtain ⟨g0, g1⟩ := HG.out i (by omega)
          rw [Nat.zero_add] at g0 g1 ⊢
          exact ⟨(u2 _ (by omega) (by omega)).trans ((hc2 _ _ hz).trans g0), (u2 _ (by omega) (by omega)).trans ((hc2 _ _ hz).trans g1)⟩
      · refine hide fun j hj => ⟨?_, (u3 _).trans ((hf2 _ _ hz).trans (HJ.out j hj).2)⟩
        by_cases e0 : j = k * 2
        · subst e0; rw [u0]; rfl
        · by_cases e1 : j = k * 2 + 1
          · subst e1; rw [u1]; rfl
          · rw [u2 j e0 e1, hc2 _ _ hz]; exact (HJ.out j hj).1
      · exact ((hB.trans (hb2.mono (by omega))).setCell (Nat.le_refl _) _).setCell (Nat.le_refl _) _
      · have := hb2.size; simp; omega
    · have hke : k = n := by omega
      subst hke
      have HG' := HG.out
      rw [← HN.out] at HG'
      have HGG := hide HG'
      clear hmk HG'
      go_wp2_with fail
      go_ret
      exact ⟨rfl, hB, hz, HGG.out.row hz, HJ.out⟩
end Go.Proofs.YtlbagigghpiifabGreat
namespace Go.Proofs.YtlbagigghpiifabGreat
open Go.RowKit

def lineB (g : Nat) (x : Int × Int) : Bool := Pf.inB x.1 0 ((g : Int) - 1) && Pf.inB x.2 1 99
def linesB (g : Nat) (ls : List (Int × Int)) : Bool := decide (ls.length ≤ 80) && (List.range ls.length).all fun i => lineB g (ls.getD i (0, 0))
theorem linesB_many {g : Nat} {ls : List (Int × Int)} (h : 80 < ls.length) : linesB g ls = false := by simp [linesB, show ¬ ls.length ≤ 80 by omega]
theorem linesB_at {g : Nat} {ls : List (Int × Int)} (h : linesB g ls = true) {i : Nat} (hi : i < ls.length) : lineB g (ls.getD i (0, 0)) = true := by
  simp only [linesB, Bool.and_eq_true] at h
  exact List.all_eq_true.1 h.2 i (by simpa using hi)
theorem linesB_len {g : Nat} {ls : List (Int × Int)} (h : linesB g ls = true) : ls.length ≤ 80 := by
  simp only [linesB, Bool.and_eq_true, decide_eq_true_eq] at h; exact h.1
theorem linesB_of {g : Nat} {ls : List (Int × Int)} (h1 : ls.length ≤ 80) (h : ∀ i, i < ls.length → lineB g (ls.getD i (0, 0)) = true) : linesB g ls = true := by
  simp only [linesB, Bool.and_eq_true, decide_eq_true_eq]
  exact ⟨h1, List.all_eq_true.2 fun i hi => h i (by simpa using hi)⟩
theorem linesB_not {g : Nat} {ls : List (Int × Int)} {i : Nat} (hi : i < ls.length) (h : lineB g (ls.getD i (0, 0)) = false) : linesB g ls = false := by
  cases e : linesB g ls
  · rfl
  · rw [linesB_at e hi] at h; cases h
/-- A list of pairs of ints, wherever it lies. -/
def LRow (w : World) (a : Option Addr) (ls : List (Int × Int)) : Prop :=
  ls = [] ∨ ∃ b o, a = some ⟨b, o, none⟩ ∧ b < w.heap.size ∧ ∀ i, i < ls.length → w.cell? ⟨b, o + i * 2, none⟩ = some (.int .i64 (ls.getD i (0, 0)).1) ∧ w.cell? ⟨b, o + i * 2 + 1, none⟩ = some (.int .i64 (ls.getD i (0, 0)).2)
theorem LRow.below {w w' : World} {a : Option Addr} {ls : List (Int × Int)} (h : LRow w a ls) (hb : Below w.heap.size w w') : LRow w' a ls := by
  rcases h with h | ⟨b, o, rfl, hl, hc⟩
  · exact Or.inl h
  · exact Or.inr ⟨b, o, rfl, Nat.lt_of_lt_of_le hl hb.size, fun i hi => ⟨(hb.cell (p := ⟨b, o + i * 2, none⟩) hl).trans (hc i hi).1, (hb.cell (p := ⟨b, o + i * 2 + 1, none⟩) hl).trans (hc i hi).2⟩⟩
theorem LRow.at {w : World} {a : Option Addr} {ls : List (Int × Int)} (h : LRow w a ls) {i : Nat} (hi : i < ls.length) : ∃ b o, a = some ⟨b, o, none⟩ ∧ b < w.heap.size ∧ w.cell? ⟨b, o + i * 2, none⟩ = some (.int .i64 (ls.getD i (0, 0)).1) ∧ w.cell? ⟨b, o + i * 2 + 1, none⟩ = some (.int .i64 (ls.getD i (0, 0)).2) := by
  rcases h with rfl | ⟨b, o, rfl, hl, hc⟩
  · exact absurd hi (Nat.not_lt_zero _)
  · exact ⟨b, o, rfl, hl, (hc i hi).1, (hc i hi).2⟩

set_option maxHeartbeats 1000000 in
theorem al_many {a : Option Addr} {n c : Nat} {g : Int} {w : World} (h : 80 < n) :
    Calls Tryz.prog 74 #[.slice a n c, .int .i64 g] w fun e w' => e = .returned (.bool false) ∧ Below w.heap.size w w' := by
  have h1 : (80 : Int) < n := by omega
  go_enter Tryz.func74, Tryz.ntmps74
  go_wp2_with fail
  go_ret
  exact ⟨rfl, Below.refl _ _⟩
set_option maxHeartbeats 4000000 in
theorem al_few {a : Option Addr} {n c g : Nat} {ls : List (Int × Int)} {w : World} (hn : ls.length = n) (hn' : n ≤ 80) (hg : g ≤ 12) (h : LRow w a ls) :
    Calls Tryz.prog 74 #[.slice a n c, .int .i64 g] w fun e w' => e = .returned (.bool (linesB g ls)) ∧ Below w.heap.size w w' := by
  have h1 : ¬ (80 : Int) < n := by omega
  have H := hide h
  have HN := hide hn
  clear h hn
  go_enter Tryz.func74, Tryz.ntmps74
  go_wp2_with fail
  go_loopw [4, 6, 12] (fun s4 _ s wr => ∃ k : Nat, s4 = .bool false ∧ s = .int .i64 k ∧ k ≤ n ∧ Hid (∀ i, i < k → lineB g (ls.getD i (0, 0)) = true) ∧ Hid (Below w.heap.size w wr)) (fun _ _ s _ => n - (intOf s).toNat)
  case atStart => exact ⟨0, rfl, rfl, Nat.zero_le _, hide fun i hi => absurd hi (Nat.not_lt_zero _), hide (Below.refl _ _)⟩
  case round =>
    obtain ⟨k, rfl, rfl, hk, HA, HBl⟩ := hrel
    by_cases hlt : k < n
    · obtain ⟨b, off, rfl, hb, r1, r2⟩ := (H.out.below HBl.out).at (i := k) (by rw [HN.out]; exact hlt)
      have i0 : (0 : Int) ≤ (k : Int) := by omega
      have i1 : (k : Int) < (n : Int) := by omega
      have hklen : k < ls.length := by rw [HN.out]; exact hlt
      have HOK : Hid (lineB g (ls.getD k (0, 0)) = true → ∀ i, i < k + 1 → lineB g (ls.getD i (0, 0)) = true) := hide fun he i hi => by
        by_cases e : i = k
        · subst e; exact he
        · exact HA.out i (by omega)
      have HN1 := hide (fun (h : lineB g (ls.getD k (0, 0)) = false) => linesB_not hklen h)
      generalize hgx : ls.getD k (0, 0) = x at *
      obtain ⟨x1, x2⟩ := x
      have hBz := HBl.out.size
      have HBn := hide (HBl.out.trans (((Below.refl wr.heap.size wr).alloc (Nat.le_refl _) (.cells #[.int .i64 x1, .int .i64 x2] 85)).mono hBz))
      clear hgx hklen
      dsimp only at r1 r2
      cases hp : Pf.inB x1 0 ((g : Int) - 1)
      · have HF := hide (HN1.out (by simp [lineB, hp]))
        go_wp2_with ((go_at_call 81; refine (between_eq hp).mono ?_; rintro e w1 ⟨rfl, rfl⟩))
        go_ret
        exact ⟨ret_bool HF.out.symm, HBn.out⟩
      · cases hq : Pf.inB x2 1 99
        · have HF := hide (HN1.out (by simp [lineB, hq]))
          go_wp2_with (first
            | (go_at_call_of 81 (Value.int IntKind.i64 x1); refine (between_eq hp).mono ?_; rintro e w1 ⟨rfl, rfl⟩)
            | (go_at_call 81; refine (between_eq hq).mono ?_; rintro e w1 ⟨rfl, rfl⟩))
          go_ret
          exact ⟨ret_bool HF.out.symm, HBn.out⟩
        · have HY := hide (HOK.out (by simp [lineB, hp, hq]))
          go_wp2_with (first
            | (go_at_call_of 81 (Value.int IntKind.i64 x1); refine (between_eq hp).mono ?_; rintro e w1 ⟨rfl, rfl⟩)
            | (go_at_call 81; refine (between_eq hq).mono ?_; rintro e w1 ⟨rfl, rfl⟩))
          go_roundw
          case rel => exact ⟨k + 1, rfl, by go_num, by omega, HY, HBn⟩
          case measure => simp only [intOf]; omega
    · have hkn : k = n := by omega
      subst hkn
      have HF := hide (linesB_of (g := g) (ls := ls) (by rw [HN.out]; omega) (by rw [HN.out]; exact HA.out))
      go_wp2_with fail
      go_ret
      exact ⟨ret_bool HF.out.symm, HBl.out⟩
theorem al_any {a : Option Addr} {c g : Nat} {ls : List (Int × Int)} {w : World} (hg : g ≤ 12) (h : LRow w a ls) :
    Calls Tryz.prog 74 #[.slice a ls.length c, .int .i64 g] w fun e w' => e = .returned (.bool (linesB g ls)) ∧ Below w.heap.size w w' := by
  by_cases hn : ls.length ≤ 80
  · exact al_few rfl hn hg h
  · exact (al_many (by omega)).mono fun e w' ⟨he, hb⟩ => ⟨by rw [he, linesB_many (by omega)], hb⟩
end Go.Proofs.YtlbagigghpiifabGreat
