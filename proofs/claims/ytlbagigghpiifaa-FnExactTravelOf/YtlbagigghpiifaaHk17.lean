/-
  How far the picks of each slot are carried, of the program.
-/
import Derived.Test.YtlbagigghpiifaaHf17
import Derived.Test.YtlbagigghpiifaaJ
import Derived.Test.YtlbagigghpiifaaHb
import Derived.Deep.DeepCutAuto
import Derived.Deep.RegionHeld3
import Derived.BigQuiet
namespace Go.Proofs.Ytlbagigghpiifaa
open Go.RowKit

theorem makeFr_run (n : Nat) (hn : n ≤ 1048576) (w : World) : (Instr.makeSlice 53 (.int .i64 (n : Int)) (.int .i64 (n : Int))).run Try.prog w = .ok (.slice (some ⟨w.heap.size, 0, none⟩) n n) (w.alloc (.cells (madeCells #[.int .i64 0, .int .i64 0] (n * 2)) 30)) := by
  have h : (Try.prog.info? 30).map (fun i => (i.zero, i.size, i.bytes)) = some (some (.agg #[.int .i64 0, .int .i64 0]), 2, 16) := by kernel_rfl
  obtain ⟨i, hi, hzz⟩ := Option.map_eq_some_iff.1 h
  simp only [Prod.mk.injEq] at hzz
  obtain ⟨hz, hs, hb⟩ := hzz
  have := run_make (P := Try.prog) w 53 30 i _ Try.underlying53 hi hz .i64 .i64 (n : Int) (n : Int) (by omega) (by omega) (by rw [hb]; omega) (by omega)
  simpa [hs, Value.cells] using this
theorem madeFr_cell (w : World) (n j : Nat) (t : TypeId) (hj : j < n * 2) : (w.alloc (.cells (madeCells #[.int .i64 0, .int .i64 0] (n * 2)) t)).cell? ⟨w.heap.size, j, none⟩ = some (.int .i64 0) := by
  have h2 : j % 2 = 0 ∨ j % 2 = 1 := by omega
  have h3 : (madeCells #[.int .i64 0, .int .i64 0] (n * 2))[j]? = some (.int .i64 0) := by
    rcases h2 with h2 | h2 <;> simp [madeCells, hj, h2]
  simp only [World.cell?, (MapKept.heap_alloc w _).1]
  simpa using h3
theorem madeFr_frozen (w : World) (c : Array Value) (j : Nat) (t : TypeId) : (w.alloc (.cells c t)).frozen? ⟨w.heap.size, j, none⟩ = false := by simp [go_sem]
theorem setFr1 {W : World} {a : Addr} {v : Value} (h : (W.cell? a).isSome = true) : (W.setCell a v).cell? a = some v := by
  obtain ⟨u, hu⟩ := Option.isSome_iff_exists.1 h
  exact World.cell?_setCell_same _ _ _ hu
theorem putFr2 {W : World} {B i : Nat} {x y : Value} (h0 : (W.cell? ⟨B, i, none⟩).isSome = true) (h1 : (W.cell? ⟨B, i + 1, none⟩).isSome = true) :
    ((W.setCell ⟨B, i, none⟩ x).setCell ⟨B, i + 1, none⟩ y).cell? ⟨B, i, none⟩ = some x ∧ ((W.setCell ⟨B, i, none⟩ x).setCell ⟨B, i + 1, none⟩ y).cell? ⟨B, i + 1, none⟩ = some y ∧
    (∀ j, j ≠ i → j ≠ i + 1 → ((W.setCell ⟨B, i, none⟩ x).setCell ⟨B, i + 1, none⟩ y).cell? ⟨B, j, none⟩ = W.cell? ⟨B, j, none⟩) ∧ (∀ a, ((W.setCell ⟨B, i, none⟩ x).setCell ⟨B, i + 1, none⟩ y).frozen? a = W.frozen? a) := by
  refine ⟨?_, ?_, ?_, ?_⟩
  · rw [World.cell?_setCell_other _ _ _ _ (by simp)]; exact setFr1 h0
  · exact setFr1 (by rw [World.cell?_setCell_other _ _ _ _ (by simp)]; exact h1)
  · intro j hj hj'
    rw [World.cell?_setCell_other _ _ _ _ (fun e => hj' (by injection e with _ e2; exact e2.symm)), World.cell?_setCell_other _ _ _ _ (fun e => hj (by injection e with _ e2; exact e2.symm))]
  · intro a; rw [World.frozen?_setCell, World.frozen?_setCell]
/-- The fractions laid so far, in a block that is made for n of them. -/
structure Far (W : World) (G n : Nat) (L : List (Int × Int)) (k : Nat) : Prop where
  row : ∀ i, i < k → W.cell? ⟨G, i * 2, none⟩ = some (.int .i64 (L.getD i (0, 0)).1) ∧ W.cell? ⟨G, i * 2 + 1, none⟩ = some (.int .i64 (L.getD i (0, 0)).2)
  all : ∀ j, j < n * 2 → (W.cell? ⟨G, j, none⟩).isSome = true ∧ W.frozen? ⟨G, j, none⟩ = false
  lt : G < W.heap.size
theorem Far.start (w : World) (n : Nat) (L : List (Int × Int)) (t : TypeId) : Far (w.alloc (.cells (madeCells #[.int .i64 0, .int .i64 0] (n * 2)) t)) w.heap.size n L 0 :=
  ⟨fun i hi => absurd hi (Nat.not_lt_zero _), fun j hj => ⟨by rw [madeFr_cell _ _ _ _ hj]; rfl, madeFr_frozen _ _ _ _⟩, by simp⟩
theorem Far.below {W W' : World} {G n k : Nat} {L : List (Int × Int)} (h : Far W G n L k) (hb : Below W.heap.size W W') : Far W' G n L k :=
  ⟨fun i hi => ⟨(hb.cell (p := ⟨G, i * 2, none⟩) h.lt).trans (h.row i hi).1, (hb.cell (p := ⟨G, i * 2 + 1, none⟩) h.lt).trans (h.row i hi).2⟩, fun j hj => ⟨by rw [hb.cell (p := ⟨G, j, none⟩) h.lt]; exact (h.all j hj).1, (hb.frozen (p := ⟨G, j, none⟩) h.lt).trans (h.all j hj).2⟩, Nat.lt_of_lt_of_le h.lt hb.size⟩
theorem Far.put {W : World} {G n k : Nat} {L : List (Int × Int)} (h : Far W G n L k) (hk : k < n) {x y : Int} (hx : L.getD k (0, 0) = (x, y)) : Far ((W.setCell ⟨G, k * 2, none⟩ (.int .i64 x)).setCell ⟨G, k * 2 + 1, none⟩ (.int .i64 y)) G n L (k + 1) := by
  obtain ⟨p0, p1, p2, p3⟩ := putFr2 (W := W) (B := G) (i := k * 2) (x := .int .i64 x) (y := .int .i64 y) (h.all (k * 2) (by omega)).1 (h.all (k * 2 + 1) (by omega)).1
  refine ⟨fun i hi => ?_, fun j hj => ⟨?_, (p3 _).trans (h.all j hj).2⟩, by simpa using h.lt⟩
  · by_cases e : i = k
    · subst e; rw [hx]; exact ⟨p0, p1⟩
    · have := h.row i (by omega)
      exact ⟨(p2 _ (by omega) (by omega)).trans this.1, (p2 _ (by omega) (by omega)).trans this.2⟩
  · by_cases e : j = k * 2
    · subst e; rw [p0]; rfl
    · by_cases e2 : j = k * 2 + 1
      · subst e2; rw [p1]; rfl
      · rw [p2 j e e2]; exact (h.all j hj).1
theorem Far.rowAt {W : World} {G n : Nat} {L : List (Int × Int)} (h : Far W G n L n) (hl : L.length = n) : RowAt W G 0 L := fun i hi => by
  have := h.row i (by omega)
  rw [Nat.zero_add]
  exact this
def cv17 (w : World) (C k : Nat) : Value := (w.cell? ⟨C, k, none⟩).getD (.bool false)
theorem cv17_of {w : World} {C k : Nat} {v : Value} (h : w.cell? ⟨C, k, none⟩ = some v) : w.cell? ⟨C, k, none⟩ = some (cv17 w C k) := by rw [cv17, h]; rfl
set_option maxHeartbeats 4000000 in
theorem ca_any {a b o p : Option Addr} {n m c d e f : Nat} {ps cs ws os : List Int} {w : World} (HN : Hid (ws.length = n)) (HM : Hid (cs.length = m)) (HR : Hid (ps.length = m)) (HQ : Hid (os.length = n)) (hn10 : n ≤ 10)
    (HP : Hid (∀ i, i < m → 1 ≤ ps.getD i 0 ∧ ps.getD i 0 ≤ 30)) (HC : Hid (∀ i, i < m → 1 ≤ cs.getD i 0 ∧ cs.getD i 0 ≤ 10)) (HW : Hid (∀ i, i < n → 0 ≤ ws.getD i 0 ∧ ws.getD i 0 ≤ 1000)) (HO : Hid (∀ i, i < n → 0 ≤ os.getD i 0 ∧ os.getD i 0 < (m : Int)))
    (HA : Hid (ARow w a ws)) (HB : Hid (ARow w b cs)) (HOr : Hid (ARow w o os)) (HPr : Hid (ARow w p ps)) :
    Calls Try.prog 36 #[.agg #[.slice a n c, .slice b m d, .slice o n e, .slice p m f]] w fun e w' => ∃ g, e = .returned (.slice (some ⟨g, 0, none⟩) n n) ∧ Below w.heap.size w w' ∧ g < w'.heap.size ∧ RowAt w' g 0 (Hs.farL ps cs ws os) := by
  have hmk := makeFr_run n (by omega)
  have hb0 := below_new w (.cells #[.slice a n c, .slice b m d, .slice o n e, .slice p m f] 50)
  have hx0 := DyBox.new w (.slice a n c) (.slice b m d) (.slice o n e) (.slice p m f) 50
  have hz0 : (w.alloc (.cells #[.slice a n c, .slice b m d, .slice o n e, .slice p m f] 50)).heap.size = w.heap.size + 1 := by simp
  have hb1 := below_new (w.alloc (.cells #[.slice a n c, .slice b m d, .slice o n e, .slice p m f] 50)) (.cells (madeCells #[.int .i64 0, .int .i64 0] (n * 2)) 30)
  have HF1 := Far.start (w.alloc (.cells #[.slice a n c, .slice b m d, .slice o n e, .slice p m f] 50)) n (Hs.farL ps cs ws os) 30
  have HX1 := hide (hx0.below hb1)
  have HW1 := hide (hb0.trans (hb1.mono hb0.size))
  rw [hz0] at HF1
  have HF1 := hide HF1
  have HQL := hide (Hs.farL_len ps cs ws os)
  clear hb0 hx0 hb1
  go_enter Try.func36, Try.ntmps36
  go_wp2_with fail
  generalize hW1 : (w.alloc (.cells #[.slice a n c, .slice b m d, .slice o n e, .slice p m f] 50)).alloc (.cells (madeCells #[.int .i64 0, .int .i64 0] (n * 2)) 30) = W1 at *
  clear hW1 hmk hz0
  go_loopw [4, 5, 15] (fun _ _ s wr => ∃ (k : Nat), s = .int .i64 k ∧ k ≤ n ∧ Hid (Far wr (w.heap.size + 1) n (Hs.farL ps cs ws os) k) ∧ Hid (Below w.heap.size w wr) ∧ Hid (wr.cell? ⟨w.heap.size, 0, none⟩ = some (.slice a n c) ∧ wr.cell? ⟨w.heap.size, 1, none⟩ = some (.slice b m d) ∧ wr.cell? ⟨w.heap.size, 3, none⟩ = some (.slice p m f))) (fun _ _ s _ => n - (intOf s).toNat)
  case atStart => exact ⟨0, rfl, Nat.zero_le _, HF1, HW1, hide ⟨HX1.out.1, HX1.out.2.1, HX1.out.2.2.2.1⟩⟩
  case round =>
    clear HF1 HW1 HX1
    obtain ⟨k, rfl, hk, HFr, HBw, HX⟩ := hrel
    obtain ⟨x0, x1, x3⟩ := HX.out
    by_cases hlt : k < n
    · have i0 : (0 : Int) ≤ (k : Int) := by omega
      have i1 : (k : Int) < (n : Int) := by omega
      obtain ⟨hx0, hx1⟩ := HO.out k hlt
      obtain ⟨hw0, hw1⟩ := HW.out k hlt
      obtain ⟨bo, oo, rfl, r1⟩ := (HOr.out.below HBw.out).at (i := k) (by rw [HQ.out]; exact hlt)
      obtain ⟨ba, oa, rfl, r2⟩ := (HA.out.below HBw.out).at (i := k) (by rw [HN.out]; exact hlt)
      have HL := hide (Hs.farL_at ps cs ws os (s := k) (by rw [HQ.out]; exact hlt))
      generalize hxx : os.getD k 0 = x at *
      obtain ⟨j, rfl⟩ := Int.eq_ofNat_of_zero_le hx0
      have hjm : j < m := by omega
      rw [Int.toNat_natCast] at HL
      obtain ⟨bp, op, rfl, r3⟩ := (HPr.out.below HBw.out).at (i := j) (by rw [HR.out]; exact hjm)
      obtain ⟨bb, ob, rfl, r4⟩ := (HB.out.below HBw.out).at (i := j) (by rw [HM.out]; exact hjm)
      obtain ⟨p0, p1⟩ := HP.out j hjm
      obtain ⟨c0, c1⟩ := HC.out j hjm
      have j0 : (0 : Int) ≤ (j : Int) := by omega
      have j1 : (j : Int) < (m : Int) := by omega
      generalize hY0 : ws.getD k 0 = y at *
      generalize hZ0 : ps.getD j 0 = z at *
      generalize hV0 : cs.getD j 0 = v at *
      have hyz0 : 0 ≤ y * z := Int.mul_nonneg (by omega) (by omega)
      have hyz1 : y * z ≤ 1000 * 30 := Int.mul_le_mul hw1 p1 (by omega) (by omega)
      have mm := wrap_mul y z (by omega) (by omega) (by omega) (by omega)
      have HCL := hide fun (W : World) => lowest_pos (y * z) v W (by omega) (by omega) (by omega) (by omega)
      have hml : Hid ((Hs.farL ps cs ws os).getD k (0, 0) = (Fr.mkN (y * z) v, Fr.mkD (y * z) v)) := hide HL.out
      generalize Fr.mkN (y * z) v = X at *
      generalize Fr.mkD (y * z) v = Y at *
      have HRD : Hid (∀ W, Below w.heap.size w W → W.cell? ⟨ba, oa + k, none⟩ = some (.int .i64 y) ∧ W.cell? ⟨bp, op + j, none⟩ = some (.int .i64 z) ∧ W.cell? ⟨bb, ob + j, none⟩ = some (.int .i64 v)) := hide fun W hb => by
        obtain ⟨_, _, e1, q1⟩ := (HA.out.below hb).at (i := k) (by rw [HN.out]; exact hlt)
        cases e1
        obtain ⟨_, _, e2, q2⟩ := (HPr.out.below hb).at (i := j) (by rw [HR.out]; exact hjm)
        cases e2
        obtain ⟨_, _, e3, q3⟩ := (HB.out.below hb).at (i := j) (by rw [HM.out]; exact hjm)
        cases e3
        rw [hY0] at q1
        rw [hZ0] at q2
        rw [hV0] at q3
        exact ⟨q1, q2, q3⟩
      have HST : Hid (∀ W V, ((W.cell? ⟨w.heap.size, 0, none⟩ = some (.slice (some ⟨ba, oa, none⟩) n c) ∧ W.cell? ⟨w.heap.size, 1, none⟩ = some (.slice (some ⟨bb, ob, none⟩) m d) ∧ W.cell? ⟨w.heap.size, 3, none⟩ = some (.slice (some ⟨bp, op, none⟩) m f)) ∧ Below w.heap.size w W ∧ w.heap.size + 1 < W.heap.size) → Below W.heap.size W V → ((V.cell? ⟨w.heap.size, 0, none⟩ = some (.slice (some ⟨ba, oa, none⟩) n c) ∧ V.cell? ⟨w.heap.size, 1, none⟩ = some (.slice (some ⟨bb, ob, none⟩) m d) ∧ V.cell? ⟨w.heap.size, 3, none⟩ = some (.slice (some ⟨bp, op, none⟩) m f)) ∧ Below w.heap.size w V ∧ w.heap.size + 1 < V.heap.size)) := hide fun W V h hb => by
        obtain ⟨⟨a0, a1, a3⟩, b1, b2⟩ := h
        have hBs : w.heap.size < W.heap.size := by omega
        exact ⟨⟨(hb.cell (p := ⟨w.heap.size, 0, none⟩) hBs).trans a0, (hb.cell (p := ⟨w.heap.size, 1, none⟩) hBs).trans a1, (hb.cell (p := ⟨w.heap.size, 3, none⟩) hBs).trans a3⟩, b1.trans (hb.mono b1.size), Nat.lt_of_lt_of_le b2 hb.size⟩
      have HSC : Hid (∀ W V1 V2, ((W.cell? ⟨w.heap.size, 0, none⟩ = some (.slice (some ⟨ba, oa, none⟩) n c) ∧ W.cell? ⟨w.heap.size, 1, none⟩ = some (.slice (some ⟨bb, ob, none⟩) m d) ∧ W.cell? ⟨w.heap.size, 3, none⟩ = some (.slice (some ⟨bp, op, none⟩) m f)) ∧ Below w.heap.size w W ∧ w.heap.size + 1 < W.heap.size) → ((((W.setCell ⟨w.heap.size + 1, k * 2, none⟩ V1).setCell ⟨w.heap.size + 1, k * 2 + 1, none⟩ V2).cell? ⟨w.heap.size, 0, none⟩ = some (.slice (some ⟨ba, oa, none⟩) n c) ∧ ((W.setCell ⟨w.heap.size + 1, k * 2, none⟩ V1).setCell ⟨w.heap.size + 1, k * 2 + 1, none⟩ V2).cell? ⟨w.heap.size, 1, none⟩ = some (.slice (some ⟨bb, ob, none⟩) m d) ∧ ((W.setCell ⟨w.heap.size + 1, k * 2, none⟩ V1).setCell ⟨w.heap.size + 1, k * 2 + 1, none⟩ V2).cell? ⟨w.heap.size, 3, none⟩ = some (.slice (some ⟨bp, op, none⟩) m f)) ∧ Below w.heap.size w ((W.setCell ⟨w.heap.size + 1, k * 2, none⟩ V1).setCell ⟨w.heap.size + 1, k * 2 + 1, none⟩ V2) ∧ w.heap.size + 1 < ((W.setCell ⟨w.heap.size + 1, k * 2, none⟩ V1).setCell ⟨w.heap.size + 1, k * 2 + 1, none⟩ V2).heap.size)) := hide fun W V1 V2 h => by
        obtain ⟨⟨a0, a1, a3⟩, b1, b2⟩ := h
        have hb' := (b1.setCell (p := ⟨w.heap.size + 1, k * 2, none⟩) (by show w.heap.size ≤ w.heap.size + 1; omega) V1).setCell (p := ⟨w.heap.size + 1, k * 2 + 1, none⟩) (by show w.heap.size ≤ w.heap.size + 1; omega) V2
        have hne : ∀ i, ((W.setCell ⟨w.heap.size + 1, k * 2, none⟩ V1).setCell ⟨w.heap.size + 1, k * 2 + 1, none⟩ V2).cell? ⟨w.heap.size, i, none⟩ = W.cell? ⟨w.heap.size, i, none⟩ := fun i => by
          rw [World.cell?_setCell_other _ _ _ _ (by simp), World.cell?_setCell_other _ _ _ _ (by simp)]
        exact ⟨⟨(hne 0).trans a0, (hne 1).trans a1, (hne 3).trans a3⟩, hb', by simpa using b2⟩
      have hS0 := HST.out wr wr.drew ⟨⟨x0, x1, x3⟩, HBw.out, HFr.out.lt⟩ (Below.refl _ _).drew
      have HFd := hide (HFr.out.below (Below.refl _ _).drew)
      have mi : IntKind.i64.wrap (y * z) = y * z := by rw [IntKind.wrap_i64]; omega
      clear r2 r3 r4 HL hyz0 hyz1 x0 x1 x3 hxx hY0 hZ0 hV0
      go_upto_region 5 with fail
      refine wp_region_noPanic ?_
      refine wp_region_held_drew (S := fun w' => ((w'.cell? ⟨w.heap.size, 0, none⟩ = some (.slice (some ⟨ba, oa, none⟩) n c) ∧ w'.cell? ⟨w.heap.size, 1, none⟩ = some (.slice (some ⟨bb, ob, none⟩) m d) ∧ w'.cell? ⟨w.heap.size, 3, none⟩ = some (.slice (some ⟨bp, op, none⟩) m f)) ∧ Below w.heap.size w w' ∧ w.heap.size + 1 < w'.heap.size)) (by kernel_rfl) hS0 (fun hHeld => ?_)
      refine wpAnyH_take (i := 0) (oi := ⟨some 20, _, _, _, _, none⟩) (v := .slice (some ⟨w.heap.size + 1, 0, none⟩) n n) rfl (by kernel_rfl) (by kernel_rfl) (by kernel_rfl) (fun _ _ _ h => h) (Or.inl ⟨by rfl, fun w' hSw => by clear hSw; go_simp⟩) hHeld ?_
      simp only [Act.put, List.setIfInBounds_toArray, List.set_cons_zero, List.set_cons_succ]
      refine wpAnyH_take (i := 1) (oi := ⟨some 21, _, _, _, _, none⟩) (v := .int .i64 (k : Int)) rfl (by kernel_rfl) (by kernel_rfl) (by kernel_rfl) (fun _ _ _ h => h) (Or.inl ⟨by rfl, fun w' hSw => by clear hSw; go_simp⟩) hHeld ?_
      simp only [Act.put, List.setIfInBounds_toArray, List.set_cons_zero, List.set_cons_succ]
      refine wpAnyH_take (i := 2) (oi := ⟨some 22, _, _, _, _, none⟩) (v := .pointer (some ⟨w.heap.size, 0, none⟩)) rfl (by kernel_rfl) (by kernel_rfl) (by kernel_rfl) (fun _ _ _ h => h) (Or.inl ⟨by rfl, fun w' hSw => by clear hSw; go_simp⟩) hHeld ?_
      simp only [Act.put, List.setIfInBounds_toArray, List.set_cons_zero, List.set_cons_succ]
      refine wpAnyH_take (i := 3) (oi := ⟨some 23, _, _, _, _, none⟩) (v := .pointer (some ⟨w.heap.size, 0, none⟩)) rfl (by kernel_rfl) (by kernel_rfl) (by kernel_rfl) (fun _ _ _ h => h) (Or.inl ⟨by rfl, fun w' hSw => by clear hSw; go_simp⟩) hHeld ?_
      simp only [Act.put, List.setIfInBounds_toArray, List.set_cons_zero, List.set_cons_succ]
      refine wpAnyH_take (i := 4) (oi := ⟨some 24, _, _, _, _, none⟩) (v := .slice (some ⟨ba, oa, none⟩) n c) rfl (by kernel_rfl) (by kernel_rfl) (by kernel_rfl) (fun _ _ _ h => h) (Or.inl ⟨by rfl, fun w' hSw => by obtain ⟨⟨x0, x1, x3⟩, _, _⟩ := hSw; go_simp⟩) hHeld ?_
      simp only [Act.put, List.setIfInBounds_toArray, List.set_cons_zero, List.set_cons_succ]
      refine wpAnyH_take (i := 5) (oi := ⟨some 25, _, _, _, _, none⟩) (v := .int .i64 (k : Int)) rfl (by kernel_rfl) (by kernel_rfl) (by kernel_rfl) (fun _ _ _ h => h) (Or.inl ⟨by rfl, fun w' hSw => by clear hSw; go_simp⟩) hHeld ?_
      simp only [Act.put, List.setIfInBounds_toArray, List.set_cons_zero, List.set_cons_succ]
      refine wpAnyH_take (i := 6) (oi := ⟨some 26, _, _, _, _, none⟩) (v := .pointer (some ⟨ba, oa + k, none⟩)) rfl (by kernel_rfl) (by kernel_rfl) (by kernel_rfl) (fun _ _ _ h => h) (Or.inl ⟨by rfl, fun w' hSw => by clear hSw; go_simp⟩) hHeld ?_
      simp only [Act.put, List.setIfInBounds_toArray, List.set_cons_zero, List.set_cons_succ]
      refine wpAnyH_take (i := 7) (oi := ⟨some 27, _, _, _, _, none⟩) (v := .int .i64 y) rfl (by kernel_rfl) (by kernel_rfl) (by kernel_rfl) (fun _ _ _ h => h) (Or.inl ⟨by rfl, fun w' hSw => by obtain ⟨_, hbw, _⟩ := hSw; obtain ⟨q1, q2, q3⟩ := HRD.out _ hbw; clear hbw; go_simp⟩) hHeld ?_
      simp only [Act.put, List.setIfInBounds_toArray, List.set_cons_zero, List.set_cons_succ]
      refine wpAnyH_take (i := 8) (oi := ⟨some 28, _, _, _, _, none⟩) (v := .pointer (some ⟨w.heap.size, 3, none⟩)) rfl (by kernel_rfl) (by kernel_rfl) (by kernel_rfl) (fun _ _ _ h => h) (Or.inl ⟨by rfl, fun w' hSw => by clear hSw; go_simp⟩) hHeld ?_
      simp only [Act.put, List.setIfInBounds_toArray, List.set_cons_zero, List.set_cons_succ]
      refine wpAnyH_take (i := 9) (oi := ⟨some 29, _, _, _, _, none⟩) (v := .slice (some ⟨bp, op, none⟩) m f) rfl (by kernel_rfl) (by kernel_rfl) (by kernel_rfl) (fun _ _ _ h => h) (Or.inl ⟨by rfl, fun w' hSw => by obtain ⟨⟨x0, x1, x3⟩, _, _⟩ := hSw; go_simp⟩) hHeld ?_
      simp only [Act.put, List.setIfInBounds_toArray, List.set_cons_zero, List.set_cons_succ]
      refine wpAnyH_take (i := 10) (oi := ⟨some 30, _, _, _, _, none⟩) (v := .int .i64 (j : Int)) rfl (by kernel_rfl) (by kernel_rfl) (by kernel_rfl) (fun _ _ _ h => h) (Or.inl ⟨by rfl, fun w' hSw => by clear hSw; go_simp⟩) hHeld ?_
      simp only [Act.put, List.setIfInBounds_toArray, List.set_cons_zero, List.set_cons_succ]
      refine wpAnyH_take (i := 11) (oi := ⟨some 31, _, _, _, _, none⟩) (v := .pointer (some ⟨bp, op + j, none⟩)) rfl (by kernel_rfl) (by kernel_rfl) (by kernel_rfl) (fun _ _ _ h => h) (Or.inl ⟨by rfl, fun w' hSw => by clear hSw; go_simp⟩) hHeld ?_
      simp only [Act.put, List.setIfInBounds_toArray, List.set_cons_zero, List.set_cons_succ]
      refine wpAnyH_take (i := 12) (oi := ⟨some 32, _, _, _, _, none⟩) (v := .int .i64 z) rfl (by kernel_rfl) (by kernel_rfl) (by kernel_rfl) (fun _ _ _ h => h) (Or.inl ⟨by rfl, fun w' hSw => by obtain ⟨_, hbw, _⟩ := hSw; obtain ⟨q1, q2, q3⟩ := HRD.out _ hbw; clear hbw; go_simp⟩) hHeld ?_
      simp only [Act.put, List.setIfInBounds_toArray, List.set_cons_zero, List.set_cons_succ]
      refine wpAnyH_take (i := 13) (oi := ⟨some 33, _, _, _, _, none⟩) (v := .int .i64 (y * z)) rfl (by kernel_rfl) (by kernel_rfl) (by kernel_rfl) (fun _ _ _ h => h) (Or.inl ⟨by rfl, fun w' hSw => by clear hSw; go_simp⟩) hHeld ?_
      simp only [Act.put, List.setIfInBounds_toArray, List.set_cons_zero, List.set_cons_succ]
      refine wpAnyH_take (i := 14) (oi := ⟨some 34, _, _, _, _, none⟩) (v := .pointer (some ⟨w.heap.size, 0, none⟩)) rfl (by kernel_rfl) (by kernel_rfl) (by kernel_rfl) (fun _ _ _ h => h) (Or.inl ⟨by rfl, fun w' hSw => by clear hSw; go_simp⟩) hHeld ?_
      simp only [Act.put, List.setIfInBounds_toArray, List.set_cons_zero, List.set_cons_succ]
      refine wpAnyH_take (i := 15) (oi := ⟨some 35, _, _, _, _, none⟩) (v := .pointer (some ⟨w.heap.size, 1, none⟩)) rfl (by kernel_rfl) (by kernel_rfl) (by kernel_rfl) (fun _ _ _ h => h) (Or.inl ⟨by rfl, fun w' hSw => by clear hSw; go_simp⟩) hHeld ?_
      simp only [Act.put, List.setIfInBounds_toArray, List.set_cons_zero, List.set_cons_succ]
      refine wpAnyH_take (i := 16) (oi := ⟨some 36, _, _, _, _, none⟩) (v := .slice (some ⟨bb, ob, none⟩) m d) rfl (by kernel_rfl) (by kernel_rfl) (by kernel_rfl) (fun _ _ _ h => h) (Or.inl ⟨by rfl, fun w' hSw => by obtain ⟨⟨x0, x1, x3⟩, _, _⟩ := hSw; go_simp⟩) hHeld ?_
      simp only [Act.put, List.setIfInBounds_toArray, List.set_cons_zero, List.set_cons_succ]
      refine wpAnyH_take (i := 17) (oi := ⟨some 37, _, _, _, _, none⟩) (v := .int .i64 (j : Int)) rfl (by kernel_rfl) (by kernel_rfl) (by kernel_rfl) (fun _ _ _ h => h) (Or.inl ⟨by rfl, fun w' hSw => by clear hSw; go_simp⟩) hHeld ?_
      simp only [Act.put, List.setIfInBounds_toArray, List.set_cons_zero, List.set_cons_succ]
      refine wpAnyH_take (i := 18) (oi := ⟨some 38, _, _, _, _, none⟩) (v := .pointer (some ⟨bb, ob + j, none⟩)) rfl (by kernel_rfl) (by kernel_rfl) (by kernel_rfl) (fun _ _ _ h => h) (Or.inl ⟨by rfl, fun w' hSw => by clear hSw; go_simp⟩) hHeld ?_
      simp only [Act.put, List.setIfInBounds_toArray, List.set_cons_zero, List.set_cons_succ]
      refine wpAnyH_take (i := 19) (oi := ⟨some 39, _, _, _, _, none⟩) (v := .int .i64 v) rfl (by kernel_rfl) (by kernel_rfl) (by kernel_rfl) (fun _ _ _ h => h) (Or.inl ⟨by rfl, fun w' hSw => by obtain ⟨_, hbw, _⟩ := hSw; obtain ⟨q1, q2, q3⟩ := HRD.out _ hbw; clear hbw; go_simp⟩) hHeld ?_
      simp only [Act.put, List.setIfInBounds_toArray, List.set_cons_zero, List.set_cons_succ]
      refine wpAnyH_ready (rs := [20]) (by kernel_rfl) (by simp) ?_
      refine AllReadyH.cons (o := ⟨some 40, _, _, _, _, none⟩) rfl (fun K hK => ?_) AllReadyH.nil
      go_simp
      refine (HCL.out _).mono ?_
      rintro _ w5 ⟨rfl, hb5⟩
      have HF5 := hide (HFd.out.below hb5)
      have hS5 := HST.out _ _ hHeld hb5
      refine hK.out _ _ hS5 (fun hHeld => ?_)
      clear hK K hb5
      obtain ⟨v0, hv0⟩ := Option.isSome_iff_exists.1 (HF5.out.all (k * 2) (by omega)).1
      obtain ⟨v1, hv1⟩ := Option.isSome_iff_exists.1 (HF5.out.all (k * 2 + 1) (by omega)).1
      have f0 := (HF5.out.all (k * 2) (by omega)).2
      have f1 := (HF5.out.all (k * 2 + 1) (by omega)).2
      refine wpAnyH_take (i := 21) (oi := ⟨some 41, _, _, _, _, none⟩) (v := .pointer (some ⟨w.heap.size + 1, k * 2, none⟩)) rfl (by kernel_rfl) (by kernel_rfl) (by kernel_rfl) (fun _ _ _ h => h) (Or.inl ⟨by rfl, fun w' hSw => by clear hSw; go_simp⟩) hHeld ?_
      simp only [Act.put, List.setIfInBounds_toArray, List.set_cons_zero, List.set_cons_succ]
      refine wpAnyH_ready (rs := [22]) (by kernel_rfl) (by simp) ?_
      refine AllReadyH.cons (o := ⟨none, _, _, _, _, none⟩) rfl (fun K hK => ?_) AllReadyH.nil
      go_simp
      refine hK.out _ _ (HSC.out _ _ _ hHeld) (fun hHeld2 => ?_)
      refine wpAnyH_done (by kernel_rfl) ?_ _
      refine NoPanic.normal ?_
      have HF6 := hide (HF5.out.put hlt hml.out)
      have HB6 := hide hHeld2.2.1
      have HX6 := hide hHeld2.1
      clear hK K hHeld hHeld2 hv0 hv1 f0 f1 hS5 hS0
      go_wp2_with fail
      go_roundw
      case rel => exact ⟨k + 1, by go_num, by omega, HF6, HB6, HX6⟩
      case measure => simp only [intOf]; omega
    · have hke : k = n := by omega
      subst hke
      clear x0 x1 x3
      have hrow := HFr.out.rowAt (HQL.out.trans HQ.out)
      go_wp2_with fail
      go_ret
      exact ⟨_, rfl, HBw.out, HFr.out.lt, hrow⟩
end Go.Proofs.Ytlbagigghpiifaa
