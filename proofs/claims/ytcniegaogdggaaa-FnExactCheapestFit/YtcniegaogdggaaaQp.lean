/-
  Prices (two lists) in memory; what szPrices, toPrices, eqPrices, markPrices and heldPrices of the laws answer over them.
-/
import Derived.Test.YtcniegaogdggaaaPn
import Derived.Deep.RegionHeld3
namespace Go.Proofs.Ytcniegaogdggaaa
open Go.RowKit


set_option maxHeartbeats 1000000 in
theorem szPr_yes {a b : Option Addr} {n m c d : Nat} {left : Int} {w : World} (h0 : 0 ≤ left) (h1 : left ≤ 1048576) (h : (n : Int) + m ≤ left) :
    Calls Try.prog 26 #[.agg #[.slice a n c, .slice b m d], .int .i64 left] w fun e w' => e = .returned (.int .i64 (left - n - m)) ∧ Below w.heap.size w w' := by
  have hz1 : ¬ left - (n : Int) < 0 := by omega
  have hz2 : ¬ left - (n : Int) - (m : Int) < 0 := by omega
  go_enter Try.func26, Try.ntmps26
  go_wp2_with fail
  refine (szI_yes a n c left _ h0 h1 (by omega)).mono ?_
  rintro e w1 ⟨rfl, rfl⟩
  go_wp2_with fail
  refine (szI_yes b m d _ _ (by omega) (by omega) (by omega)).mono ?_
  rintro e w1 ⟨rfl, rfl⟩
  go_wp2_with fail
  go_ret
  exact ⟨rfl, (Below.refl _ _).alloc (Nat.le_refl _) _⟩
set_option maxHeartbeats 1000000 in
theorem szPr_no1 {a b : Option Addr} {n m c d : Nat} {left : Int} {w : World} (h0 : 0 ≤ left) (h1 : left ≤ 1048576) (hm : n ≤ maxLen) (h : left < (n : Int)) :
    Calls Try.prog 26 #[.agg #[.slice a n c, .slice b m d], .int .i64 left] w fun e w' => e = .returned (.int .i64 (-1)) ∧ Below w.heap.size w w' := by
  go_enter Try.func26, Try.ntmps26
  go_wp2_with fail
  refine (szI_no a n c left _ h0 h1 hm h).mono ?_
  rintro e w1 ⟨rfl, rfl⟩
  go_wp2_with fail
  go_ret
  exact ⟨rfl, (Below.refl _ _).alloc (Nat.le_refl _) _⟩
set_option maxHeartbeats 1000000 in
theorem szPr_no2 {a b : Option Addr} {n m c d : Nat} {left : Int} {w : World} (h0 : 0 ≤ left) (h1 : left ≤ 1048576) (hn : (n : Int) ≤ left) (hm : m ≤ maxLen) (h : left < (n : Int) + m) :
    Calls Try.prog 26 #[.agg #[.slice a n c, .slice b m d], .int .i64 left] w fun e w' => e = .returned (.int .i64 (-1)) ∧ Below w.heap.size w w' := by
  have hz1 : ¬ left - (n : Int) < 0 := by omega
  go_enter Try.func26, Try.ntmps26
  go_wp2_with fail
  refine (szI_yes a n c left _ h0 h1 (by omega)).mono ?_
  rintro e w1 ⟨rfl, rfl⟩
  go_wp2_with fail
  refine (szI_no b m d _ _ (by omega) (by omega) hm (by omega)).mono ?_
  rintro e w1 ⟨rfl, rfl⟩
  go_wp2_with fail
  go_ret
  exact ⟨rfl, (Below.refl _ _).alloc (Nat.le_refl _) _⟩
theorem szPr_no {a b : Option Addr} {n m c d : Nat} {left : Int} {w : World} (h0 : 0 ≤ left) (h1 : left ≤ 1048576) (hn : n ≤ maxLen) (hm : m ≤ maxLen) (h : left < (n : Int) + m) :
    Calls Try.prog 26 #[.agg #[.slice a n c, .slice b m d], .int .i64 left] w fun e w' => e = .returned (.int .i64 (-1)) ∧ Below w.heap.size w w' := by
  by_cases h2 : (n : Int) ≤ left
  · exact szPr_no2 h0 h1 h2 hm h
  · exact szPr_no1 h0 h1 hn (by omega)

set_option maxHeartbeats 2000000 in
theorem toPr_any {a b : Option Addr} {n m c d : Nat} {ps fs : List Int} {w : World} (hn : ps.length = n) (hm : fs.length = m) (h1 : n ≤ 1048576) (h2 : m ≤ 1048576) (ha : ARow w a ps) (hb : ARow w b fs) :
    Calls Try.prog 28 #[.agg #[.slice a n c, .slice b m d]] w fun e w' => ∃ x y, e = .returned (.agg #[.slice (some ⟨x, 0, none⟩) n n, .slice (some ⟨y, 0, none⟩) m m]) ∧ Below w.heap.size w w' ∧ w.heap.size ≤ x ∧ x < y ∧ y < w'.heap.size ∧
      w'.ownsRow w.heap.size 3 1 (.slice (some ⟨x, 0, none⟩) n n) n (ints ps) ∧ w'.ownsRow w.heap.size 3 1 (.slice (some ⟨y, 0, none⟩) m m) m (ints fs) := by
  have HA := hide ha
  have HB := hide hb
  have HN := hide hn
  have HM := hide hm
  clear ha hb hn hm
  go_enter Try.func28, Try.ntmps28
  go_wp2_with fail
  refine (toI_own a c n ps _ HN.out h1 (((HA.out.alloc _).alloc _).alloc _)).mono ?_
  rintro e w1 ⟨rfl, hb1, hz1, own1⟩
  simp only [World.size_alloc] at hb1 hz1 own1
  have hBw : Below w.heap.size w w1 := ((((Below.refl _ _).alloc (Nat.le_refl _) _).alloc (by simp) _).alloc (by simp; omega) _).trans (hb1.mono (by omega))
  have q1 : w1.cell? ⟨w.heap.size, 1, none⟩ = some (.slice b m d) := (hb1.cell (p := ⟨w.heap.size, 1, none⟩) (by show w.heap.size < _; omega)).trans (by simp [go_sem])
  have q2 : w1.cell? ⟨w.heap.size + 1 + 1, 0, none⟩ = some (.slice none 0 0) := (hb1.cell (p := ⟨w.heap.size + 1 + 1, 0, none⟩) (by show w.heap.size + 1 + 1 < _; omega)).trans (by simp [go_sem])
  have q3 : w1.cell? ⟨w.heap.size + 1 + 1, 1, none⟩ = some (.slice none 0 0) := (hb1.cell (p := ⟨w.heap.size + 1 + 1, 1, none⟩) (by show w.heap.size + 1 + 1 < _; omega)).trans (by simp [go_sem])
  have q4 : w1.cell? ⟨w.heap.size + 1, 0, none⟩ = some (.slice none 0 0) := (hb1.cell (p := ⟨w.heap.size + 1, 0, none⟩) (by show w.heap.size + 1 < _; omega)).trans (by simp [go_sem])
  have q5 : w1.cell? ⟨w.heap.size + 1, 1, none⟩ = some (.slice none 0 0) := (hb1.cell (p := ⟨w.heap.size + 1, 1, none⟩) (by show w.heap.size + 1 < _; omega)).trans (by simp [go_sem])
  have g2 : ∀ i, w1.frozen? ⟨w.heap.size + 1 + 1, i, none⟩ = false := fun i => (hb1.frozen (p := ⟨w.heap.size + 1 + 1, i, none⟩) (by show w.heap.size + 1 + 1 < _; omega)).trans (by simp [go_sem])
  have g4 : ∀ i, w1.frozen? ⟨w.heap.size + 1, i, none⟩ = false := fun i => (hb1.frozen (p := ⟨w.heap.size + 1, i, none⟩) (by show w.heap.size + 1 < _; omega)).trans (by simp [go_sem])
  have hBB := hb1
  go_wp2_with fail
  have hB2 : Below w.heap.size w (w1.setCell ⟨w.heap.size + 1 + 1, 0, none⟩ (.slice (some ⟨w.heap.size + 1 + 1 + 1, 0, none⟩) n n)) := hBw.setCell (by show w.heap.size ≤ w.heap.size + 1 + 1; omega) _
  refine (toI_own b d m fs _ HM.out h2 (HB.out.below hB2)).mono ?_
  rintro e w2 ⟨rfl, hb2, hz2, own2⟩
  simp only [World.size_setCell] at hb2 hz2 own2
  have c0 : ∀ x i, x < w1.heap.size → w2.cell? ⟨x, i, none⟩ = (w1.setCell ⟨w.heap.size + 1 + 1, 0, none⟩ (.slice (some ⟨w.heap.size + 1 + 1 + 1, 0, none⟩) n n)).cell? ⟨x, i, none⟩ := fun x i hx => hb2.cell (p := ⟨x, i, none⟩) hx
  have f0 : ∀ x i, x < w1.heap.size → w2.frozen? ⟨x, i, none⟩ = w1.frozen? ⟨x, i, none⟩ := fun x i hx => (hb2.frozen (p := ⟨x, i, none⟩) hx).trans (World.frozen?_setCell ..)
  have p0 : w2.cell? ⟨w.heap.size + 1 + 1, 0, none⟩ = some (.slice (some ⟨w.heap.size + 1 + 1 + 1, 0, none⟩) n n) := (c0 _ _ (by omega)).trans (World.cell?_setCell_same _ _ _ q2)
  have p1 : w2.cell? ⟨w.heap.size + 1 + 1, 1, none⟩ = some (.slice none 0 0) := (c0 _ _ (by omega)).trans ((World.cell?_setCell_other _ _ _ _ (by simp)).trans q3)
  have p2 : w2.cell? ⟨w.heap.size + 1, 0, none⟩ = some (.slice none 0 0) := (c0 _ _ (by omega)).trans ((World.cell?_setCell_other _ _ _ _ (by simp)).trans q4)
  have p3 : w2.cell? ⟨w.heap.size + 1, 1, none⟩ = some (.slice none 0 0) := (c0 _ _ (by omega)).trans ((World.cell?_setCell_other _ _ _ _ (by simp)).trans q5)
  have g0 : ∀ i, w2.frozen? ⟨w.heap.size + 1 + 1, i, none⟩ = false := fun i => (f0 _ _ (by omega)).trans (g2 i)
  have g1 : ∀ i, w2.frozen? ⟨w.heap.size + 1, i, none⟩ = false := fun i => (f0 _ _ (by omega)).trans (g4 i)
  have own1' := owns_keep (ownsRow_setCell_below own1 (a := ⟨w.heap.size + 1 + 1, 0, none⟩) (by show w.heap.size + 1 + 1 < _; omega) (.slice (some ⟨w.heap.size + 1 + 1 + 1, 0, none⟩) n n)) (hb2.block (w.heap.size + 1 + 1 + 1) hz1)
  have hB3 : Below w.heap.size w w2 := hB2.trans (hb2.mono (by omega))
  have HO1 := hide own1'
  have HO2 := hide own2
  clear q1 q2 q3 q4 q5 g2 g4 c0 f0 own1 own1' own2
  go_wp2_with fail
  refine bodyPost_ret (v := .agg #[.slice (some ⟨w.heap.size + 1 + 1 + 1, 0, none⟩) n n, .slice (some ⟨w1.heap.size, 0, none⟩) m m]) (by simp [results, Try.results28, go_sem, p2, p3]) rfl ⟨w.heap.size + 1 + 1 + 1, w1.heap.size, rfl, ?_, by omega, by omega, by simpa using hz2, ?_, ?_⟩
  · exact ((hB3.setCell (by show w.heap.size ≤ w.heap.size + 1 + 1; omega) _).setCell (by show w.heap.size ≤ w.heap.size + 1; omega) _).setCell (by show w.heap.size ≤ w.heap.size + 1; omega) _
  · exact owns_low (ownsRow_setCell_below (ownsRow_setCell_below (ownsRow_setCell_below HO1.out (by show w.heap.size + 1 + 1 < _; omega) _) (by show w.heap.size + 1 < _; omega) _) (by show w.heap.size + 1 < _; omega) _) (by omega)
  · exact owns_low (ownsRow_setCell_below (ownsRow_setCell_below (ownsRow_setCell_below HO2.out (by show w.heap.size + 1 + 1 < _; omega) _) (by show w.heap.size + 1 < _; omega) _) (by show w.heap.size + 1 < _; omega) _) (by omega)

set_option maxHeartbeats 2000000 in
theorem eqPr_any {a b a' b' : Option Addr} {n m c d c' d' : Nat} {ps fs : List Int} {w : World} (hn : ps.length = n) (hm : fs.length = m) (h1 : n ≤ 1048576) (h2 : m ≤ 1048576) (ha : ARow w a ps) (hb : ARow w b fs) (ha' : ARow w a' ps) (hb' : ARow w b' fs) :
    Calls Try.prog 17 #[.agg #[.slice a n c, .slice b m d], .agg #[.slice a' n c', .slice b' m d']] w fun e w' => e = .returned (.bool true) ∧ Below w.heap.size w w' := by
  have HA := hide ((ha.alloc (.cells #[.slice a n c, .slice b m d] 29)).alloc (.cells #[.slice a' n c', .slice b' m d'] 29))
  have HB := hide ((hb.alloc (.cells #[.slice a n c, .slice b m d] 29)).alloc (.cells #[.slice a' n c', .slice b' m d'] 29))
  have HA' := hide ((ha'.alloc (.cells #[.slice a n c, .slice b m d] 29)).alloc (.cells #[.slice a' n c', .slice b' m d'] 29))
  have HB' := hide ((hb'.alloc (.cells #[.slice a n c, .slice b m d] 29)).alloc (.cells #[.slice a' n c', .slice b' m d'] 29))
  clear ha hb ha' hb'
  go_enter Try.func17, Try.ntmps17
  go_wp2_with fail
  refine (eqI_any hn h1 HA.out HA'.out).mono ?_
  rintro e w1 ⟨rfl, q, rfl⟩
  go_wp2_with fail
  refine (eqI_any hm h2 (HB.out.drewN q) (HB'.out.drewN q)).mono ?_
  rintro e w1 ⟨rfl, q', rfl⟩
  go_wp2_with fail
  go_ret
  have hB := below_drewN (below_drewN (((Below.refl w.heap.size w).alloc (Nat.le_refl _) (.cells #[.slice a n c, .slice b m d] 29)).alloc (by simp) (.cells #[.slice a' n c', .slice b' m d'] 29)) q) q'
  exact ⟨rfl, by simpa using hB⟩
set_option maxHeartbeats 2000000 in
theorem markPr_any {x y n m c d base : Nat} {ps fs : List Int} {k : Int} {w : World} (hx : ps.length = n) (hy : fs.length = m) (hn : n ≤ 1048576) (hm : m ≤ 1048576) (k0 : 0 ≤ k) (k1 : k ≤ 1000000000) (hne : x ≠ y)
    (own1 : w.ownsRow base 3 1 (.slice (some ⟨x, 0, none⟩) n c) n (ints ps)) (own2 : w.ownsRow base 3 1 (.slice (some ⟨y, 0, none⟩) m d) m (ints fs)) :
    Calls Try.prog 20 #[.agg #[.slice (some ⟨x, 0, none⟩) n c, .slice (some ⟨y, 0, none⟩) m d], .int .i64 k] w fun e w' => e = .returned (.int .i64 (k + n + m)) ∧ Hid (∀ j : Nat, j < n → w'.cell? ⟨x, j, none⟩ = some (.int .i64 (k + j))) ∧ Hid (∀ j : Nat, j < m → w'.cell? ⟨y, j, none⟩ = some (.int .i64 (k + n + j))) ∧ Off2 w w' x y := by
  have bn := below_new w (.cells #[.slice (some ⟨x, 0, none⟩) n c, .slice (some ⟨y, 0, none⟩) m d] 29)
  have lx := own_near own1
  have ly := own_near own2
  have O1 := hide (owns_keep own1 (bn.block x lx))
  have O2 := hide (owns_keep own2 (bn.block y ly))
  have HX := hide hx
  have HY := hide hy
  clear own1 own2 hx hy
  go_enter Try.func20, Try.ntmps20
  go_wp2_with fail
  refine (mark_any x n c base ps k _ HX.out (by omega) k0 (by omega) O1.out).mono ?_
  rintro e w1 ⟨rfl, ⟨ys, hys, hcs, own1⟩, hg1⟩
  have C1 := hide (fun (j : Nat) (hj : j < n) => show w1.cell? ⟨x, j, none⟩ = some (.int .i64 (k + j)) by rw [own1.cellAt j (by omega), ints_get ys j (by omega), hcs j hj])
  have O2' := hide (owns_keep O2.out (hg1.block y (by simp; omega) (by simp; omega)))
  have p1 : w1.cell? ⟨w.heap.size, 1, none⟩ = some (.slice (some ⟨y, 0, none⟩) m d) := (World.cell?_of_block (w := w.alloc (.cells #[.slice (some ⟨x, 0, none⟩) n c, .slice (some ⟨y, 0, none⟩) m d] 29)) (a := ⟨w.heap.size, 1, none⟩) (hg1.block w.heap.size (by simp) (by simp; omega))).trans (by simp [go_sem])
  clear hcs own1 hys
  go_wp2_with fail
  refine (mark_any y m d base fs (k + n) _ HY.out (by omega) (by omega) (by omega) O2'.out).mono ?_
  rintro e w2 ⟨rfl, ⟨zs, hzs, hcs, own2⟩, hg2⟩
  have C2 := hide (fun (j : Nat) (hj : j < m) => show w2.cell? ⟨y, j, none⟩ = some (.int .i64 (k + n + j)) by rw [own2.cellAt j (by omega), ints_get zs j (by omega), hcs j hj])
  have s1 : w.heap.size ≤ w1.heap.size := Nat.le_trans (by simp) hg1.size
  have C1' := hide (fun (j : Nat) (hj : j < n) => (World.cell?_of_block (w := w1) (a := ⟨x, j, none⟩) (hg2.block x (by omega) (by simp; omega))).trans (C1.out j hj))
  have hoff : Off2 w w2 x y := ⟨(hg2.os.trans hg1.os).trans bn.os, (hg2.tape.trans hg1.tape).trans bn.tape, (hg2.output.trans hg1.output).trans bn.output, Nat.le_trans s1 hg2.size, fun b hb h1 h2 => (hg2.block b (by omega) (by simp; omega)).trans ((hg1.block b (by simp; omega) (by simp; omega)).trans (bn.block b hb))⟩
  clear hcs own2 hzs hg1 hg2 C1 O1 O2 O2'
  go_wp2_with fail
  go_ret
  exact ⟨rfl, C1', C2, hoff⟩

set_option maxHeartbeats 2000000 in
theorem heldPr_any {x y n m c d : Nat} {k : Int} {w : World} (hn : n ≤ 1048576) (hm : m ≤ 1048576) (k0 : 0 ≤ k) (k1 : k ≤ 1000000000) (lx : x < w.heap.size) (ly : y < w.heap.size)
    (C1 : Hid (∀ j : Nat, j < n → w.cell? ⟨x, j, none⟩ = some (.int .i64 (k + j)))) (C2 : Hid (∀ j : Nat, j < m → w.cell? ⟨y, j, none⟩ = some (.int .i64 (k + n + j)))) :
    Calls Try.prog 22 #[.agg #[.slice (some ⟨x, 0, none⟩) n c, .slice (some ⟨y, 0, none⟩) m d], .int .i64 k] w fun e w' => e = .returned (.int .i64 (k + n + m)) ∧ Below w.heap.size w w' := by
  have bn := below_new w (.cells #[.slice (some ⟨x, 0, none⟩) n c, .slice (some ⟨y, 0, none⟩) m d] 29)
  have D1 := hide (fun (j : Nat) (hj : j < n) => (bn.cell (p := ⟨x, j, none⟩) lx).trans (C1.out j hj))
  have D2 := hide (fun (j : Nat) (hj : j < m) => (bn.cell (p := ⟨y, j, none⟩) ly).trans (C2.out j hj))
  have h1 : ¬ k + (n : Int) < 0 := by omega
  have h2 : ¬ k + (n : Int) + (m : Int) < 0 := by omega
  go_enter Try.func22, Try.ntmps22
  go_wp2_with fail
  refine (held_any x n c k _ (by omega) k0 (by omega) D1.out).mono ?_
  rintro e w1 ⟨rfl, rfl⟩
  go_wp2_with fail
  refine (held_any y m d (k + n) _ (by omega) (by omega) (by omega) D2.out).mono ?_
  rintro e w1 ⟨rfl, rfl⟩
  go_wp2_with fail
  go_ret
  exact ⟨rfl, bn⟩
/-- What stays while a profile is held against its copy. -/
def Rst9 (w : World) (B x y : Nat) (ps fs : List Int) (w' : World) : Prop := Below w.heap.size w w' ∧ B < w'.heap.size ∧ ARow w' (some ⟨x, 0, none⟩) ps ∧ ARow w' (some ⟨y, 0, none⟩) fs
theorem Rst9.below {w w1 w2 : World} {B x y : Nat} {ps fs : List Int} (h : Rst9 w B x y ps fs w1) (hb : Below w1.heap.size w1 w2) : Rst9 w B x y ps fs w2 :=
  ⟨h.1.trans (hb.mono h.1.size), Nat.lt_of_lt_of_le h.2.1 hb.size, h.2.2.1.below hb, h.2.2.2.below hb⟩
theorem rst9_step {w w1 w2 : World} {B x y : Nat} {ps fs : List Int} {v0 v1 v2 v3 : Value} (hB : w.heap.size < B)
    (s : w1.cell? ⟨w.heap.size, 0, none⟩ = some v0 ∧ w1.cell? ⟨w.heap.size, 1, none⟩ = some v1 ∧ w1.cell? ⟨B, 0, none⟩ = some v2 ∧ w1.cell? ⟨B, 1, none⟩ = some v3 ∧ Rst9 w B x y ps fs w1) (hb : Below w1.heap.size w1 w2) :
    w2.cell? ⟨w.heap.size, 0, none⟩ = some v0 ∧ w2.cell? ⟨w.heap.size, 1, none⟩ = some v1 ∧ w2.cell? ⟨B, 0, none⟩ = some v2 ∧ w2.cell? ⟨B, 1, none⟩ = some v3 ∧ Rst9 w B x y ps fs w2 := by
  obtain ⟨s0, s1, s2, s3, s4⟩ := s
  have hl := s4.2.1
  obtain ⟨hc, _⟩ := bcell hb
  exact ⟨(hc _ _ (by omega)).trans s0, (hc _ _ (by omega)).trans s1, (hc _ _ (by omega)).trans s2, (hc _ _ (by omega)).trans s3, s4.below hb⟩

/-- .. and nothing that lay in an earlier world has turned. -/
def Rst9' (w : World) (B x y : Nat) (ps fs : List Int) (w0 w' : World) : Prop := Rst9 w B x y ps fs w' ∧ Below w0.heap.size w0 w'
theorem rst9_of {w w0 w1 : World} {B x y : Nat} {ps fs : List Int} {v0 v1 v2 v3 : Value}
    (s : w1.cell? ⟨w.heap.size, 0, none⟩ = some v0 ∧ w1.cell? ⟨w.heap.size, 1, none⟩ = some v1 ∧ w1.cell? ⟨B, 0, none⟩ = some v2 ∧ w1.cell? ⟨B, 1, none⟩ = some v3 ∧ Rst9' w B x y ps fs w0 w1) :
    w1.cell? ⟨w.heap.size, 0, none⟩ = some v0 ∧ w1.cell? ⟨w.heap.size, 1, none⟩ = some v1 ∧ w1.cell? ⟨B, 0, none⟩ = some v2 ∧ w1.cell? ⟨B, 1, none⟩ = some v3 ∧ Rst9 w B x y ps fs w1 := ⟨s.1, s.2.1, s.2.2.1, s.2.2.2.1, s.2.2.2.2.1⟩
theorem rst9_step' {w w0 w1 w2 : World} {B x y : Nat} {ps fs : List Int} {v0 v1 v2 v3 : Value} (hB : w.heap.size < B)
    (s : w1.cell? ⟨w.heap.size, 0, none⟩ = some v0 ∧ w1.cell? ⟨w.heap.size, 1, none⟩ = some v1 ∧ w1.cell? ⟨B, 0, none⟩ = some v2 ∧ w1.cell? ⟨B, 1, none⟩ = some v3 ∧ Rst9' w B x y ps fs w0 w1) (hb : Below w1.heap.size w1 w2) :
    w2.cell? ⟨w.heap.size, 0, none⟩ = some v0 ∧ w2.cell? ⟨w.heap.size, 1, none⟩ = some v1 ∧ w2.cell? ⟨B, 0, none⟩ = some v2 ∧ w2.cell? ⟨B, 1, none⟩ = some v3 ∧ Rst9' w B x y ps fs w0 w2 := by
  obtain ⟨q0, q1, q2, q3, q4⟩ := rst9_step hB (rst9_of s) hb
  have := s.2.2.2.2.2
  exact ⟨q0, q1, q2, q3, q4, this.trans (hb.mono this.size)⟩
theorem toPr_held {w w1 : World} {a b : Option Addr} {n m c d B x y : Nat} {ps fs : List Int} {v0 v1 v2 v3 : Value} (HA : Hid (ARow w a ps)) (HB : Hid (ARow w b fs)) (HN : Hid (ps.length = n)) (HM : Hid (fs.length = m)) (h : n + m ≤ 1048576)
    (s : w1.cell? ⟨w.heap.size, 0, none⟩ = some v0 ∧ w1.cell? ⟨w.heap.size, 1, none⟩ = some v1 ∧ w1.cell? ⟨B, 0, none⟩ = some v2 ∧ w1.cell? ⟨B, 1, none⟩ = some v3 ∧ Rst9 w B x y ps fs w1) :
    Calls Try.prog 28 #[.agg #[.slice a n c, .slice b m d]] w1 fun e w' => ∃ x3 y3, e = .returned (.agg #[.slice (some ⟨x3, 0, none⟩) n n, .slice (some ⟨y3, 0, none⟩) m m]) ∧ Below w1.heap.size w1 w' ∧ Hid (ARow w' (some ⟨x3, 0, none⟩) ps) ∧ Hid (ARow w' (some ⟨y3, 0, none⟩) fs) := by
  refine (toPr_any HN.out HM.out (by omega) (by omega) (HA.out.below s.2.2.2.2.1) (HB.out.below s.2.2.2.2.1)).mono ?_
  rintro e w2 ⟨x1, y1, rfl, hb2, _, _, _, own1, own2⟩
  exact ⟨x1, y1, rfl, hb2, arow_owns HN.out.symm own1, arow_owns HM.out.symm own2⟩
theorem eqPr_held {w w1 : World} {n m B x y x3 y3 : Nat} {ps fs : List Int} {v0 v1 v2 v3 : Value} (HN : Hid (ps.length = n)) (HM : Hid (fs.length = m)) (h : n + m ≤ 1048576)
    (s : w1.cell? ⟨w.heap.size, 0, none⟩ = some v0 ∧ w1.cell? ⟨w.heap.size, 1, none⟩ = some v1 ∧ w1.cell? ⟨B, 0, none⟩ = some v2 ∧ w1.cell? ⟨B, 1, none⟩ = some v3 ∧ Rst9 w B x y ps fs w1) (R3 : Hid (ARow w1 (some ⟨x3, 0, none⟩) ps)) (R4 : Hid (ARow w1 (some ⟨y3, 0, none⟩) fs)) :
    Calls Try.prog 17 #[.agg #[.slice (some ⟨x, 0, none⟩) n n, .slice (some ⟨y, 0, none⟩) m m], .agg #[.slice (some ⟨x3, 0, none⟩) n n, .slice (some ⟨y3, 0, none⟩) m m]] w1 fun e w' => e = .returned (.bool true) ∧ Below w1.heap.size w1 w' :=
  eqPr_any HN.out HM.out (by omega) (by omega) s.2.2.2.2.2.2.1 s.2.2.2.2.2.2.2 R3.out R4.out

theorem own_sh9 {w : World} {base n : Nat} {v : Value} {xs : List Value} (h : w.ownsRow base 3 1 v n xs) : ∃ a cap, v = .slice a n cap := by
  rcases h.2 with ⟨rfl, hn⟩ | ⟨g, cap, cur, rfl, _⟩
  · exact ⟨none, 0, by rw [hn]⟩
  · exact ⟨_, _, rfl⟩
theorem own_base9 {w : World} {b b' n : Nat} {v : Value} {xs : List Value} (h : w.ownsRow b 3 1 v n xs) (hb : b' ≤ b) : w.ownsRow b' 3 1 v n xs := by
  obtain ⟨h1, h⟩ := h
  refine ⟨h1, ?_⟩
  rcases h with h | ⟨g, cap, cur, rfl, h2, h3⟩
  · exact Or.inl h
  · exact Or.inr ⟨g, cap, cur, rfl, Nat.le_trans hb h2, h3⟩
def Cs9 (W : World) : List (Nat × Value × Value) → Prop
  | [] => True
  | e :: l => PBox W e.1 e.2.1 e.2.2 ∧ Cs9 W l
theorem Cs9.below {W W' : World} : ∀ {l : List (Nat × Value × Value)}, Cs9 W l → Below W.heap.size W W' → Cs9 W' l
  | [], _, _ => trivial
  | _ :: _, h, hb => ⟨h.1.below hb, Cs9.below h.2 hb⟩
theorem eqPrV_any {g1 g2 v1 v2 : Value} {r b1 b2 b3 b4 : Nat} {R1 R2 : List Int} {W : World} (h1 : R1.length = r) (h2 : R2.length = r) (hr : r ≤ 1048576) (o1 : W.ownsRow b1 3 1 g1 r (ints R1)) (o2 : W.ownsRow b2 3 1 g2 r (ints R2)) (o3 : W.ownsRow b3 3 1 v1 r (ints R1)) (o4 : W.ownsRow b4 3 1 v2 r (ints R2)) :
    Calls Try.prog 17 #[.agg #[g1, g2], .agg #[v1, v2]] W fun e w' => e = .returned (.bool true) ∧ Below W.heap.size W w' := by
  obtain ⟨_, _, rfl, r1⟩ := own_row h1 o1
  obtain ⟨_, _, rfl, r2⟩ := own_row h2 o2
  obtain ⟨_, _, rfl, r3⟩ := own_row h1 o3
  obtain ⟨_, _, rfl, r4⟩ := own_row h2 o4
  exact eqPr_any h1 h2 hr hr r1 r2 r3 r4
theorem own_hi9 {w : World} {base n g : Nat} {v : Value} {xs : List Value} (h : w.ownsRow base 3 1 v n xs) (hg : v.ownBlock = some g) : g < w.heap.size := by
  rcases h.2 with ⟨rfl, _⟩ | ⟨g', cap, cur, rfl, _, h3, _⟩
  · cases hg
  · cases hg; exact (Array.getElem?_eq_some_iff.1 h3).1
theorem PBox.keep9 {W W' : World} {B : Nat} {v0 v1 : Value} (h : PBox W B v0 v1) (hs : W.heap.size ≤ W'.heap.size) (hb : W'.heap[B]? = W.heap[B]?) : PBox W' B v0 v1 :=
  ⟨(World.cell?_of_block (w := W) (a := ⟨B, 0, none⟩) hb).trans h.1, (World.cell?_of_block (w := W) (a := ⟨B, 1, none⟩) hb).trans h.2.1, Nat.lt_of_lt_of_le h.2.2 hs⟩
/-- Nothing has turned but what two values own; new blocks may be there. -/
structure OffV9 (w w' : World) (v1 v2 : Value) : Prop where
  os : w'.os = w.os
  tape : w'.tape = w.tape
  output : w'.output = w.output
  size : w.heap.size ≤ w'.heap.size
  block : ∀ b, b < w.heap.size → some b ≠ v1.ownBlock → some b ≠ v2.ownBlock → w'.heap[b]? = w.heap[b]?
set_option maxHeartbeats 2000000 in
theorem markPrV_any {a1 a2 : Option Addr} {n c1 c2 base : Nat} {ps fs : List Int} {k : Int} {w : World} (hx : ps.length = n) (hy : fs.length = n) (hn : n ≤ 1048576) (k0 : 0 ≤ k) (k1 : k ≤ 900000000)
    (own1 : w.ownsRow base 3 1 (.slice a1 n c1) n (ints ps)) (own2 : w.ownsRow base 3 1 (.slice a2 n c2) n (ints fs)) (hne : ∀ g, (Value.slice a1 n c1).ownBlock = some g → (Value.slice a2 n c2).ownBlock ≠ some g) :
    Calls Try.prog 20 #[.agg #[.slice a1 n c1, .slice a2 n c2], .int .i64 k] w fun e w' => e = .returned (.int .i64 (k + n + n)) ∧ HeldV w' (.slice a1 n c1) n k ∧ HeldV w' (.slice a2 n c2) n (k + n) ∧ OffV9 w w' (.slice a1 n c1) (.slice a2 n c2) := by
  have bn := below_new w (.cells #[.slice a1 n c1, .slice a2 n c2] 29)
  have N1 : Hid (some w.heap.size ≠ (Value.slice a1 n c1).ownBlock) := hide fun he => by have := own_hi9 own1 he.symm; omega
  have O1 := hide (own_below own1 bn)
  have O2 := hide (own_below own2 bn)
  have HX := hide hx
  have HY := hide hy
  have HNE := hide hne
  clear own1 own2 hx hy hne
  go_enter Try.func20, Try.ntmps20
  go_wp2_with fail
  refine (markV_any HX.out (by omega) k0 (by omega) O1.out).mono ?_
  rintro e w1 ⟨rfl, C1, hg1⟩
  have O2' := hide (own_keep O2.out fun g hg hl => hg1.block g hl fun he => HNE.out g he.symm hg)
  have HC1 := hide C1
  have HG1 := hide hg1
  have p1 : w1.cell? ⟨w.heap.size, 1, none⟩ = some (.slice a2 n c2) := (World.cell?_of_block (w := w.alloc (.cells #[.slice a1 n c1, .slice a2 n c2] 29)) (a := ⟨w.heap.size, 1, none⟩) (hg1.block w.heap.size (by simp) N1.out)).trans (by simp [go_sem])
  clear C1 hg1
  go_wp2_with fail
  refine (markV_any HY.out (by omega) (by omega) (by omega) O2'.out).mono ?_
  rintro e w2 ⟨rfl, C2, hg2⟩
  have s1 : w.heap.size ≤ w1.heap.size := Nat.le_trans (by simp) HG1.out.size
  have C1' := hide (HC1.out.keep hg2.size fun g hg => by
    have hl := own_hi9 O1.out hg
    exact hg2.block g (Nat.lt_of_lt_of_le hl HG1.out.size) fun he => HNE.out g hg he.symm)
  have HC2 := hide C2
  have hoff : OffV9 w w2 (.slice a1 n c1) (.slice a2 n c2) := ⟨(hg2.os.trans HG1.out.os).trans bn.os, (hg2.tape.trans HG1.out.tape).trans bn.tape, (hg2.output.trans HG1.out.output).trans bn.output, Nat.le_trans s1 hg2.size, fun b hb h1 h2 => (hg2.block b (by omega) h2).trans ((HG1.out.block b (by simp; omega) h1).trans (bn.block b hb))⟩
  clear C2 hg2 HC1 O1 O2 O2' N1 HNE
  go_wp2_with fail
  go_ret
  exact ⟨rfl, C1'.out, HC2.out, hoff⟩
set_option maxHeartbeats 2000000 in
theorem heldPrV_any {a1 a2 : Option Addr} {n c1 c2 : Nat} {k : Int} {w : World} (hn : n ≤ 1048576) (k0 : 0 ≤ k) (k1 : k ≤ 900000000) (C1 : HeldV w (.slice a1 n c1) n k) (C2 : HeldV w (.slice a2 n c2) n (k + n)) :
    Calls Try.prog 22 #[.agg #[.slice a1 n c1, .slice a2 n c2], .int .i64 k] w fun e w' => e = .returned (.int .i64 (k + n + n)) ∧ Below w.heap.size w w' := by
  have bn := below_new w (.cells #[.slice a1 n c1, .slice a2 n c2] 29)
  have D1 := hide (C1.below bn)
  have D2 := hide (C2.below bn)
  have h1 : ¬ k + (n : Int) < 0 := by omega
  have h2 : ¬ k + (n : Int) + (n : Int) < 0 := by omega
  clear C1 C2
  go_enter Try.func22, Try.ntmps22
  go_wp2_with fail
  refine (heldV_any (by omega) k0 (by omega) D1.out).mono ?_
  rintro e w1 ⟨rfl, rfl⟩
  go_wp2_with fail
  refine (heldV_any (by omega) (by omega) (by omega) D2.out).mono ?_
  rintro e w1 ⟨rfl, rfl⟩
  go_wp2_with fail
  go_ret
  exact ⟨rfl, bn⟩
end Go.Proofs.Ytcniegaogdggaaa
