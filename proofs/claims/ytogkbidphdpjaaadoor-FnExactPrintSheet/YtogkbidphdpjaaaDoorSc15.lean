/-
  Sheets of the laws: sizes, copies, comparing.
-/
import Derived.Test.YtogkbidphdpjaaaDoorLGoods
import Derived.Test.YtogkbidphdpjaaaDoorNl
import Derived.Test.YtogkbidphdpjaaaDoorPn
namespace Go.Proofs.YtogkbidphdpjaaaDoor
open Go.RowKit

/-- A sheet of the laws' own: two lists in blocks of their own, that can be written. -/
structure TS (w : World) (X Y n n' : Nat) (gs : List Gd) (ls : List (Int × Int)) : Prop where
  g : GRow w (some ⟨X, 0, none⟩) gs
  l : LRow w (some ⟨Y, 0, none⟩) ls
  lg : Loose w X (n * 2)
  ll : Loose w Y (n' * 2)
  ne : X ≠ Y
  lx : X < w.heap.size
  ly : Y < w.heap.size
theorem TS.below {w w' : World} {X Y n n' : Nat} {gs : List Gd} {ls : List (Int × Int)} (h : TS w X Y n n' gs ls) (hb : Below w.heap.size w w') : TS w' X Y n n' gs ls :=
  ⟨h.g.below hb, h.l.below hb, h.lg.below hb, h.ll.below hb, h.ne, Nat.lt_of_lt_of_le h.lx hb.size, Nat.lt_of_lt_of_le h.ly hb.size⟩
set_option maxHeartbeats 2000000 in
theorem szSh_any {a a' : Option Addr} {n c n' c' : Nat} {left : Int} {gs : List Gd} {w : World} (HN : Hid (gs.length = n)) (hm : Hid (n ≤ maxLen)) (hf : Hid (Fits gs)) (h : Hid (GRow w a gs)) (hm' : Hid (n' ≤ maxLen)) (h0 : 0 ≤ left) (h1 : left ≤ 1048576) :
    Calls Tryd.prog 5 #[.agg #[.slice a n c, .slice a' n' c'], .int .i64 left] w fun e w' => ∃ r : Int, e = .returned (.int .i64 r) ∧ r ≤ 1048576 ∧ (r = -1 ∨ (0 ≤ r ∧ n ≤ 1048576 ∧ n' ≤ 1048576 ∧ Short gs)) ∧ Below w.heap.size w w' := by
  have HB := hide (below_new w (.cells #[.slice a n c, .slice a' n' c'] 25))
  have PB := hide (PBox.new w (.slice a n c) (.slice a' n' c') 25)
  have HG := hide (h.out.below HB.out)
  by_cases hl : (n : Int) ≤ left
  · go_enter Tryd.func5, Tryd.ntmps5
    go_wp2_with fail
    refine (szG_any HN.out h0 h1 hl hf.out HG.out).mono ?_
    rintro e w1 ⟨r, rfl, hr1, hr2, hb1⟩
    have HB1 := hide (HB.out.trans (hb1.mono HB.out.size))
    have p1 := (PB.out.below hb1).2.1
    rcases hr2 with rfl | ⟨hr0, hsh⟩
    · clear hb1
      go_wp2_with fail
      go_ret
      exact ⟨-1, rfl, by omega, Or.inl rfl, HB1.out⟩
    · have HSh := hide (short_of HN.out hsh)
      have hn : n ≤ 1048576 := by omega
      have hr3 : ¬ r < 0 := by omega
      clear hsh hb1
      by_cases hl2 : (n' : Int) ≤ r
      · have hr4 : ¬ r - (n' : Int) < 0 := by omega
        go_wp2_with fail
        refine (szL_yes a' n' c' r _ hr0 hr1 hl2).mono ?_
        rintro e w2 ⟨rfl, hw2⟩
        obtain rfl : w1 = w2 := hw2.symm
        go_wp2_with fail
        go_ret
        exact ⟨_, rfl, by omega, Or.inr ⟨by omega, hn, by omega, HSh.out⟩, HB1.out⟩
      · go_wp2_with fail
        refine (szL_no a' n' c' r _ hr0 hr1 hm'.out (by omega)).mono ?_
        rintro e w2 ⟨rfl, hw2⟩
        obtain rfl : w1 = w2 := hw2.symm
        go_wp2_with fail
        go_ret
        exact ⟨-1, rfl, by omega, Or.inl rfl, HB1.out⟩
  · go_enter Tryd.func5, Tryd.ntmps5
    go_wp2_with fail
    refine (szG_long h0 h1 hm.out (by omega)).mono ?_
    rintro e w1 ⟨rfl, hw1⟩
    obtain rfl := hw1.symm
    go_wp2_with fail
    go_ret
    exact ⟨-1, rfl, by omega, Or.inl rfl, HB.out⟩
theorem toL_n15 (a : Option Addr) (c n : Nat) (ls : List (Int × Int)) (w : World) (hn : ls.length = n) (hlen : n ≤ 1048576) (hr : LRow w a ls) :
    Calls Tryd.prog 19 #[.slice a n c] w fun e w' => e = .returned (.slice (some ⟨w.heap.size, 0, none⟩) n n) ∧ Below w.heap.size w w' ∧ w.heap.size < w'.heap.size ∧ LRow w' (some ⟨w.heap.size, 0, none⟩) ls ∧ Loose w' w.heap.size (n * 2) := by
  subst hn
  exact (toL_row a c ls w hlen hr).mono fun e w' ⟨he, hb, hz, hl, hL⟩ => ⟨he, hb, hz, hl.row hz, hL⟩
theorem grow_low {w w' : World} {B : Nat} {gs : List Gd} (h : GRow w (some ⟨B, 0, none⟩) gs) (hs : w.heap.size ≤ w'.heap.size) (hb : w'.heap[B]? = w.heap[B]?) : GRow w' (some ⟨B, 0, none⟩) gs := by
  rcases h with h | ⟨b, off, ha, hl, hc⟩
  · exact Or.inl h
  · cases ha
    exact Or.inr ⟨B, 0, rfl, Nat.lt_of_lt_of_le hl hs, fun i hi => ⟨(World.cell?_of_block (w := w) (a := ⟨B, 0 + i * 2, none⟩) hb).trans (hc i hi).1, (World.cell?_of_block (w := w) (a := ⟨B, 0 + i * 2 + 1, none⟩) hb).trans (hc i hi).2⟩⟩
theorem lrow_low {w w' : World} {B : Nat} {ls : List (Int × Int)} (h : LRow w (some ⟨B, 0, none⟩) ls) (hs : w.heap.size ≤ w'.heap.size) (hb : w'.heap[B]? = w.heap[B]?) : LRow w' (some ⟨B, 0, none⟩) ls := by
  rcases h with h | ⟨b, off, ha, hl, hc⟩
  · exact Or.inl h
  · cases ha
    exact Or.inr ⟨B, 0, rfl, Nat.lt_of_lt_of_le hl hs, fun i hi => ⟨(World.cell?_of_block (w := w) (a := ⟨B, 0 + i * 2, none⟩) hb).trans (hc i hi).1, (World.cell?_of_block (w := w) (a := ⟨B, 0 + i * 2 + 1, none⟩) hb).trans (hc i hi).2⟩⟩
theorem loose_low {w w' : World} {B m : Nat} (h : Loose w B m) (hb : w'.heap[B]? = w.heap[B]?) : Loose w' B m := fun j hj =>
  ⟨by rw [World.cell?_of_block (w := w) (a := ⟨B, j, none⟩) hb]; exact (h j hj).1, by rw [World.frozen?_of_block (w := w) (a := ⟨B, j, none⟩) hb]; exact (h j hj).2⟩
/-- What a sheet's two lists are is kept where their blocks are. -/
theorem TS.keep {w w' : World} {X Y n n' : Nat} {gs : List Gd} {ls : List (Int × Int)} (h : TS w X Y n n' gs ls) (hs : w.heap.size ≤ w'.heap.size) (hx : w'.heap[X]? = w.heap[X]?) (hy : w'.heap[Y]? = w.heap[Y]?) : TS w' X Y n n' gs ls :=
  ⟨grow_low h.g hs hx, lrow_low h.l hs hy, loose_low h.lg hx, loose_low h.ll hy, h.ne, Nat.lt_of_lt_of_le h.lx hs, Nat.lt_of_lt_of_le h.ly hs⟩
set_option maxHeartbeats 4000000 in
theorem toSh_any {a a' : Option Addr} {n c n' c' : Nat} {gs : List Gd} {ls : List (Int × Int)} {w : World} (HN : Hid (gs.length = n)) (hn : n ≤ 1048576) (HA : Hid (GRow w a gs)) (HN' : Hid (ls.length = n')) (hn' : n' ≤ 1048576) (HA' : Hid (LRow w a' ls)) :
    Calls Tryd.prog 7 #[.agg #[.slice a n c, .slice a' n' c']] w fun e w' => ∃ X Y, e = .returned (.agg #[.slice (some ⟨X, 0, none⟩) n n, .slice (some ⟨Y, 0, none⟩) n' n']) ∧ Below w.heap.size w w' ∧ w.heap.size ≤ X ∧ w.heap.size ≤ Y ∧ TS w' X Y n n' gs ls := by
  go_enter Tryd.func7, Tryd.ntmps7
  go_wp2_with fail
  have b1 := below_new w (.cells #[.slice a n c, .slice a' n' c'] 25)
  have b2 := b1.trans ((below_new (w.alloc (.cells #[.slice a n c, .slice a' n' c'] 25)) (.cells #[.slice none 0 0, .slice none 0 0] 32)).mono b1.size)
  have b3 := b2.trans ((below_new ((w.alloc (.cells #[.slice a n c, .slice a' n' c'] 25)).alloc (.cells #[.slice none 0 0, .slice none 0 0] 32)) (.cells #[.slice none 0 0, .slice none 0 0] 32)).mono b2.size)
  refine (toG_rowF a c n gs _ HN.out hn (HA.out.below b3)).mono ?_
  rintro e w1 ⟨rfl, hb1, hz1, row1, lo1⟩
  simp only [World.size_alloc] at hb1 hz1 row1 lo1
  have hBw : Below w.heap.size w w1 := b3.trans (hb1.mono (by omega))
  have q1 : w1.cell? ⟨w.heap.size, 1, none⟩ = some (.slice a' n' c') := (hb1.cell (p := ⟨w.heap.size, 1, none⟩) (by show w.heap.size < _; omega)).trans (by simp [go_sem])
  have q2 : w1.cell? ⟨w.heap.size + 1 + 1, 0, none⟩ = some (.slice none 0 0) := (hb1.cell (p := ⟨w.heap.size + 1 + 1, 0, none⟩) (by show w.heap.size + 1 + 1 < _; omega)).trans (by simp [go_sem])
  have q3 : w1.cell? ⟨w.heap.size + 1 + 1, 1, none⟩ = some (.slice none 0 0) := (hb1.cell (p := ⟨w.heap.size + 1 + 1, 1, none⟩) (by show w.heap.size + 1 + 1 < _; omega)).trans (by simp [go_sem])
  have q4 : w1.cell? ⟨w.heap.size + 1, 0, none⟩ = some (.slice none 0 0) := (hb1.cell (p := ⟨w.heap.size + 1, 0, none⟩) (by show w.heap.size + 1 < _; omega)).trans (by simp [go_sem])
  have q5 : w1.cell? ⟨w.heap.size + 1, 1, none⟩ = some (.slice none 0 0) := (hb1.cell (p := ⟨w.heap.size + 1, 1, none⟩) (by show w.heap.size + 1 < _; omega)).trans (by simp [go_sem])
  have g2 : ∀ i, w1.frozen? ⟨w.heap.size + 1 + 1, i, none⟩ = false := fun i => (hb1.frozen (p := ⟨w.heap.size + 1 + 1, i, none⟩) (by show w.heap.size + 1 + 1 < _; omega)).trans (by simp [go_sem])
  have g4 : ∀ i, w1.frozen? ⟨w.heap.size + 1, i, none⟩ = false := fun i => (hb1.frozen (p := ⟨w.heap.size + 1, i, none⟩) (by show w.heap.size + 1 < _; omega)).trans (by simp [go_sem])
  have R1 := hide row1
  have L1 := hide lo1
  have B1 := hide b3
  clear row1 lo1 b1 b2 b3
  go_wp2_with fail
  have hB2 : Below w.heap.size w (w1.setCell ⟨w.heap.size + 1 + 1, 0, none⟩ (.slice (some ⟨w.heap.size + 1 + 1 + 1, 0, none⟩) n n)) := hBw.setCell (by show w.heap.size ≤ w.heap.size + 1 + 1; omega) _
  refine (toL_n15 a' c' n' ls _ HN'.out hn' (HA'.out.below hB2)).mono ?_
  rintro e w2 ⟨rfl, hb2, hz2, row2, lo2⟩
  simp only [World.size_setCell] at hb2 hz2 row2 lo2
  have c0 : ∀ x i, x < w1.heap.size → w2.cell? ⟨x, i, none⟩ = (w1.setCell ⟨w.heap.size + 1 + 1, 0, none⟩ (.slice (some ⟨w.heap.size + 1 + 1 + 1, 0, none⟩) n n)).cell? ⟨x, i, none⟩ := fun x i hx => hb2.cell (p := ⟨x, i, none⟩) hx
  have f0 : ∀ x i, x < w1.heap.size → w2.frozen? ⟨x, i, none⟩ = w1.frozen? ⟨x, i, none⟩ := fun x i hx => (hb2.frozen (p := ⟨x, i, none⟩) hx).trans (World.frozen?_setCell ..)
  have p0 : w2.cell? ⟨w.heap.size + 1 + 1, 0, none⟩ = some (.slice (some ⟨w.heap.size + 1 + 1 + 1, 0, none⟩) n n) := (c0 _ _ (by omega)).trans (World.cell?_setCell_same _ _ _ q2)
  have p1 : w2.cell? ⟨w.heap.size + 1 + 1, 1, none⟩ = some (.slice none 0 0) := (c0 _ _ (by omega)).trans ((World.cell?_setCell_other _ _ _ _ (by simp)).trans q3)
  have p2 : w2.cell? ⟨w.heap.size + 1, 0, none⟩ = some (.slice none 0 0) := (c0 _ _ (by omega)).trans ((World.cell?_setCell_other _ _ _ _ (by simp)).trans q4)
  have p3 : w2.cell? ⟨w.heap.size + 1, 1, none⟩ = some (.slice none 0 0) := (c0 _ _ (by omega)).trans ((World.cell?_setCell_other _ _ _ _ (by simp)).trans q5)
  have g0 : ∀ i, w2.frozen? ⟨w.heap.size + 1 + 1, i, none⟩ = false := fun i => (f0 _ _ (by omega)).trans (g2 i)
  have g1 : ∀ i, w2.frozen? ⟨w.heap.size + 1, i, none⟩ = false := fun i => (f0 _ _ (by omega)).trans (g4 i)
  have hB3 : Below w.heap.size w w2 := hB2.trans (hb2.mono (by omega))
  have hkX : w2.heap[w.heap.size + 1 + 1 + 1]? = w1.heap[w.heap.size + 1 + 1 + 1]? := (hb2.block (w.heap.size + 1 + 1 + 1) hz1).trans (Below.heap_setCell _ _ _ _ (by show w.heap.size + 1 + 1 + 1 ≠ w.heap.size + 1 + 1; omega))
  have T0 : Hid (TS w2 (w.heap.size + 1 + 1 + 1) w1.heap.size n n' gs ls) := hide ⟨grow_low R1.out (by have := hb2.size; simpa using this) hkX, row2, loose_low L1.out hkX, lo2, by omega, by omega, hz2⟩
  clear q1 q2 q3 q4 q5 g2 g4 c0 f0 row2 lo2 R1 L1 hkX
  go_wp2_with fail
  have kp : ∀ (u v z : Value) (b : Nat), w.heap.size + 1 + 1 < b → (((w2.setCell ⟨w.heap.size + 1 + 1, 1, none⟩ u).setCell ⟨w.heap.size + 1, 0, none⟩ v).setCell ⟨w.heap.size + 1, 1, none⟩ z).heap[b]? = w2.heap[b]? := fun u v z b hb =>
    ((Below.heap_setCell _ _ _ b (by show b ≠ w.heap.size + 1; omega)).trans (Below.heap_setCell _ _ _ b (by show b ≠ w.heap.size + 1; omega))).trans (Below.heap_setCell _ _ _ b (by show b ≠ w.heap.size + 1 + 1; omega))
  refine bodyPost_ret (v := .agg #[.slice (some ⟨w.heap.size + 1 + 1 + 1, 0, none⟩) n n, .slice (some ⟨w1.heap.size, 0, none⟩) n' n']) (by simp [results, Tryd.results7, go_sem, p2, p3]) rfl ⟨w.heap.size + 1 + 1 + 1, w1.heap.size, rfl, ?_, by omega, by omega, ?_⟩
  · exact ((hB3.setCell (by show w.heap.size ≤ w.heap.size + 1 + 1; omega) _).setCell (by show w.heap.size ≤ w.heap.size + 1; omega) _).setCell (by show w.heap.size ≤ w.heap.size + 1; omega) _
  · exact T0.out.keep (by simp) (kp _ _ _ _ (by omega)) (kp _ _ _ _ (by omega))
set_option maxHeartbeats 2000000 in
theorem eqG15 {a b : Option Addr} {cap cap' n : Nat} {gs : List Gd} {w : World} (hn : gs.length = n) (hlen : n ≤ 1048576) (h1 : GRow w a gs) (h2 : GRow w b gs) :
    Calls Tryd.prog 22 #[.slice a n cap, .slice b n cap'] w fun e w' => e = .returned (.bool true) ∧ Below w.heap.size w w' := by
  have hne : ((n : Int) != (n : Int)) = false := by simp
  have H1 := hide h1
  have H2 := hide h2
  have HN := hide hn
  clear h1 h2 hn
  go_enter Tryd.func22, Tryd.ntmps22
  go_wp2_with fail
  go_loopw [5] (fun s wr => ∃ (k : Nat), s = .int .i64 k ∧ k ≤ n ∧ Below w.heap.size w wr ∧ w.heap.size ≤ wr.heap.size) (fun s _ => n - (intOf s).toNat)
  case atStart => exact ⟨0, rfl, Nat.zero_le _, Below.refl _ _, Nat.le_refl _⟩
  case round =>
    obtain ⟨k, rfl, hk, hB, hz⟩ := hrel
    by_cases hlt : k < n
    · obtain ⟨b', o', rfl, hb, r0, r1⟩ := H1.out.at (i := k) (by rw [HN.out]; exact hlt)
      obtain ⟨c', o'', rfl, hc, s0, s1⟩ := H2.out.at (i := k) (by rw [HN.out]; exact hlt)
      have r0' := (hB.cell (p := ⟨b', o' + k * 2, none⟩) hb).trans r0
      have r1' := (hB.cell (p := ⟨b', o' + k * 2 + 1, none⟩) hb).trans r1
      have s0' := (hB.cell (p := ⟨c', o'' + k * 2, none⟩) hc).trans s0
      have s1' := (hB.cell (p := ⟨c', o'' + k * 2 + 1, none⟩) hc).trans s1
      generalize (gs.getD k gd0).1 = x at *
      generalize (gs.getD k gd0).2 = z at *
      clear r0 r1 s0 s1
      have i0 : (0 : Int) ≤ (k : Int) := by omega
      have i1 : (k : Int) < (n : Int) := by omega
      go_wp2_with fail
      go_region_held3 (fun w' => w'.cell? ⟨b', o' + k * 2, none⟩ = some (.string x) ∧ w'.cell? ⟨b', o' + k * 2 + 1, none⟩ = some (.int .i64 z) ∧ w'.cell? ⟨c', o'' + k * 2, none⟩ = some (.string x) ∧ w'.cell? ⟨c', o'' + k * 2 + 1, none⟩ = some (.int .i64 z) ∧ Below w.heap.size w w' ∧ w.heap.size ≤ w'.heap.size)
        (first | exact ⟨r0', r1', s0', s1', hB.drew, hz⟩ | assumption | exact heldG (i := k) hb hc ‹_› (by assumption) rfl)
        (first
        | (go_at_call 41; refine (eqGood_same _ _ _).mono ?_; rintro e w1 ⟨rfl, hb1⟩))
      go_wp2_with fail
      obtain ⟨_, _, _, _, hB2, hz2⟩ := ‹_ ∧ _ ∧ _ ∧ _ ∧ _ ∧ _›
      exact ⟨⟨k + 1, by go_num, by omega, hB2, hz2⟩, by simp only [intOf]; omega⟩
    · go_wp2_with fail
      go_ret
      exact ⟨rfl, hB⟩
set_option maxHeartbeats 2000000 in
theorem eqL15 {a b : Option Addr} {cap cap' n : Nat} {ls : List (Int × Int)} {w : World} (hn : ls.length = n) (hlen : n ≤ 1048576) (h1 : LRow w a ls) (h2 : LRow w b ls) :
    Calls Tryd.prog 23 #[.slice a n cap, .slice b n cap'] w fun e w' => e = .returned (.bool true) ∧ Below w.heap.size w w' := by
  have hne : ((n : Int) != (n : Int)) = false := by simp
  have H1 := hide h1
  have H2 := hide h2
  have HN := hide hn
  clear h1 h2 hn
  go_enter Tryd.func23, Tryd.ntmps23
  go_wp2_with fail
  go_loopw [5] (fun s wr => ∃ (k : Nat), s = .int .i64 k ∧ k ≤ n ∧ Below w.heap.size w wr ∧ w.heap.size ≤ wr.heap.size) (fun s _ => n - (intOf s).toNat)
  case atStart => exact ⟨0, rfl, Nat.zero_le _, Below.refl _ _, Nat.le_refl _⟩
  case round =>
    obtain ⟨k, rfl, hk, hB, hz⟩ := hrel
    by_cases hlt : k < n
    · obtain ⟨b', o', rfl, hb, r0, r1⟩ := H1.out.at (i := k) (by rw [HN.out]; exact hlt)
      obtain ⟨c', o'', rfl, hc, s0, s1⟩ := H2.out.at (i := k) (by rw [HN.out]; exact hlt)
      have r0' := (hB.cell (p := ⟨b', o' + k * 2, none⟩) hb).trans r0
      have r1' := (hB.cell (p := ⟨b', o' + k * 2 + 1, none⟩) hb).trans r1
      have s0' := (hB.cell (p := ⟨c', o'' + k * 2, none⟩) hc).trans s0
      have s1' := (hB.cell (p := ⟨c', o'' + k * 2 + 1, none⟩) hc).trans s1
      generalize (ls.getD k (0, 0)) = x at *
      obtain ⟨x1, x2⟩ := x
      clear r0 r1 s0 s1
      have i0 : (0 : Int) ≤ (k : Int) := by omega
      have i1 : (k : Int) < (n : Int) := by omega
      go_wp2_with fail
      go_region_held3 (fun w' => w'.cell? ⟨b', o' + k * 2, none⟩ = some (.int .i64 x1) ∧ w'.cell? ⟨b', o' + k * 2 + 1, none⟩ = some (.int .i64 x2) ∧ w'.cell? ⟨c', o'' + k * 2, none⟩ = some (.int .i64 x1) ∧ w'.cell? ⟨c', o'' + k * 2 + 1, none⟩ = some (.int .i64 x2) ∧ Below w.heap.size w w' ∧ w.heap.size ≤ w'.heap.size)
        (first | exact ⟨r0', r1', s0', s1', hB.drew, hz⟩ | assumption | exact heldG (i := k) hb hc ‹_› (by assumption) rfl)
        (first
        | (go_at_call 42; refine (eqLine_same _ _ _).mono ?_; rintro e w1 ⟨rfl, hb1⟩))
      go_wp2_with fail
      obtain ⟨_, _, _, _, hB2, hz2⟩ := ‹_ ∧ _ ∧ _ ∧ _ ∧ _ ∧ _›
      exact ⟨⟨k + 1, by go_num, by omega, hB2, hz2⟩, by simp only [intOf]; omega⟩
    · go_wp2_with fail
      go_ret
      exact ⟨rfl, hB⟩
set_option maxHeartbeats 2000000 in
theorem eqSh15 {a a' b b' : Option Addr} {n n' c c' d d' : Nat} {gs : List Gd} {ls : List (Int × Int)} {w : World} (hn : Hid (gs.length = n)) (h1 : n ≤ 1048576) (hn' : Hid (ls.length = n')) (h2 : n' ≤ 1048576) (ga : GRow w a gs) (la : LRow w a' ls) (gb : GRow w b gs) (lb : LRow w b' ls) :
    Calls Tryd.prog 9 #[.agg #[.slice a n c, .slice a' n' c'], .agg #[.slice b n d, .slice b' n' d']] w fun e w' => e = .returned (.bool true) ∧ Below w.heap.size w w' := by
  have B1 := below_new w (.cells #[.slice a n c, .slice a' n' c'] 32)
  have B2 := below_new (w.alloc (.cells #[.slice a n c, .slice a' n' c'] 32)) (.cells #[.slice b n d, .slice b' n' d'] 32)
  have HB := hide (B1.trans (B2.mono B1.size))
  have PA := hide ((PBox.new w (.slice a n c) (.slice a' n' c') 32).below B2)
  have PB := hide (PBox.new (w.alloc (.cells #[.slice a n c, .slice a' n' c'] 32)) (.slice b n d) (.slice b' n' d') 32)
  rw [World.size_alloc] at PB
  have GA := hide (ga.below HB.out)
  have LA := hide (la.below HB.out)
  have GB := hide (gb.below HB.out)
  have LB := hide (lb.below HB.out)
  clear ga la gb lb B1 B2
  go_enter Tryd.func9, Tryd.ntmps9
  go_wp2_with fail
  refine (eqG15 hn.out h1 GA.out GB.out).mono ?_
  rintro e w1 ⟨rfl, hb1⟩
  have p1 := (PA.out.below hb1).2.1
  have p2 := (PB.out.below hb1).2.1
  have LA1 := hide (LA.out.below hb1)
  have LB1 := hide (LB.out.below hb1)
  have HB1 := hide (HB.out.trans (hb1.mono HB.out.size))
  clear hb1
  go_wp2_with fail
  refine (eqL15 hn'.out h2 LA1.out LB1.out).mono ?_
  rintro e w2 ⟨rfl, hb2⟩
  have HB2 := hide (HB1.out.trans (hb2.mono HB1.out.size))
  clear hb2
  go_wp2_with fail
  go_ret
  exact ⟨rfl, HB2.out⟩
end Go.Proofs.YtogkbidphdpjaaaDoor
