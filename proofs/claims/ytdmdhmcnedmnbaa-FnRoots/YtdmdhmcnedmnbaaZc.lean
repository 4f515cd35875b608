/-
  What DrawCompareRoots hands out: two short rows, each in memory of its own.
-/
import Derived.Test.YtdmdhmcnedmnbaaZr
import Derived.Test.YtdmdhmcnedmnbaaU
import Derived.Deep.AppendLies
import Derived.Deep.DeepCutAuto
namespace Go.Proofs.Ytdmdhmcnedmnbaa
open Go.RowKit

theorem info3r : (Try.prog.info? 3).map (fun i => (i.zero, i.size, i.bytes)) = some (some (.int .i64 0), 1, 8) := by kernel_rfl
theorem row1 (w : World) (n : Int) (base : Nat) (h : base ≤ w.heap.size) : (w.alloc (.cells #[.int .i64 n] 3)).ownsRow base 3 1 (.slice (some ⟨w.heap.size, 0, none⟩) 1 1) 1 (ints [n]) :=
  ⟨by simp [ints], .inr ⟨w.heap.size, 1, #[.int .i64 n], rfl, h, heap_alloc_new w _, Nat.le_refl _, by unfold maxLen; omega, rfl, by simp [ints]⟩⟩
theorem Kp.grown {c : Nat} {w w' : World} (h : Kp c w w') : w.grownBy w' (some c) := ⟨h.os, h.tape, h.output, h.size, fun k hk hne => h.block k hk (fun e => hne (by rw [e]))⟩
theorem new1 (w : World) (x : Int) : ∀ (j : Nat) (u : Value), ([.int .i64 x] : List Value)[j]? = some u → (w.alloc (.cells #[.int .i64 x] 3)).cell? ((⟨w.heap.size, 0, none⟩ : Addr).add j) = some u := by
  intro j u hj
  match j, hj with
  | 0, hj => simp at hj; subst hj; simp [Addr.add]
theorem cell1 (x : Int) : ∀ u ∈ ([.int .i64 x] : List Value), u.oneCell' = true := by
  intro u hu; simp at hu; subst hu; rfl

theorem table_cells (w : World) (o : Obj) : ∀ i, i < 13 → ∃ z : Int, ((w.alloc o).alloc (.cells #[.int .i64 0, .int .i64 1, .int .i64 2, .int .i64 3, .int .i64 4, .int .i64 8, .int .i64 9, .int .i64 12, .int .i64 18, .int .i64 27, .int .i64 32, .int .i64 50, .int .i64 1000] 3)).cell? ⟨w.heap.size + 1, i, none⟩ = some (.int .i64 z) := by
  intro i hi
  have := nine_cells (w.alloc o) [0, 1, 2, 3, 4, 8, 9, 12, 18, 27, 32, 50, 1000] 3 i hi
  rw [World.size_alloc] at this
  exact this
/-- The cursor, the table, and the two rows so far. -/
structure Two (w W : World) (a : Option Addr) (len cap N : Nat) (s t : Value) (g1 c1 g2 c2 : Nat) (xs ys : List Int) : Prop where
  es : s = .slice (some ⟨g1, 0, none⟩) xs.length c1
  et : t = .slice (some ⟨g2, 0, none⟩) ys.length c2
  l1 : 1 ≤ xs.length
  l2 : xs.length ≤ 3
  l3 : ys.length ≤ 3
  ne : g1 ≠ g2
  o1 : W.ownsRow (w.heap.size + 2) 3 1 s xs.length (ints xs)
  o2 : W.ownsRow (w.heap.size + 2) 3 1 t ys.length (ints ys)
  cur : Cur W w.heap.size a len cap N
  src : ∀ b off, a = some ⟨b, off, none⟩ → 0 < len → b < w.heap.size
  tab : ∀ i, i < 13 → ∃ z : Int, W.cell? ⟨w.heap.size + 1, i, none⟩ = some (.int .i64 z)
  bel : Below w.heap.size w W
  siz : w.heap.size + 1 < W.heap.size

theorem Two.kp {w W W' : World} {a : Option Addr} {len cap N M : Nat} {s t : Value} {g1 c1 g2 c2 : Nat} {xs ys : List Int} (h : Two w W a len cap N s t g1 c1 g2 c2 xs ys) (hk : Kp w.heap.size W W') (hc : Cur W' w.heap.size a len cap M) : Two w W' a len cap M s t g1 c1 g2 c2 xs ys := by
  have q1 : s.ownBlock ≠ some w.heap.size := fun e => by have := (h.o1.lt _ e).1; omega
  have q2 : t.ownBlock ≠ some w.heap.size := fun e => by have := (h.o2.lt _ e).1; omega
  exact ⟨h.es, h.et, h.l1, h.l2, h.l3, h.ne, h.o1.kept hk.grown (Or.inr q1), h.o2.kept hk.grown (Or.inr q2), hc, h.src, fun i hi => by
    obtain ⟨z, hz⟩ := h.tab i hi
    exact ⟨z, (hk.cell h.siz (by omega)).trans hz⟩, h.bel.trans (hk.below (Nat.le_refl _) h.bel.size), Nat.lt_of_lt_of_le h.siz hk.size⟩
theorem Two.le {w W : World} {a : Option Addr} {len cap N M : Nat} {s t : Value} {g1 c1 g2 c2 : Nat} {xs ys : List Int} (h : Two w W a len cap N s t g1 c1 g2 c2 xs ys) (hNM : N ≤ M) : Two w W a len cap M s t g1 c1 g2 c2 xs ys :=
  ⟨h.es, h.et, h.l1, h.l2, h.l3, h.ne, h.o1, h.o2, h.cur.le hNM, h.src, h.tab, h.bel, h.siz⟩
theorem Two.alloc {w W : World} {a : Option Addr} {len cap N : Nat} {s t : Value} {g1 c1 g2 c2 : Nat} {xs ys : List Int} (h : Two w W a len cap N s t g1 c1 g2 c2 xs ys) (o : Obj) : Two w (W.alloc o) a len cap N s t g1 c1 g2 c2 xs ys :=
  ⟨h.es, h.et, h.l1, h.l2, h.l3, h.ne, h.o1.alloc o, h.o2.alloc o, h.cur.below (below_alloc W o), h.src, fun i hi => by
    obtain ⟨z, hz⟩ := h.tab i hi
    exact ⟨z, ((below_alloc W o).cell (p := ⟨w.heap.size + 1, i, none⟩) h.siz).trans hz⟩, h.bel.alloc h.bel.size o, by have := h.siz; simp; omega⟩
/-- Behind an append to the first row. -/
theorem Two.app1 {w W W4 : World} {a : Option Addr} {len cap N : Nat} {s t : Value} {g1 c1 g2 c2 g c : Nat} {xs ys : List Int} {x : Int} {o : Obj} (h : Two w W a len cap N s t g1 c1 g2 c2 xs ys) (hl : xs.length ≤ 2)
    (own : W4.ownsRow (w.heap.size + 2) 3 1 (.slice (some ⟨g, 0, none⟩) (xs.length + 1) c) (xs.length + 1) (ints xs ++ [.int .i64 x])) (hg : (W.alloc o).grownBy W4 s.ownBlock) (hat : s.ownBlock = some g ∨ g = W.heap.size + 1) :
    Two w W4 a len cap N (.slice (some ⟨g, 0, none⟩) (xs.length + 1) c) t g c g2 c2 (xs ++ [x]) ys := by
  have e1 : s.ownBlock = some g1 := by rw [h.es]; rfl
  have e2 : t.ownBlock = some g2 := by rw [h.et]; rfl
  have b2 := h.o2.lt g2 e2
  have hs := h.siz
  have b1 := h.o1.lt g1 e1
  have hblk : ∀ k, k ≤ w.heap.size + 1 → W4.heap[k]? = (W.alloc o).heap[k]? := fun k hk => hg.block k (by simp; omega) (by rw [e1]; simp; omega)
  have hold : ∀ k, k ≤ w.heap.size + 1 → W4.heap[k]? = W.heap[k]? := fun k hk => (hblk k hk).trans (heap_alloc_old W o (show k < W.heap.size by omega))
  refine ⟨by simp, h.et, by simp, by simp; omega, h.l3, ?_, by simpa [ints_snoc] using own, (h.o2.alloc o).kept hg (Or.inr (by rw [e1, e2]; simp; exact fun e => h.ne e.symm)), ?_, h.src, ?_, ?_, ?_⟩
  · rcases hat with hh | hh
    · rw [e1] at hh; simp at hh; rw [← hh]; exact h.ne
    · omega
  · exact h.cur.of_blocks (Nat.le_trans (by simp) hg.size) (hold _ (by omega)) (fun b off e hl => hold b (by have := h.src b off e hl; omega))
  · intro i hi
    obtain ⟨z, hz⟩ := h.tab i hi
    exact ⟨z, (World.cell?_of_block (w := W) (hold _ (Nat.le_refl _))).trans hz⟩
  · exact (h.bel.alloc h.bel.size o).trans ⟨hg.os, hg.tape, hg.output, hg.size, fun k hk => hblk k (by omega)⟩
  · have := hg.size; simp at this; omega
theorem Two.swap {w W : World} {a : Option Addr} {len cap N : Nat} {s t : Value} {g1 c1 g2 c2 : Nat} {xs ys : List Int} (h : Two w W a len cap N s t g1 c1 g2 c2 xs ys) (hl : 1 ≤ ys.length) : Two w W a len cap N t s g2 c2 g1 c1 ys xs :=
  ⟨h.et, h.es, hl, h.l3, h.l2, fun e => h.ne e.symm, h.o2, h.o1, h.cur, h.src, h.tab, h.bel, h.siz⟩
/-- Behind a store to the first row's first place. -/
theorem Two.put {w W : World} {a : Option Addr} {len cap N : Nat} {s t : Value} {g1 c1 g2 c2 : Nat} {xs ys : List Int} (h : Two w W a len cap N s t g1 c1 g2 c2 xs ys) (x : Int) : Two w (W.setCell ⟨g1, 0, none⟩ (.int .i64 x)) a len cap N s t g1 c1 g2 c2 (xs.set 0 x) ys := by
  have e1 : s.ownBlock = some g1 := by rw [h.es]; rfl
  have e2 : t.ownBlock = some g2 := by rw [h.et]; rfl
  have b1 := h.o1.lt g1 e1
  have hs := h.siz
  have o1 := h.o1
  rw [h.es] at o1
  obtain ⟨st1, st2⟩ := o1.stored 0 (.int .i64 x)
  rw [ints_set] at st1
  have hold : ∀ k, k ≤ w.heap.size + 1 → (W.setCell ⟨g1, 0, none⟩ (.int .i64 x)).heap[k]? = W.heap[k]? := fun k hk => st2.block k (by omega) (by simp; omega)
  refine ⟨by simpa using h.es, h.et, by simpa using h.l1, by simpa using h.l2, h.l3, h.ne, by rw [h.es]; simpa using st1, h.o2.kept st2 (Or.inr (by rw [e2]; simp; exact fun e => h.ne e.symm)), ?_, h.src, ?_, ?_, ?_⟩
  · exact h.cur.of_blocks st2.size (hold _ (by omega)) (fun b off e hl => hold b (by have := h.src b off e hl; omega))
  · intro i hi
    obtain ⟨z, hz⟩ := h.tab i hi
    exact ⟨z, (World.cell?_of_block (w := W) (hold _ (Nat.le_refl _))).trans hz⟩
  · exact h.bel.trans ⟨st2.os, st2.tape, st2.output, st2.size, fun k hk => hold k (by omega)⟩
  · simpa using h.siz

set_option maxRecDepth 100000 in
set_option maxHeartbeats 4000000 in
theorem drawCmp_any (a : Option Addr) (len cap : Nat) (w : World) (hs : Src w a len) :
    Calls Try.prog 26 #[.slice a len cap] w fun e w' => ∃ (N : Nat) (s t : Value) (g1 c1 g2 c2 : Nat) (xs ys : List Int), e = .returned (.tuple #[s, t]) ∧ Two w w' a len cap N s t g1 c1 g2 c2 xs ys := by
  obtain ⟨i0, hi, hz0, hz1, hz2⟩ := info_parts info3r
  have HC := hide (cur_new (cap := cap) hs)
  have HSRC := hide hs.2
  clear hs
  go_enter Try.func26, Try.ntmps26
  go_wp2_with fail
  have hcb := HC.out.below (below_alloc _ (.cells #[.int .i64 0, .int .i64 1, .int .i64 2, .int .i64 3, .int .i64 4, .int .i64 8, .int .i64 9, .int .i64 12, .int .i64 18, .int .i64 27, .int .i64 32, .int .i64 50, .int .i64 1000] 3))
  refine (among_any (l := 13) hcb (by omega) (by omega) (by omega) (by simp) (by omega) (table_cells w _)).mono ?_
  rintro e w1 ⟨x, rfl, hc1, hk1⟩
  have HT1 := hide (fun (i : Nat) (hi : i < 13) => (hk1.cell (b := w.heap.size + 1) (o := i) (by simp) (by omega)))
  have HTT := hide (table_cells w (.cells #[.slice a len cap, .int .i64 0, .int .u64 0] 67))
  have hz1' : w.heap.size + 1 < w1.heap.size := by have := hk1.size; simp at this; omega
  have hB1 : Below w.heap.size w w1 := (((Below.refl _ _).alloc (Nat.le_refl _) _).alloc (by simp) _).trans (hk1.below (Nat.le_refl _) (by simp; omega))
  have TAB1 : Hid (∀ i, i < 13 → ∃ z : Int, w1.cell? ⟨w.heap.size + 1, i, none⟩ = some (.int .i64 z)) := hide fun i hi => by
    obtain ⟨z, hz⟩ := HTT.out i hi
    exact ⟨z, (HT1.out i hi).trans hz⟩
  have HC1 := hide hc1
  clear hk1 HT1 HTT hcb hc1 HC
  go_wp2_with fail
  have hcb := HC1.out.below (below_alloc w1 (.cells #[.int .i64 x] 3))
  refine (among_any (l := 13) hcb (by omega) (by omega) (by omega) (by simp; omega) (by omega) (fun i hi => by
    obtain ⟨z, hz⟩ := TAB1.out i hi
    exact ⟨z, ((below_alloc w1 (.cells #[.int .i64 x] 3)).cell (p := ⟨w.heap.size + 1, i, none⟩) hz1').trans hz⟩)).mono ?_
  rintro e w2 ⟨y, rfl, hc2, hk2⟩
  have hz2' : w1.heap.size < w2.heap.size := by have := hk2.size; simp at this; omega
  have HT : Hid (Two w (w2.alloc (.cells #[.int .i64 y] 3)) a len cap 10 (.slice (some ⟨w1.heap.size, 0, none⟩) 1 1) (.slice (some ⟨w2.heap.size, 0, none⟩) 1 1) w1.heap.size 1 w2.heap.size 1 [x] [y]) := hide
    ⟨rfl, rfl, by simp, by simp, by simp, by omega, ((row1 w1 x (w.heap.size + 2) (by omega)).kept hk2.grown (Or.inr (by simp [Value.ownBlock]; omega))).alloc _, row1 w2 y (w.heap.size + 2) (by omega),
      (hc2.below (below_alloc w2 _)).le (by omega), HSRC.out, fun i hi => by
        obtain ⟨z, hz⟩ := TAB1.out i hi
        exact ⟨z, ((below_alloc w2 (.cells #[.int .i64 y] 3)).cell (p := ⟨w.heap.size + 1, i, none⟩) (by show w.heap.size + 1 < w2.heap.size; omega)).trans ((hk2.cell (b := w.heap.size + 1) (by simp; omega) (by omega)).trans (((below_alloc w1 (.cells #[.int .i64 x] 3)).cell (p := ⟨w.heap.size + 1, i, none⟩) hz1').trans hz))⟩,
      ((hB1.alloc hB1.size _).trans (hk2.below (Nat.le_refl _) (by simp; omega))).alloc (by omega) _, by simp; omega⟩
  clear hc2 hk2 TAB1 HC1 hB1
  go_wp2_with fail
  refine (one_any 2 (by omega) HT.out.cur (by omega)).mono ?_
  rintro e w3 ⟨r, rfl, hc3, hk3⟩
  have HT3 := hide (HT.out.kp hk3 hc3)
  clear hc3 hk3 HT
  go_upto_if 21 with fail
  go_cut [6, 7] (fun s t wc => ∃ (g1 c1 g2 c2 : Nat) (xs : List Int) (y : Int), t = .slice (some ⟨g2, 0, none⟩) 1 1 ∧ s = .slice (some ⟨g1, 0, none⟩) xs.length c1 ∧ Hid (Two w wc a len cap 20 s t g1 c1 g2 c2 xs [y]))
  case first =>
    cases r
    · go_wp2_with fail
      go_meet
      case rel => exact ⟨w1.heap.size, 1, w2.heap.size, 1, [x], y, rfl, rfl, hide (HT3.out.le (by omega))⟩
    · go_wp2_with fail
      refine (among_any (l := 13) HT3.out.cur (by omega) (by omega) (by omega) HT3.out.siz (by omega) HT3.out.tab).mono ?_
      rintro e w4 ⟨z, rfl, hc4, hk4⟩
      have HT4 := hide (HT3.out.kp hk4 hc4)
      have hz4 := HT4.out.siz
      have o4 : w4.ownsRow (w.heap.size + 2) 3 1 (.slice (some ⟨w1.heap.size, 0, none⟩) 1 1) 1 (ints [x]) := HT4.out.o1
      clear hc4 hk4 HT3
      go_wp2_with (first
        | (at_builtin; refine wpList_append_lies _ rfl _ _ 41 rfl (w.heap.size + 2) 3 i0 (.int .i64 0) 1 8 Try.underlying41 hi hz0 hz1 hz2 rfl (by decide) _ _ _ rfl (o4.alloc _) ⟨w4.heap.size, 0, none⟩ 1 1 [.int .i64 z] rfl rfl (new1 _ _) (cell1 _) (by omega) (by unfold maxLen; omega) (by omega) (by simp; omega) (w4.heap.size + 1) (by simp) ?_))
      intro g cc w5 hown' hgrow hat hlt
      go_wp2_with fail
      go_meet
      case rel => exact ⟨g, cc, w2.heap.size, 1, [x] ++ [z], y, rfl, rfl, hide ((HT4.out.app1 (by simp) hown' hgrow hat).le (by omega))⟩
  case rest =>
    obtain ⟨g1, c1, g2, c2, xs, y', rfl, rfl, HT⟩ := hcut
    obtain rfl : 1 = c2 := by have := HT.out.et; simp at this; exact this
    go_wp2_with fail
    refine (one_any 3 (by omega) HT.out.cur (by omega)).mono ?_
    rintro e w6 ⟨r, rfl, hc6, hk6⟩
    have HT6 := hide (HT.out.kp hk6 hc6)
    clear hc6 hk6 HT
    go_upto_if 30 with fail
    go_cut [6, 7] (fun s t wc => ∃ (g1 c1 g2 c2 : Nat) (xs ys : List Int), s = .slice (some ⟨g1, 0, none⟩) xs.length c1 ∧ t = .slice (some ⟨g2, 0, none⟩) ys.length c2 ∧ Hid (Two w wc a len cap 40 s t g1 c1 g2 c2 xs ys))
    case first =>
      cases r
      · go_wp2_with fail
        refine (among_any (l := 13) HT6.out.cur (by omega) (by omega) (by omega) HT6.out.siz (by omega) HT6.out.tab).mono ?_
        rintro e w7 ⟨z, rfl, hc7, hk7⟩
        have HT7 := hide (HT6.out.kp hk7 hc7)
        have HS7 := hide (HT7.out.swap (by simp))
        have hz7 := HT7.out.siz
        have o7 : w7.ownsRow (w.heap.size + 2) 3 1 (.slice (some ⟨g2, 0, none⟩) 1 1) 1 (ints [y']) := HS7.out.o1
        clear hc7 hk7 HT6
        go_wp2_with (first
        | (at_builtin; refine wpList_append_lies _ rfl _ _ 41 rfl (w.heap.size + 2) 3 i0 (.int .i64 0) 1 8 Try.underlying41 hi hz0 hz1 hz2 rfl (by decide) _ _ _ rfl (o7.alloc _) ⟨w7.heap.size, 0, none⟩ 1 1 [.int .i64 z] rfl rfl (new1 _ _) (cell1 _) (by omega) (by unfold maxLen; omega) (by omega) (by simp; omega) (w7.heap.size + 1) (by simp) ?_))
        intro g cc w8 hown' hgrow hat hlt
        go_wp2_with fail
        go_meet
        case rel => exact ⟨g1, c1, g, cc, xs, [y'] ++ [z], rfl, rfl, hide (((HS7.out.app1 (by simp) hown' hgrow hat).swap HT7.out.l1).le (by omega))⟩
      · go_wp2_with fail
        go_meet
        case rel => exact ⟨g1, c1, g2, 1, xs, [y'], rfl, rfl, hide (HT6.out.le (by omega))⟩
    case rest =>
      obtain ⟨g1, c1, g2, c2, xs, ys, rfl, rfl, HT⟩ := hcut
      go_wp2_with fail
      refine (one_any 30 (by omega) HT.out.cur (by omega)).mono ?_
      rintro e w9 ⟨r, rfl, hc9, hk9⟩
      have HT9 := hide (HT.out.kp hk9 hc9)
      clear hc9 hk9 HT
      cases r
      · go_wp2_with fail
        go_ret2
        exact ⟨_, _, _, g1, c1, g2, c2, xs, ys, rfl, HT9.out⟩
      · have hx0 : (0 : Int) < (xs.length : Int) := by have := HT9.out.l1; omega
        have hz9 := HT9.out.siz
        go_wp2_with fail
        have HA := hide (HT9.out.alloc (.cells #[.int .i64 (-1), .int .i64 1001] 3))
        refine (among_any (l := 2) HA.out.cur (by omega) (by omega) (by omega) (by simp) (by omega) (nine_cells w9 [-1, 1001] 3)).mono ?_
        rintro e wA ⟨z, rfl, hcA, hkA⟩
        have HTA := hide (HA.out.kp hkA hcA)
        have HP := hide (HTA.out.put z)
        have f0 : wA.frozen? ⟨g1, 0, none⟩ = false := World.ownsRow.frozenAt HTA.out.o1 0
        have k0 : wA.cell? ⟨g1, 0, none⟩ = some (.int .i64 (xs.getD 0 0)) := by
          rw [World.ownsRow.cellAt HTA.out.o1 0 (by have := HTA.out.l1; omega)]
          exact ints_get xs 0 HTA.out.l1
        clear hcA hkA HT9 HA
        go_wp2_with fail
        go_ret2
        exact ⟨_, _, _, g1, c1, g2, c2, _, ys, by simp, HP.out⟩
end Go.Proofs.Ytdmdhmcnedmnbaa
