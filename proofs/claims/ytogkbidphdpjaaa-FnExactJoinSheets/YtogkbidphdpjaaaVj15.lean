/-
  Region 3 of the model's JoinSheets, in all its orders. (Written by genjm15.py.)
-/
import Derived.Test.YtogkbidphdpjaaaVi15
namespace Go.Proofs.Ytogkbidphdpjaaa
open Go.RowKit

/-- A sheet's variable, as yet with none. -/
structure Z2 (w : World) (b : Nat) : Prop where
  c0 : w.cell? ⟨b, 0, none⟩ = some (.slice none 0 0)
  c1 : w.cell? ⟨b, 1, none⟩ = some (.slice none 0 0)
  z0 : w.frozen? ⟨b, 0, none⟩ = false
  z1 : w.frozen? ⟨b, 1, none⟩ = false
  lt : b < w.heap.size
theorem Z2.new (w : World) (t : TypeId) : Z2 (w.alloc (.cells #[.slice none 0 0, .slice none 0 0] t)) w.heap.size := ⟨by simp, by simp, by simp, by simp, by simp⟩
theorem Z2.keep {w w' : World} {b : Nat} (h : Z2 w b) (hs : w.heap.size ≤ w'.heap.size) (hb : w'.heap[b]? = w.heap[b]?) : Z2 w' b :=
  ⟨(World.cell?_of_block (w := w) (a := ⟨b, 0, none⟩) hb).trans h.c0, (World.cell?_of_block (w := w) (a := ⟨b, 1, none⟩) hb).trans h.c1, (World.frozen?_of_block (w := w) (a := ⟨b, 0, none⟩) hb).trans h.z0, (World.frozen?_of_block (w := w) (a := ⟨b, 1, none⟩) hb).trans h.z1, Nat.lt_of_lt_of_le h.lt hs⟩
theorem Z2.below {w w' : World} {b : Nat} (h : Z2 w b) (hb : Below w.heap.size w w') : Z2 w' b := h.keep hb.size (hb.block b h.lt)
/-- A sheet that is made, in a variable: its two lists lie behind a world, each in a block of its own. -/
structure JM (w0 w : World) (J : Nat) (v v' : Value) (gs : List Gd) (ls : List (Int × Int)) : Prop where
  c0 : w.cell? ⟨J, 0, none⟩ = some v
  c1 : w.cell? ⟨J, 1, none⟩ = some v'
  f0 : w.frozen? ⟨J, 0, none⟩ = false
  f1 : w.frozen? ⟨J, 1, none⟩ = false
  o1 : w.ownsRow w0.heap.size 68 2 v gs.length (gce gs)
  o2 : w.ownsRow w0.heap.size 52 2 v' ls.length (lce ls)
  ne : ∀ g, v.ownBlock = some g → v'.ownBlock ≠ some g
  n1 : v.ownBlock ≠ some J
  n2 : v'.ownBlock ≠ some J
  lt : J < w.heap.size
  lo : w0.heap.size ≤ J
  below : Below w0.heap.size w0 w
theorem JM.make {w0 w : World} {FB n n' : Nat} {v v' : Value} {gs : List Gd} {ls : List (Int × Int)} (hn : gs.length = n) (hn' : ls.length = n') (z : Z2 w FB) (lo : w0.heap.size ≤ FB) (o1 : w.ownsRow w0.heap.size 68 2 v n (gce gs)) (o2 : w.ownsRow w0.heap.size 52 2 v' n' (lce ls)) (b0 : Below w0.heap.size w0 w)
    (ne : ∀ g, v.ownBlock = some g → v'.ownBlock ≠ some g) (n1 : v.ownBlock ≠ some FB) (n2 : v'.ownBlock ≠ some FB) : JM w0 ((w.setCell ⟨FB, 0, none⟩ v).setCell ⟨FB, 1, none⟩ v') FB v v' gs ls := by
  subst hn hn'
  have ob : ∀ g, g ≠ FB → ((w.setCell ⟨FB, 0, none⟩ v).setCell ⟨FB, 1, none⟩ v').heap[g]? = w.heap[g]? := fun g hg => (Below.heap_setCell _ _ _ _ hg).trans (Below.heap_setCell _ _ _ _ hg)
  refine ⟨(World.cell?_setCell_other _ _ _ _ (by simp)).trans (World.cell?_setCell_same _ _ _ z.c0), World.cell?_setCell_same _ _ _ ((World.cell?_setCell_other _ _ _ _ (by simp)).trans z.c1), (World.frozen?_setCell ..).trans ((World.frozen?_setCell ..).trans z.z0), (World.frozen?_setCell ..).trans ((World.frozen?_setCell ..).trans z.z1), own_keep15 o1 fun g hg _ => ob g fun e => n1 (e ▸ hg), own_keep15 o2 fun g hg _ => ob g fun e => n2 (e ▸ hg), ne, n1, n2, by simpa using z.lt, lo, (b0.setCell (p := ⟨FB, 0, none⟩) lo _).setCell (p := ⟨FB, 1, none⟩) lo _⟩
theorem grown_und15 {w w' : World} {base e s n : Nat} {v : Value} {xs : List Value} (hg : w.grownBy w' v.ownBlock) (h : w.ownsRow base e s v n xs) (hs : base ≤ w.heap.size) : Below base w w' :=
  ⟨hg.os, hg.tape, hg.output, hg.size, fun b hb => hg.block b (by omega) (fun he => by have := (h.lt b he.symm).1; omega)⟩
/-- All of a list of goods behind an empty one. -/
theorem app_gd {W : World} {a : Option Addr} {n c S : Nat} {gs : List Gd} {v : Value} (hn : gs.length = n) (hl : n ≤ 1000) (h : GRow W a gs) (ho : W.ownsRow S 68 2 v 0 []) (hS : S ≤ W.heap.size) :
    ∃ p q w1, (∀ ty, (Builtin.append_ #[28, 28] ty #[v, .slice a n c]).run Try.prog W = .ok (.slice p n q) w1) ∧ w1.ownsRow S 68 2 (.slice p n q) n (gce gs) ∧ W.grownBy w1 v.ownBlock ∧ ∀ g, (Value.slice p n q).ownBlock = some g → v.ownBlock = some g ∨ W.heap.size ≤ g := by
  obtain ⟨i0, hi, hz0, hz1, hz2⟩ := infoG15
  obtain ⟨av, cv, rfl⟩ := own_f15 ho
  by_cases h0 : n = 0
  · subst h0
    have e : gs = [] := List.length_eq_zero_iff.1 hn
    subst e
    refine ⟨av, cv, W, fun ty => ?_, ho, World.grownBy.refl _ _, fun g hg => Or.inl hg⟩
    exact app_none15 Try.underlying28 hi ho
  · rcases h with h | ⟨b, off, rfl, hb, hc⟩
    · rw [h] at hn; exact absurd hn.symm h0
    obtain ⟨g, cap, w1, h1, h2, h3, h4, _⟩ := run_append_lies (P := Try.prog) (w := W) 28 0 S 68 i0 _ 2 24 Try.underlying28 hi hz0 hz1 hz2 rfl (by decide) _ 0 [] ho ⟨b, off, none⟩ n c (gce gs) (by rw [pq_len, hn]) (fun j u hj => by
      rw [add15]
      have hjl : j < gs.length * 2 := by have := (List.getElem?_eq_some_iff.1 hj).1; rwa [pq_len] at this
      obtain ⟨g1, g2⟩ := pq_get gV gN gd0 gs (j / 2) (by omega)
      obtain ⟨c1, c2⟩ := hc (j / 2) (by omega)
      by_cases e : j % 2 = 0
      · rw [show j = j / 2 * 2 by omega] at hj ⊢
        rw [g1] at hj; cases hj; exact c1
      · rw [show j = j / 2 * 2 + 1 by omega] at hj ⊢
        rw [g2] at hj; cases hj; exact c2) (pq_one15 (fun _ => rfl) (fun _ => rfl) gs) (by omega) (by unfold maxLen; omega) (by omega) hS _ rfl
    rw [Nat.zero_add, List.nil_append] at h2
    rw [Nat.zero_add] at h1
    refine ⟨some ⟨g, 0, none⟩, cap, w1, fun _ => h1, h2, h3, fun g' hg' => ?_⟩
    cases hg'
    rcases h4 with h4 | h4
    · exact Or.inl h4
    · exact Or.inr (Nat.le_of_eq h4.symm)
theorem app_ln {W : World} {a : Option Addr} {n c S : Nat} {gs : List (Int × Int)} {v : Value} (hn : gs.length = n) (hl : n ≤ 1000) (h : LRow W a gs) (ho : W.ownsRow S 52 2 v 0 []) (hS : S ≤ W.heap.size) :
    ∃ p q w1, (∀ ty, (Builtin.append_ #[29, 29] ty #[v, .slice a n c]).run Try.prog W = .ok (.slice p n q) w1) ∧ w1.ownsRow S 52 2 (.slice p n q) n (lce gs) ∧ W.grownBy w1 v.ownBlock ∧ ∀ g, (Value.slice p n q).ownBlock = some g → v.ownBlock = some g ∨ W.heap.size ≤ g := by
  obtain ⟨i0, hi, hz0, hz1, hz2⟩ := infoL15
  obtain ⟨av, cv, rfl⟩ := own_f15 ho
  by_cases h0 : n = 0
  · subst h0
    have e : gs = [] := List.length_eq_zero_iff.1 hn
    subst e
    refine ⟨av, cv, W, fun ty => ?_, ho, World.grownBy.refl _ _, fun g hg => Or.inl hg⟩
    exact app_none15 Try.underlying29 hi ho
  · rcases h with h | ⟨b, off, rfl, hb, hc⟩
    · rw [h] at hn; exact absurd hn.symm h0
    obtain ⟨g, cap, w1, h1, h2, h3, h4, _⟩ := run_append_lies (P := Try.prog) (w := W) 29 0 S 52 i0 _ 2 16 Try.underlying29 hi hz0 hz1 hz2 rfl (by decide) _ 0 [] ho ⟨b, off, none⟩ n c (lce gs) (by rw [pq_len, hn]) (fun j u hj => by
      rw [add15]
      have hjl : j < gs.length * 2 := by have := (List.getElem?_eq_some_iff.1 hj).1; rwa [pq_len] at this
      obtain ⟨g1, g2⟩ := pq_get lV lN (0, 0) gs (j / 2) (by omega)
      obtain ⟨c1, c2⟩ := hc (j / 2) (by omega)
      by_cases e : j % 2 = 0
      · rw [show j = j / 2 * 2 by omega] at hj ⊢
        rw [g1] at hj; cases hj; exact c1
      · rw [show j = j / 2 * 2 + 1 by omega] at hj ⊢
        rw [g2] at hj; cases hj; exact c2) (pq_one15 (fun _ => rfl) (fun _ => rfl) gs) (by omega) (by unfold maxLen; omega) (by omega) hS _ rfl
    rw [Nat.zero_add, List.nil_append] at h2
    rw [Nat.zero_add] at h1
    refine ⟨some ⟨g, 0, none⟩, cap, w1, fun _ => h1, h2, h3, fun g' hg' => ?_⟩
    cases hg'
    rcases h4 with h4 | h4
    · exact Or.inl h4
    · exact Or.inr (Nat.le_of_eq h4.symm)
/-- The operations of the region that copies a sheet. -/
def ops15 : Array Oper :=
      #[{ dst := some 22, op := Op.buildSlice 28 0 #[], type := 28, pos := "l15_sheet.go:137", after := #[],
          guard := none },
        { dst := some 23, op := Op.fieldAddr 31 (Operand.tmp 2) 0, type := 0, pos := "l15_sheet.go:137", after := #[],
          guard := none },
        { dst := some 24, op := Op.load 28 (Operand.tmp 23), type := 28, pos := "l15_sheet.go:137",
          after := #[{ on := 1, ground := Ground.data }], guard := none },
        { dst := some 25,
          op :=
            Op.call
              { callee := Callee.builtin Builtin.append, args := #[Operand.tmp 22, Operand.tmp 24],
                argTypes := #[28, 28] },
          type := 28, pos := "l15_sheet.go:137",
          after := #[{ on := 0, ground := Ground.data }, { on := 2, ground := Ground.data }], guard := none },
        { dst := some 26, op := Op.buildSlice 29 0 #[], type := 29, pos := "l15_sheet.go:137", after := #[],
          guard := none },
        { dst := some 27, op := Op.fieldAddr 31 (Operand.tmp 2) 1, type := 0, pos := "l15_sheet.go:137", after := #[],
          guard := none },
        { dst := some 28, op := Op.load 29 (Operand.tmp 27), type := 29, pos := "l15_sheet.go:137",
          after := #[{ on := 5, ground := Ground.data }], guard := none },
        { dst := some 29,
          op :=
            Op.call
              { callee := Callee.builtin Builtin.append, args := #[Operand.tmp 26, Operand.tmp 28],
                argTypes := #[29, 29] },
          type := 29, pos := "l15_sheet.go:137",
          after :=
            #[{ on := 4, ground := Ground.data }, { on := 6, ground := Ground.data },
              { on := 3, ground := Ground.chain }],
          guard := none },
        { dst := some 30, op := Op.build 31 #[(0, Operand.tmp 25), (1, Operand.tmp 29)], type := 31,
          pos := "l15_sheet.go:137", after := #[{ on := 3, ground := Ground.data }, { on := 7, ground := Ground.data }],
          guard := none },
        { dst := some 6, op := Op.alloc 31, type := 0, pos := "l15_sheet.go:137", after := #[], guard := none },
        { dst := none, op := Op.store 31 (Operand.tmp 6) (Operand.tmp 30), type := 0, pos := "l15_sheet.go:137",
          after :=
            #[{ on := 9, ground := Ground.data }, { on := 8, ground := Ground.data },
              { on := 7, ground := Ground.chain }, { on := 0, ground := Ground.phase },
              { on := 1, ground := Ground.phase }, { on := 2, ground := Ground.phase },
              { on := 3, ground := Ground.phase }, { on := 4, ground := Ground.phase },
              { on := 5, ground := Ground.phase }, { on := 6, ground := Ground.phase },
              { on := 7, ground := Ground.phase }, { on := 8, ground := Ground.phase },
              { on := 9, ground := Ground.phase }],
          guard := none }]
set_option maxRecDepth 20000 in
set_option maxHeartbeats 4000000 in
theorem jmd_0_3_4_7_9 {Q : Exit → Act → World → Prop} {w0 W : World} {a a' : Option Addr} {n c n' c' A : Nat} {ga : List Gd} {la : List (Int × Int)} {x0 x1 x3 x4 x13 x17 : Value} {B1 B2 FB : Nat} {p1 : Option Addr} {q1 : Nat} {p2 : Option Addr} {q2 : Nat} (HN : Hid (ga.length = n)) (_hn : n ≤ 1000) (HL : Hid (la.length = n')) (_hn' : n' ≤ 1000) (_HGA : Hid (∀ X, Below w0.heap.size w0 X → GRow X a ga)) (_HLA : Hid (∀ X, Below w0.heap.size w0 X → LRow X a' la)) (HSA : Hid (∀ X, Below w0.heap.size w0 X → X.cell? ⟨A, 0, none⟩ = some (.slice a n c) ∧ X.cell? ⟨A, 1, none⟩ = some (.slice a' n' c'))) (hQ : Hid (∀ B1 B2 FB p1 q1 p2 q2 X, JM w0 X FB (.slice p1 n q1) (.slice p2 n' q2) ga la → Q .normal ⟨#[x0, x1, .pointer (some ⟨A, 0, none⟩), x3, x4, .bool false, .pointer (some ⟨FB, 0, none⟩), undef, undef, undef, undef, undef, undef, x13, .bool true, .bool false, .bool false, x17, .bool true, .bool false, .bool false, undef, .slice (some ⟨B1, 0, none⟩) 0 0, .pointer (some ⟨A, 0, none⟩), .slice a n c, .slice p1 n q1, .slice (some ⟨B2, 0, none⟩) 0 0, .pointer (some ⟨A, 1, none⟩), .slice a' n' c', .slice p2 n' q2, .agg #[.slice p1 n q1, .slice p2 n' q2], undef, undef, undef, undef, undef, undef, undef, undef, undef, undef, undef, undef, undef, undef, undef, undef, undef, undef, undef, undef, undef, undef, undef, undef, undef, undef, undef, undef, undef, undef, undef, undef, undef, undef, undef, undef, undef, undef, undef, undef, undef, undef, undef, undef, undef, undef, undef, undef, undef, undef, undef, undef, undef, undef, undef, undef, undef, undef, undef, undef, undef, undef, undef], []⟩ X)) (H1 : Hid (W.ownsRow w0.heap.size 68 2 (.slice p1 n q1) n (gce ga))) (H2 : Hid (W.ownsRow w0.heap.size 52 2 (.slice p2 n' q2) n' (lce la))) (HFB : Hid (Z2 W FB ∧ w0.heap.size ≤ FB)) (HBL : Hid (Below w0.heap.size w0 W)) (N12 : Hid (∀ g, (Value.slice p1 n q1).ownBlock = some g → (Value.slice p2 n' q2).ownBlock ≠ some g)) (N1F : Hid ((Value.slice p1 n q1).ownBlock ≠ some FB)) (N2F : Hid ((Value.slice p2 n' q2).ownBlock ≠ some FB)) :
    wpAnyH Try.prog .any ops15 (NoPanic Q) (fun X => X.cell? ⟨A, 0, none⟩ = some (.slice a n c) ∧ X.cell? ⟨A, 1, none⟩ = some (.slice a' n' c')) 1 #[true, true, true, true, true, true, true, true, true, true, false] ⟨#[x0, x1, .pointer (some ⟨A, 0, none⟩), x3, x4, .bool false, .pointer (some ⟨FB, 0, none⟩), undef, undef, undef, undef, undef, undef, x13, .bool true, .bool false, .bool false, x17, .bool true, .bool false, .bool false, undef, .slice (some ⟨B1, 0, none⟩) 0 0, .pointer (some ⟨A, 0, none⟩), .slice a n c, .slice p1 n q1, .slice (some ⟨B2, 0, none⟩) 0 0, .pointer (some ⟨A, 1, none⟩), .slice a' n' c', .slice p2 n' q2, .agg #[.slice p1 n q1, .slice p2 n' q2], undef, undef, undef, undef, undef, undef, undef, undef, undef, undef, undef, undef, undef, undef, undef, undef, undef, undef, undef, undef, undef, undef, undef, undef, undef, undef, undef, undef, undef, undef, undef, undef, undef, undef, undef, undef, undef, undef, undef, undef, undef, undef, undef, undef, undef, undef, undef, undef, undef, undef, undef, undef, undef, undef, undef, undef, undef, undef, undef, undef, undef, undef, undef], []⟩ W := by
  obtain ⟨y0, y1, z0, z1, z9⟩ := HFB.out.1
  have HCF := hide (JM.make (v := .slice p1 n q1) (v' := .slice p2 n' q2) (gs := ga) (ls := la) HN.out HL.out HFB.out.1 HFB.out.2 H1.out H2.out HBL.out N12.out N1F.out N2F.out)
  have HST := hide (HSA.out _ HCF.out.below)
  clear HFB H1 H2 HBL N12 N1F N2F
  unfold ops15
  refine wpAnyH_ready (rs := [10]) (by kernel_rfl) (by simp) ?_
  refine AllReadyH.cons (o := ⟨none, _, _, _, _, none⟩) rfl (fun K hK => ?_) AllReadyH.nil
  go_simp
  refine hK.out _ _ HST.out (fun _ => ?_)
  clear hK K z0 z1 y0 y1
  refine wpAnyH_done (by kernel_rfl) ?_ _
  exact NoPanic.normal (hQ.out B1 B2 FB p1 q1 p2 q2 _ HCF.out)
set_option maxRecDepth 20000 in
set_option maxHeartbeats 4000000 in
theorem jmd_0_3_4_9 {Q : Exit → Act → World → Prop} {w0 W : World} {a a' : Option Addr} {n c n' c' A : Nat} {ga : List Gd} {la : List (Int × Int)} {x0 x1 x3 x4 x13 x17 : Value} {B1 B2 FB : Nat} {p1 : Option Addr} {q1 : Nat} (HN : Hid (ga.length = n)) (hn : n ≤ 1000) (HL : Hid (la.length = n')) (hn' : n' ≤ 1000) (HGA : Hid (∀ X, Below w0.heap.size w0 X → GRow X a ga)) (HLA : Hid (∀ X, Below w0.heap.size w0 X → LRow X a' la)) (HSA : Hid (∀ X, Below w0.heap.size w0 X → X.cell? ⟨A, 0, none⟩ = some (.slice a n c) ∧ X.cell? ⟨A, 1, none⟩ = some (.slice a' n' c'))) (hQ : Hid (∀ B1 B2 FB p1 q1 p2 q2 X, JM w0 X FB (.slice p1 n q1) (.slice p2 n' q2) ga la → Q .normal ⟨#[x0, x1, .pointer (some ⟨A, 0, none⟩), x3, x4, .bool false, .pointer (some ⟨FB, 0, none⟩), undef, undef, undef, undef, undef, undef, x13, .bool true, .bool false, .bool false, x17, .bool true, .bool false, .bool false, undef, .slice (some ⟨B1, 0, none⟩) 0 0, .pointer (some ⟨A, 0, none⟩), .slice a n c, .slice p1 n q1, .slice (some ⟨B2, 0, none⟩) 0 0, .pointer (some ⟨A, 1, none⟩), .slice a' n' c', .slice p2 n' q2, .agg #[.slice p1 n q1, .slice p2 n' q2], undef, undef, undef, undef, undef, undef, undef, undef, undef, undef, undef, undef, undef, undef, undef, undef, undef, undef, undef, undef, undef, undef, undef, undef, undef, undef, undef, undef, undef, undef, undef, undef, undef, undef, undef, undef, undef, undef, undef, undef, undef, undef, undef, undef, undef, undef, undef, undef, undef, undef, undef, undef, undef, undef, undef, undef, undef, undef, undef, undef, undef, undef, undef], []⟩ X)) (H1 : Hid (W.ownsRow w0.heap.size 68 2 (.slice p1 n q1) n (gce ga))) (H2 : Hid (W.ownsRow w0.heap.size 52 2 (.slice (some ⟨B2, 0, none⟩) 0 0) 0 [])) (HFB : Hid (Z2 W FB ∧ w0.heap.size ≤ FB)) (HBL : Hid (Below w0.heap.size w0 W)) (N12 : Hid (∀ g, (Value.slice p1 n q1).ownBlock = some g → (Value.slice (some ⟨B2, 0, none⟩) 0 0).ownBlock ≠ some g)) (N1F : Hid ((Value.slice p1 n q1).ownBlock ≠ some FB)) (N2F : Hid ((Value.slice (some ⟨B2, 0, none⟩) 0 0).ownBlock ≠ some FB)) :
    wpAnyH Try.prog .any ops15 (NoPanic Q) (fun X => X.cell? ⟨A, 0, none⟩ = some (.slice a n c) ∧ X.cell? ⟨A, 1, none⟩ = some (.slice a' n' c')) 3 #[true, true, true, true, true, true, true, false, false, true, false] ⟨#[x0, x1, .pointer (some ⟨A, 0, none⟩), x3, x4, .bool false, .pointer (some ⟨FB, 0, none⟩), undef, undef, undef, undef, undef, undef, x13, .bool true, .bool false, .bool false, x17, .bool true, .bool false, .bool false, undef, .slice (some ⟨B1, 0, none⟩) 0 0, .pointer (some ⟨A, 0, none⟩), .slice a n c, .slice p1 n q1, .slice (some ⟨B2, 0, none⟩) 0 0, .pointer (some ⟨A, 1, none⟩), .slice a' n' c', undef, undef, undef, undef, undef, undef, undef, undef, undef, undef, undef, undef, undef, undef, undef, undef, undef, undef, undef, undef, undef, undef, undef, undef, undef, undef, undef, undef, undef, undef, undef, undef, undef, undef, undef, undef, undef, undef, undef, undef, undef, undef, undef, undef, undef, undef, undef, undef, undef, undef, undef, undef, undef, undef, undef, undef, undef, undef, undef, undef, undef, undef, undef, undef, undef], []⟩ W := by
  unfold ops15
  refine wpAnyH_ready (rs := [7]) (by kernel_rfl) (by simp) ?_
  refine AllReadyH.cons (o := ⟨some 29, _, _, _, _, none⟩) rfl (fun K hK => ?_) (AllReadyH.nil)
  · have hsz := HBL.out.size
    have k1 := fun g (hg : (Value.slice p1 n q1).ownBlock = some g) => (H1.out.lt g hg).2
    have k2 := fun g (hg : (Value.slice (some ⟨B2, 0, none⟩) 0 0).ownBlock = some g) => (H2.out.lt g hg).2
    have kF := HFB.out.1.lt
    obtain ⟨p2, q2, w1, hr, ow, hg, hat⟩ := app_ln HL.out hn' (HLA.out _ HBL.out) H2.out hsz (c := c')
    have H2n := hide ow
    have H1n := hide (own_keep15 H1.out fun g hv hl => hg.block g hl fun e => N12.out g hv e.symm)
    have HFBn := hide (⟨HFB.out.1.keep hg.size (hg.block FB kF fun e => N2F.out e.symm), HFB.out.2⟩ : _ ∧ _)
    have HBLn := hide (HBL.out.trans (grown_und15 hg H2.out hsz))
    have N12n : Hid (∀ g, (Value.slice p1 n q1).ownBlock = some g → (Value.slice p2 n' q2).ownBlock ≠ some g) := hide fun g h1 h2 => (hat g h2).elim (fun h => N12.out g h1 h) (fun h => absurd (k1 _ h1) (Nat.not_lt.2 h))
    have N2Fn : Hid ((Value.slice p2 n' q2).ownBlock ≠ some FB) := hide fun h1 => (hat FB h1).elim (fun h => N2F.out h) (fun h => absurd kF (Nat.not_lt.2 h))
    have N1Fn := N1F
    refine step15 (by rfl) (.tmp 26) (.tmp 28) 29 29 (by rfl) (.slice (some ⟨B2, 0, none⟩) 0 0) (.slice a' n' c') (by rfl) (by rfl) (.slice p2 n' q2) w1 (hr _) ?_
    refine hK.out _ _ (HSA.out _ HBLn.out) (fun _ => ?_)
    simp only [Act.put, List.setIfInBounds_toArray, List.set_cons_zero, List.set_cons_succ]
    clear hK K hg hr hat ow
    clear H1 H2 HFB HBL N12 N1F N2F
    refine wpAnyH_take (i := 8) (oi := ⟨some 30, _, _, _, _, none⟩) (v := .agg #[.slice p1 n q1, .slice p2 n' q2]) rfl (by kernel_rfl) (by kernel_rfl) (by kernel_rfl) (fun _ _ _ h => h) (Or.inl ⟨by rfl, fun w' hSw => by obtain ⟨s0, s1⟩ := hSw; go_simp⟩) (HSA.out _ HBLn.out) ?_
    simp only [Act.put, List.setIfInBounds_toArray, List.set_cons_zero, List.set_cons_succ]
    exact jmd_0_3_4_7_9 HN hn HL hn' HGA HLA HSA hQ H1n H2n HFBn HBLn N12n N1Fn N2Fn
set_option maxRecDepth 20000 in
set_option maxHeartbeats 4000000 in
theorem jmd_0_3_4_7 {Q : Exit → Act → World → Prop} {w0 W : World} {a a' : Option Addr} {n c n' c' A : Nat} {ga : List Gd} {la : List (Int × Int)} {x0 x1 x3 x4 x13 x17 : Value} {B1 B2 : Nat} {p1 : Option Addr} {q1 : Nat} {p2 : Option Addr} {q2 : Nat} (HN : Hid (ga.length = n)) (hn : n ≤ 1000) (HL : Hid (la.length = n')) (hn' : n' ≤ 1000) (HGA : Hid (∀ X, Below w0.heap.size w0 X → GRow X a ga)) (HLA : Hid (∀ X, Below w0.heap.size w0 X → LRow X a' la)) (HSA : Hid (∀ X, Below w0.heap.size w0 X → X.cell? ⟨A, 0, none⟩ = some (.slice a n c) ∧ X.cell? ⟨A, 1, none⟩ = some (.slice a' n' c'))) (hQ : Hid (∀ B1 B2 FB p1 q1 p2 q2 X, JM w0 X FB (.slice p1 n q1) (.slice p2 n' q2) ga la → Q .normal ⟨#[x0, x1, .pointer (some ⟨A, 0, none⟩), x3, x4, .bool false, .pointer (some ⟨FB, 0, none⟩), undef, undef, undef, undef, undef, undef, x13, .bool true, .bool false, .bool false, x17, .bool true, .bool false, .bool false, undef, .slice (some ⟨B1, 0, none⟩) 0 0, .pointer (some ⟨A, 0, none⟩), .slice a n c, .slice p1 n q1, .slice (some ⟨B2, 0, none⟩) 0 0, .pointer (some ⟨A, 1, none⟩), .slice a' n' c', .slice p2 n' q2, .agg #[.slice p1 n q1, .slice p2 n' q2], undef, undef, undef, undef, undef, undef, undef, undef, undef, undef, undef, undef, undef, undef, undef, undef, undef, undef, undef, undef, undef, undef, undef, undef, undef, undef, undef, undef, undef, undef, undef, undef, undef, undef, undef, undef, undef, undef, undef, undef, undef, undef, undef, undef, undef, undef, undef, undef, undef, undef, undef, undef, undef, undef, undef, undef, undef, undef, undef, undef, undef, undef, undef], []⟩ X)) (H1 : Hid (W.ownsRow w0.heap.size 68 2 (.slice p1 n q1) n (gce ga))) (H2 : Hid (W.ownsRow w0.heap.size 52 2 (.slice p2 n' q2) n' (lce la))) (HBL : Hid (Below w0.heap.size w0 W)) (N12 : Hid (∀ g, (Value.slice p1 n q1).ownBlock = some g → (Value.slice p2 n' q2).ownBlock ≠ some g)) :
    wpAnyH Try.prog .any ops15 (NoPanic Q) (fun X => X.cell? ⟨A, 0, none⟩ = some (.slice a n c) ∧ X.cell? ⟨A, 1, none⟩ = some (.slice a' n' c')) 2 #[true, true, true, true, true, true, true, true, true, false, false] ⟨#[x0, x1, .pointer (some ⟨A, 0, none⟩), x3, x4, .bool false, undef, undef, undef, undef, undef, undef, undef, x13, .bool true, .bool false, .bool false, x17, .bool true, .bool false, .bool false, undef, .slice (some ⟨B1, 0, none⟩) 0 0, .pointer (some ⟨A, 0, none⟩), .slice a n c, .slice p1 n q1, .slice (some ⟨B2, 0, none⟩) 0 0, .pointer (some ⟨A, 1, none⟩), .slice a' n' c', .slice p2 n' q2, .agg #[.slice p1 n q1, .slice p2 n' q2], undef, undef, undef, undef, undef, undef, undef, undef, undef, undef, undef, undef, undef, undef, undef, undef, undef, undef, undef, undef, undef, undef, undef, undef, undef, undef, undef, undef, undef, undef, undef, undef, undef, undef, undef, undef, undef, undef, undef, undef, undef, undef, undef, undef, undef, undef, undef, undef, undef, undef, undef, undef, undef, undef, undef, undef, undef, undef, undef, undef, undef, undef, undef], []⟩ W := by
  unfold ops15
  refine wpAnyH_ready (rs := [9]) (by kernel_rfl) (by simp) ?_
  refine AllReadyH.cons (o := ⟨some 6, _, _, _, _, none⟩) rfl (fun K hK => ?_) (AllReadyH.nil)
  · have hsz := HBL.out.size
    have k1 := fun g (hg : (Value.slice p1 n q1).ownBlock = some g) => (H1.out.lt g hg).2
    have k2 := fun g (hg : (Value.slice p2 n' q2).ownBlock = some g) => (H2.out.lt g hg).2
    have hb' := below_new W (.cells #[.slice none 0 0, .slice none 0 0] 31)
    have H1n := hide (own_below15 H1.out hb')
    have H2n := hide (own_below15 H2.out hb')
    have HFBn := hide (⟨Z2.new W 31, hsz⟩ : _ ∧ _)
    have HBLn := hide (HBL.out.trans (hb'.mono hsz))
    have N12n := N12
    have N1Fn : Hid ((Value.slice p1 n q1).ownBlock ≠ some W.heap.size) := hide fun h => absurd (k1 _ h) (Nat.lt_irrefl _)
    have N2Fn : Hid ((Value.slice p2 n' q2).ownBlock ≠ some W.heap.size) := hide fun h => absurd (k2 _ h) (Nat.lt_irrefl _)
    go_simp
    refine hK.out _ _ (HSA.out _ HBLn.out) (fun _ => ?_)
    clear hK K hb'
    clear H1 H2 HBL N12
    exact jmd_0_3_4_7_9 HN hn HL hn' HGA HLA HSA hQ H1n H2n HFBn HBLn N12n N1Fn N2Fn
set_option maxRecDepth 20000 in
set_option maxHeartbeats 4000000 in
theorem jmd_0_4_9 {Q : Exit → Act → World → Prop} {w0 W : World} {a a' : Option Addr} {n c n' c' A : Nat} {ga : List Gd} {la : List (Int × Int)} {x0 x1 x3 x4 x13 x17 : Value} {B1 B2 FB : Nat} (HN : Hid (ga.length = n)) (hn : n ≤ 1000) (HL : Hid (la.length = n')) (hn' : n' ≤ 1000) (HGA : Hid (∀ X, Below w0.heap.size w0 X → GRow X a ga)) (HLA : Hid (∀ X, Below w0.heap.size w0 X → LRow X a' la)) (HSA : Hid (∀ X, Below w0.heap.size w0 X → X.cell? ⟨A, 0, none⟩ = some (.slice a n c) ∧ X.cell? ⟨A, 1, none⟩ = some (.slice a' n' c'))) (hQ : Hid (∀ B1 B2 FB p1 q1 p2 q2 X, JM w0 X FB (.slice p1 n q1) (.slice p2 n' q2) ga la → Q .normal ⟨#[x0, x1, .pointer (some ⟨A, 0, none⟩), x3, x4, .bool false, .pointer (some ⟨FB, 0, none⟩), undef, undef, undef, undef, undef, undef, x13, .bool true, .bool false, .bool false, x17, .bool true, .bool false, .bool false, undef, .slice (some ⟨B1, 0, none⟩) 0 0, .pointer (some ⟨A, 0, none⟩), .slice a n c, .slice p1 n q1, .slice (some ⟨B2, 0, none⟩) 0 0, .pointer (some ⟨A, 1, none⟩), .slice a' n' c', .slice p2 n' q2, .agg #[.slice p1 n q1, .slice p2 n' q2], undef, undef, undef, undef, undef, undef, undef, undef, undef, undef, undef, undef, undef, undef, undef, undef, undef, undef, undef, undef, undef, undef, undef, undef, undef, undef, undef, undef, undef, undef, undef, undef, undef, undef, undef, undef, undef, undef, undef, undef, undef, undef, undef, undef, undef, undef, undef, undef, undef, undef, undef, undef, undef, undef, undef, undef, undef, undef, undef, undef, undef, undef, undef], []⟩ X)) (H1 : Hid (W.ownsRow w0.heap.size 68 2 (.slice (some ⟨B1, 0, none⟩) 0 0) 0 [])) (H2 : Hid (W.ownsRow w0.heap.size 52 2 (.slice (some ⟨B2, 0, none⟩) 0 0) 0 [])) (HFB : Hid (Z2 W FB ∧ w0.heap.size ≤ FB)) (HBL : Hid (Below w0.heap.size w0 W)) (N12 : Hid (∀ g, (Value.slice (some ⟨B1, 0, none⟩) 0 0).ownBlock = some g → (Value.slice (some ⟨B2, 0, none⟩) 0 0).ownBlock ≠ some g)) (N1F : Hid ((Value.slice (some ⟨B1, 0, none⟩) 0 0).ownBlock ≠ some FB)) (N2F : Hid ((Value.slice (some ⟨B2, 0, none⟩) 0 0).ownBlock ≠ some FB)) :
    wpAnyH Try.prog .any ops15 (NoPanic Q) (fun X => X.cell? ⟨A, 0, none⟩ = some (.slice a n c) ∧ X.cell? ⟨A, 1, none⟩ = some (.slice a' n' c')) 4 #[true, true, true, false, true, true, true, false, false, true, false] ⟨#[x0, x1, .pointer (some ⟨A, 0, none⟩), x3, x4, .bool false, .pointer (some ⟨FB, 0, none⟩), undef, undef, undef, undef, undef, undef, x13, .bool true, .bool false, .bool false, x17, .bool true, .bool false, .bool false, undef, .slice (some ⟨B1, 0, none⟩) 0 0, .pointer (some ⟨A, 0, none⟩), .slice a n c, undef, .slice (some ⟨B2, 0, none⟩) 0 0, .pointer (some ⟨A, 1, none⟩), .slice a' n' c', undef, undef, undef, undef, undef, undef, undef, undef, undef, undef, undef, undef, undef, undef, undef, undef, undef, undef, undef, undef, undef, undef, undef, undef, undef, undef, undef, undef, undef, undef, undef, undef, undef, undef, undef, undef, undef, undef, undef, undef, undef, undef, undef, undef, undef, undef, undef, undef, undef, undef, undef, undef, undef, undef, undef, undef, undef, undef, undef, undef, undef, undef, undef, undef, undef], []⟩ W := by
  unfold ops15
  refine wpAnyH_ready (rs := [3]) (by kernel_rfl) (by simp) ?_
  refine AllReadyH.cons (o := ⟨some 25, _, _, _, _, none⟩) rfl (fun K hK => ?_) (AllReadyH.nil)
  · have hsz := HBL.out.size
    have k1 := fun g (hg : (Value.slice (some ⟨B1, 0, none⟩) 0 0).ownBlock = some g) => (H1.out.lt g hg).2
    have k2 := fun g (hg : (Value.slice (some ⟨B2, 0, none⟩) 0 0).ownBlock = some g) => (H2.out.lt g hg).2
    have kF := HFB.out.1.lt
    obtain ⟨p1, q1, w1, hr, ow, hg, hat⟩ := app_gd HN.out hn (HGA.out _ HBL.out) H1.out hsz (c := c)
    have H1n := hide ow
    have H2n := hide (own_keep15 H2.out fun g hv hl => hg.block g hl fun e => N12.out g e.symm hv)
    have HFBn := hide (⟨HFB.out.1.keep hg.size (hg.block FB kF fun e => N1F.out e.symm), HFB.out.2⟩ : _ ∧ _)
    have HBLn := hide (HBL.out.trans (grown_und15 hg H1.out hsz))
    have N12n : Hid (∀ g, (Value.slice p1 n q1).ownBlock = some g → (Value.slice (some ⟨B2, 0, none⟩) 0 0).ownBlock ≠ some g) := hide fun g h1 h2 => (hat g h1).elim (fun h => N12.out g h h2) (fun h => absurd (k2 _ h2) (Nat.not_lt.2 h))
    have N1Fn : Hid ((Value.slice p1 n q1).ownBlock ≠ some FB) := hide fun h1 => (hat FB h1).elim (fun h => N1F.out h) (fun h => absurd kF (Nat.not_lt.2 h))
    have N2Fn := N2F
    refine step15 (by rfl) (.tmp 22) (.tmp 24) 28 28 (by rfl) (.slice (some ⟨B1, 0, none⟩) 0 0) (.slice a n c) (by rfl) (by rfl) (.slice p1 n q1) w1 (hr _) ?_
    refine hK.out _ _ (HSA.out _ HBLn.out) (fun _ => ?_)
    simp only [Act.put, List.setIfInBounds_toArray, List.set_cons_zero, List.set_cons_succ]
    clear hK K hg hr hat ow
    clear H1 H2 HFB HBL N12 N1F N2F
    exact jmd_0_3_4_9 HN hn HL hn' HGA HLA HSA hQ H1n H2n HFBn HBLn N12n N1Fn N2Fn
set_option maxRecDepth 20000 in
set_option maxHeartbeats 4000000 in
theorem jmd_0_3_9 {Q : Exit → Act → World → Prop} {w0 W : World} {a a' : Option Addr} {n c n' c' A : Nat} {ga : List Gd} {la : List (Int × Int)} {x0 x1 x3 x4 x13 x17 : Value} {B1 FB : Nat} {p1 : Option Addr} {q1 : Nat} (HN : Hid (ga.length = n)) (hn : n ≤ 1000) (HL : Hid (la.length = n')) (hn' : n' ≤ 1000) (HGA : Hid (∀ X, Below w0.heap.size w0 X → GRow X a ga)) (HLA : Hid (∀ X, Below w0.heap.size w0 X → LRow X a' la)) (HSA : Hid (∀ X, Below w0.heap.size w0 X → X.cell? ⟨A, 0, none⟩ = some (.slice a n c) ∧ X.cell? ⟨A, 1, none⟩ = some (.slice a' n' c'))) (hQ : Hid (∀ B1 B2 FB p1 q1 p2 q2 X, JM w0 X FB (.slice p1 n q1) (.slice p2 n' q2) ga la → Q .normal ⟨#[x0, x1, .pointer (some ⟨A, 0, none⟩), x3, x4, .bool false, .pointer (some ⟨FB, 0, none⟩), undef, undef, undef, undef, undef, undef, x13, .bool true, .bool false, .bool false, x17, .bool true, .bool false, .bool false, undef, .slice (some ⟨B1, 0, none⟩) 0 0, .pointer (some ⟨A, 0, none⟩), .slice a n c, .slice p1 n q1, .slice (some ⟨B2, 0, none⟩) 0 0, .pointer (some ⟨A, 1, none⟩), .slice a' n' c', .slice p2 n' q2, .agg #[.slice p1 n q1, .slice p2 n' q2], undef, undef, undef, undef, undef, undef, undef, undef, undef, undef, undef, undef, undef, undef, undef, undef, undef, undef, undef, undef, undef, undef, undef, undef, undef, undef, undef, undef, undef, undef, undef, undef, undef, undef, undef, undef, undef, undef, undef, undef, undef, undef, undef, undef, undef, undef, undef, undef, undef, undef, undef, undef, undef, undef, undef, undef, undef, undef, undef, undef, undef, undef, undef], []⟩ X)) (H1 : Hid (W.ownsRow w0.heap.size 68 2 (.slice p1 n q1) n (gce ga))) (HFB : Hid (Z2 W FB ∧ w0.heap.size ≤ FB)) (HBL : Hid (Below w0.heap.size w0 W)) (N1F : Hid ((Value.slice p1 n q1).ownBlock ≠ some FB)) :
    wpAnyH Try.prog .any ops15 (NoPanic Q) (fun X => X.cell? ⟨A, 0, none⟩ = some (.slice a n c) ∧ X.cell? ⟨A, 1, none⟩ = some (.slice a' n' c')) 4 #[true, true, true, true, false, true, true, false, false, true, false] ⟨#[x0, x1, .pointer (some ⟨A, 0, none⟩), x3, x4, .bool false, .pointer (some ⟨FB, 0, none⟩), undef, undef, undef, undef, undef, undef, x13, .bool true, .bool false, .bool false, x17, .bool true, .bool false, .bool false, undef, .slice (some ⟨B1, 0, none⟩) 0 0, .pointer (some ⟨A, 0, none⟩), .slice a n c, .slice p1 n q1, undef, .pointer (some ⟨A, 1, none⟩), .slice a' n' c', undef, undef, undef, undef, undef, undef, undef, undef, undef, undef, undef, undef, undef, undef, undef, undef, undef, undef, undef, undef, undef, undef, undef, undef, undef, undef, undef, undef, undef, undef, undef, undef, undef, undef, undef, undef, undef, undef, undef, undef, undef, undef, undef, undef, undef, undef, undef, undef, undef, undef, undef, undef, undef, undef, undef, undef, undef, undef, undef, undef, undef, undef, undef, undef, undef], []⟩ W := by
  unfold ops15
  refine wpAnyH_ready (rs := [4]) (by kernel_rfl) (by simp) ?_
  refine AllReadyH.cons (o := ⟨some 26, _, _, _, _, none⟩) rfl (fun K hK => ?_) (AllReadyH.nil)
  · have hsz := HBL.out.size
    have k1 := fun g (hg : (Value.slice p1 n q1).ownBlock = some g) => (H1.out.lt g hg).2
    have kF := HFB.out.1.lt
    have hb' := below_new W (.cells #[] 52)
    have H1n := hide (own_below15 H1.out hb')
    have HFBn := hide (⟨HFB.out.1.below hb', HFB.out.2⟩ : _ ∧ _)
    have H2n := hide (World.ownsRow_lit (base := w0.heap.size) (e := 52) (size := 2) W #[] 0 hsz (by decide) rfl)
    have HBLn := hide (HBL.out.trans (hb'.mono hsz))
    have N12n : Hid (∀ g, (Value.slice p1 n q1).ownBlock = some g → (Value.slice (some ⟨W.heap.size, 0, none⟩) 0 0).ownBlock ≠ some g) := hide fun g h1 h2 => by cases h2; exact absurd (k1 _ h1) (Nat.lt_irrefl _)
    have N1Fn := N1F
    have N2Fn : Hid ((Value.slice (some ⟨W.heap.size, 0, none⟩) 0 0).ownBlock ≠ some FB) := hide fun h => by cases h; exact absurd kF (Nat.lt_irrefl _)
    go_simp
    refine hK.out _ _ (HSA.out _ HBLn.out) (fun _ => ?_)
    clear hK K hb'
    clear H1 HFB HBL N1F
    exact jmd_0_3_4_9 HN hn HL hn' HGA HLA HSA hQ H1n H2n HFBn HBLn N12n N1Fn N2Fn
set_option maxRecDepth 20000 in
set_option maxHeartbeats 4000000 in
theorem jmd_0_3_4 {Q : Exit → Act → World → Prop} {w0 W : World} {a a' : Option Addr} {n c n' c' A : Nat} {ga : List Gd} {la : List (Int × Int)} {x0 x1 x3 x4 x13 x17 : Value} {B1 B2 : Nat} {p1 : Option Addr} {q1 : Nat} (HN : Hid (ga.length = n)) (hn : n ≤ 1000) (HL : Hid (la.length = n')) (hn' : n' ≤ 1000) (HGA : Hid (∀ X, Below w0.heap.size w0 X → GRow X a ga)) (HLA : Hid (∀ X, Below w0.heap.size w0 X → LRow X a' la)) (HSA : Hid (∀ X, Below w0.heap.size w0 X → X.cell? ⟨A, 0, none⟩ = some (.slice a n c) ∧ X.cell? ⟨A, 1, none⟩ = some (.slice a' n' c'))) (hQ : Hid (∀ B1 B2 FB p1 q1 p2 q2 X, JM w0 X FB (.slice p1 n q1) (.slice p2 n' q2) ga la → Q .normal ⟨#[x0, x1, .pointer (some ⟨A, 0, none⟩), x3, x4, .bool false, .pointer (some ⟨FB, 0, none⟩), undef, undef, undef, undef, undef, undef, x13, .bool true, .bool false, .bool false, x17, .bool true, .bool false, .bool false, undef, .slice (some ⟨B1, 0, none⟩) 0 0, .pointer (some ⟨A, 0, none⟩), .slice a n c, .slice p1 n q1, .slice (some ⟨B2, 0, none⟩) 0 0, .pointer (some ⟨A, 1, none⟩), .slice a' n' c', .slice p2 n' q2, .agg #[.slice p1 n q1, .slice p2 n' q2], undef, undef, undef, undef, undef, undef, undef, undef, undef, undef, undef, undef, undef, undef, undef, undef, undef, undef, undef, undef, undef, undef, undef, undef, undef, undef, undef, undef, undef, undef, undef, undef, undef, undef, undef, undef, undef, undef, undef, undef, undef, undef, undef, undef, undef, undef, undef, undef, undef, undef, undef, undef, undef, undef, undef, undef, undef, undef, undef, undef, undef, undef, undef], []⟩ X)) (H1 : Hid (W.ownsRow w0.heap.size 68 2 (.slice p1 n q1) n (gce ga))) (H2 : Hid (W.ownsRow w0.heap.size 52 2 (.slice (some ⟨B2, 0, none⟩) 0 0) 0 [])) (HBL : Hid (Below w0.heap.size w0 W)) (N12 : Hid (∀ g, (Value.slice p1 n q1).ownBlock = some g → (Value.slice (some ⟨B2, 0, none⟩) 0 0).ownBlock ≠ some g)) :
    wpAnyH Try.prog .any ops15 (NoPanic Q) (fun X => X.cell? ⟨A, 0, none⟩ = some (.slice a n c) ∧ X.cell? ⟨A, 1, none⟩ = some (.slice a' n' c')) 4 #[true, true, true, true, true, true, true, false, false, false, false] ⟨#[x0, x1, .pointer (some ⟨A, 0, none⟩), x3, x4, .bool false, undef, undef, undef, undef, undef, undef, undef, x13, .bool true, .bool false, .bool false, x17, .bool true, .bool false, .bool false, undef, .slice (some ⟨B1, 0, none⟩) 0 0, .pointer (some ⟨A, 0, none⟩), .slice a n c, .slice p1 n q1, .slice (some ⟨B2, 0, none⟩) 0 0, .pointer (some ⟨A, 1, none⟩), .slice a' n' c', undef, undef, undef, undef, undef, undef, undef, undef, undef, undef, undef, undef, undef, undef, undef, undef, undef, undef, undef, undef, undef, undef, undef, undef, undef, undef, undef, undef, undef, undef, undef, undef, undef, undef, undef, undef, undef, undef, undef, undef, undef, undef, undef, undef, undef, undef, undef, undef, undef, undef, undef, undef, undef, undef, undef, undef, undef, undef, undef, undef, undef, undef, undef, undef, undef], []⟩ W := by
  unfold ops15
  refine wpAnyH_ready (rs := [7, 9]) (by kernel_rfl) (by simp) ?_
  refine AllReadyH.cons (o := ⟨some 29, _, _, _, _, none⟩) rfl (fun K hK => ?_) (AllReadyH.cons (o := ⟨some 6, _, _, _, _, none⟩) rfl (fun K hK => ?_) (AllReadyH.nil))
  · have hsz := HBL.out.size
    have k1 := fun g (hg : (Value.slice p1 n q1).ownBlock = some g) => (H1.out.lt g hg).2
    have k2 := fun g (hg : (Value.slice (some ⟨B2, 0, none⟩) 0 0).ownBlock = some g) => (H2.out.lt g hg).2
    obtain ⟨p2, q2, w1, hr, ow, hg, hat⟩ := app_ln HL.out hn' (HLA.out _ HBL.out) H2.out hsz (c := c')
    have H2n := hide ow
    have H1n := hide (own_keep15 H1.out fun g hv hl => hg.block g hl fun e => N12.out g hv e.symm)
    have HBLn := hide (HBL.out.trans (grown_und15 hg H2.out hsz))
    have N12n : Hid (∀ g, (Value.slice p1 n q1).ownBlock = some g → (Value.slice p2 n' q2).ownBlock ≠ some g) := hide fun g h1 h2 => (hat g h2).elim (fun h => N12.out g h1 h) (fun h => absurd (k1 _ h1) (Nat.not_lt.2 h))
    refine step15 (by rfl) (.tmp 26) (.tmp 28) 29 29 (by rfl) (.slice (some ⟨B2, 0, none⟩) 0 0) (.slice a' n' c') (by rfl) (by rfl) (.slice p2 n' q2) w1 (hr _) ?_
    refine hK.out _ _ (HSA.out _ HBLn.out) (fun _ => ?_)
    simp only [Act.put, List.setIfInBounds_toArray, List.set_cons_zero, List.set_cons_succ]
    clear hK K hg hr hat ow
    clear H1 H2 HBL N12
    refine wpAnyH_take (i := 8) (oi := ⟨some 30, _, _, _, _, none⟩) (v := .agg #[.slice p1 n q1, .slice p2 n' q2]) rfl (by kernel_rfl) (by kernel_rfl) (by kernel_rfl) (fun _ _ _ h => h) (Or.inl ⟨by rfl, fun w' hSw => by obtain ⟨s0, s1⟩ := hSw; go_simp⟩) (HSA.out _ HBLn.out) ?_
    simp only [Act.put, List.setIfInBounds_toArray, List.set_cons_zero, List.set_cons_succ]
    exact jmd_0_3_4_7 HN hn HL hn' HGA HLA HSA hQ H1n H2n HBLn N12n
  · have hsz := HBL.out.size
    have k1 := fun g (hg : (Value.slice p1 n q1).ownBlock = some g) => (H1.out.lt g hg).2
    have k2 := fun g (hg : (Value.slice (some ⟨B2, 0, none⟩) 0 0).ownBlock = some g) => (H2.out.lt g hg).2
    have hb' := below_new W (.cells #[.slice none 0 0, .slice none 0 0] 31)
    have H1n := hide (own_below15 H1.out hb')
    have H2n := hide (own_below15 H2.out hb')
    have HFBn := hide (⟨Z2.new W 31, hsz⟩ : _ ∧ _)
    have HBLn := hide (HBL.out.trans (hb'.mono hsz))
    have N12n := N12
    have N1Fn : Hid ((Value.slice p1 n q1).ownBlock ≠ some W.heap.size) := hide fun h => absurd (k1 _ h) (Nat.lt_irrefl _)
    have N2Fn : Hid ((Value.slice (some ⟨B2, 0, none⟩) 0 0).ownBlock ≠ some W.heap.size) := hide fun h => absurd (k2 _ h) (Nat.lt_irrefl _)
    go_simp
    refine hK.out _ _ (HSA.out _ HBLn.out) (fun _ => ?_)
    clear hK K hb'
    clear H1 H2 HBL N12
    exact jmd_0_3_4_9 HN hn HL hn' HGA HLA HSA hQ H1n H2n HFBn HBLn N12n N1Fn N2Fn
set_option maxRecDepth 20000 in
set_option maxHeartbeats 4000000 in
theorem jmd_0_9 {Q : Exit → Act → World → Prop} {w0 W : World} {a a' : Option Addr} {n c n' c' A : Nat} {ga : List Gd} {la : List (Int × Int)} {x0 x1 x3 x4 x13 x17 : Value} {B1 FB : Nat} (HN : Hid (ga.length = n)) (hn : n ≤ 1000) (HL : Hid (la.length = n')) (hn' : n' ≤ 1000) (HGA : Hid (∀ X, Below w0.heap.size w0 X → GRow X a ga)) (HLA : Hid (∀ X, Below w0.heap.size w0 X → LRow X a' la)) (HSA : Hid (∀ X, Below w0.heap.size w0 X → X.cell? ⟨A, 0, none⟩ = some (.slice a n c) ∧ X.cell? ⟨A, 1, none⟩ = some (.slice a' n' c'))) (hQ : Hid (∀ B1 B2 FB p1 q1 p2 q2 X, JM w0 X FB (.slice p1 n q1) (.slice p2 n' q2) ga la → Q .normal ⟨#[x0, x1, .pointer (some ⟨A, 0, none⟩), x3, x4, .bool false, .pointer (some ⟨FB, 0, none⟩), undef, undef, undef, undef, undef, undef, x13, .bool true, .bool false, .bool false, x17, .bool true, .bool false, .bool false, undef, .slice (some ⟨B1, 0, none⟩) 0 0, .pointer (some ⟨A, 0, none⟩), .slice a n c, .slice p1 n q1, .slice (some ⟨B2, 0, none⟩) 0 0, .pointer (some ⟨A, 1, none⟩), .slice a' n' c', .slice p2 n' q2, .agg #[.slice p1 n q1, .slice p2 n' q2], undef, undef, undef, undef, undef, undef, undef, undef, undef, undef, undef, undef, undef, undef, undef, undef, undef, undef, undef, undef, undef, undef, undef, undef, undef, undef, undef, undef, undef, undef, undef, undef, undef, undef, undef, undef, undef, undef, undef, undef, undef, undef, undef, undef, undef, undef, undef, undef, undef, undef, undef, undef, undef, undef, undef, undef, undef, undef, undef, undef, undef, undef, undef], []⟩ X)) (H1 : Hid (W.ownsRow w0.heap.size 68 2 (.slice (some ⟨B1, 0, none⟩) 0 0) 0 [])) (HFB : Hid (Z2 W FB ∧ w0.heap.size ≤ FB)) (HBL : Hid (Below w0.heap.size w0 W)) (N1F : Hid ((Value.slice (some ⟨B1, 0, none⟩) 0 0).ownBlock ≠ some FB)) :
    wpAnyH Try.prog .any ops15 (NoPanic Q) (fun X => X.cell? ⟨A, 0, none⟩ = some (.slice a n c) ∧ X.cell? ⟨A, 1, none⟩ = some (.slice a' n' c')) 5 #[true, true, true, false, false, true, true, false, false, true, false] ⟨#[x0, x1, .pointer (some ⟨A, 0, none⟩), x3, x4, .bool false, .pointer (some ⟨FB, 0, none⟩), undef, undef, undef, undef, undef, undef, x13, .bool true, .bool false, .bool false, x17, .bool true, .bool false, .bool false, undef, .slice (some ⟨B1, 0, none⟩) 0 0, .pointer (some ⟨A, 0, none⟩), .slice a n c, undef, undef, .pointer (some ⟨A, 1, none⟩), .slice a' n' c', undef, undef, undef, undef, undef, undef, undef, undef, undef, undef, undef, undef, undef, undef, undef, undef, undef, undef, undef, undef, undef, undef, undef, undef, undef, undef, undef, undef, undef, undef, undef, undef, undef, undef, undef, undef, undef, undef, undef, undef, undef, undef, undef, undef, undef, undef, undef, undef, undef, undef, undef, undef, undef, undef, undef, undef, undef, undef, undef, undef, undef, undef, undef, undef, undef], []⟩ W := by
  unfold ops15
  refine wpAnyH_ready (rs := [3, 4]) (by kernel_rfl) (by simp) ?_
  refine AllReadyH.cons (o := ⟨some 25, _, _, _, _, none⟩) rfl (fun K hK => ?_) (AllReadyH.cons (o := ⟨some 26, _, _, _, _, none⟩) rfl (fun K hK => ?_) (AllReadyH.nil))
  · have hsz := HBL.out.size
    have k1 := fun g (hg : (Value.slice (some ⟨B1, 0, none⟩) 0 0).ownBlock = some g) => (H1.out.lt g hg).2
    have kF := HFB.out.1.lt
    obtain ⟨p1, q1, w1, hr, ow, hg, hat⟩ := app_gd HN.out hn (HGA.out _ HBL.out) H1.out hsz (c := c)
    have H1n := hide ow
    have HFBn := hide (⟨HFB.out.1.keep hg.size (hg.block FB kF fun e => N1F.out e.symm), HFB.out.2⟩ : _ ∧ _)
    have HBLn := hide (HBL.out.trans (grown_und15 hg H1.out hsz))
    have N1Fn : Hid ((Value.slice p1 n q1).ownBlock ≠ some FB) := hide fun h1 => (hat FB h1).elim (fun h => N1F.out h) (fun h => absurd kF (Nat.not_lt.2 h))
    refine step15 (by rfl) (.tmp 22) (.tmp 24) 28 28 (by rfl) (.slice (some ⟨B1, 0, none⟩) 0 0) (.slice a n c) (by rfl) (by rfl) (.slice p1 n q1) w1 (hr _) ?_
    refine hK.out _ _ (HSA.out _ HBLn.out) (fun _ => ?_)
    simp only [Act.put, List.setIfInBounds_toArray, List.set_cons_zero, List.set_cons_succ]
    clear hK K hg hr hat ow
    clear H1 HFB HBL N1F
    exact jmd_0_3_9 HN hn HL hn' HGA HLA HSA hQ H1n HFBn HBLn N1Fn
  · have hsz := HBL.out.size
    have k1 := fun g (hg : (Value.slice (some ⟨B1, 0, none⟩) 0 0).ownBlock = some g) => (H1.out.lt g hg).2
    have kF := HFB.out.1.lt
    have hb' := below_new W (.cells #[] 52)
    have H1n := hide (own_below15 H1.out hb')
    have HFBn := hide (⟨HFB.out.1.below hb', HFB.out.2⟩ : _ ∧ _)
    have H2n := hide (World.ownsRow_lit (base := w0.heap.size) (e := 52) (size := 2) W #[] 0 hsz (by decide) rfl)
    have HBLn := hide (HBL.out.trans (hb'.mono hsz))
    have N12n : Hid (∀ g, (Value.slice (some ⟨B1, 0, none⟩) 0 0).ownBlock = some g → (Value.slice (some ⟨W.heap.size, 0, none⟩) 0 0).ownBlock ≠ some g) := hide fun g h1 h2 => by cases h2; exact absurd (k1 _ h1) (Nat.lt_irrefl _)
    have N1Fn := N1F
    have N2Fn : Hid ((Value.slice (some ⟨W.heap.size, 0, none⟩) 0 0).ownBlock ≠ some FB) := hide fun h => by cases h; exact absurd kF (Nat.lt_irrefl _)
    go_simp
    refine hK.out _ _ (HSA.out _ HBLn.out) (fun _ => ?_)
    clear hK K hb'
    clear H1 HFB HBL N1F
    exact jmd_0_4_9 HN hn HL hn' HGA HLA HSA hQ H1n H2n HFBn HBLn N12n N1Fn N2Fn
set_option maxRecDepth 20000 in
set_option maxHeartbeats 4000000 in
theorem jmd_4_9 {Q : Exit → Act → World → Prop} {w0 W : World} {a a' : Option Addr} {n c n' c' A : Nat} {ga : List Gd} {la : List (Int × Int)} {x0 x1 x3 x4 x13 x17 : Value} {B2 FB : Nat} (HN : Hid (ga.length = n)) (hn : n ≤ 1000) (HL : Hid (la.length = n')) (hn' : n' ≤ 1000) (HGA : Hid (∀ X, Below w0.heap.size w0 X → GRow X a ga)) (HLA : Hid (∀ X, Below w0.heap.size w0 X → LRow X a' la)) (HSA : Hid (∀ X, Below w0.heap.size w0 X → X.cell? ⟨A, 0, none⟩ = some (.slice a n c) ∧ X.cell? ⟨A, 1, none⟩ = some (.slice a' n' c'))) (hQ : Hid (∀ B1 B2 FB p1 q1 p2 q2 X, JM w0 X FB (.slice p1 n q1) (.slice p2 n' q2) ga la → Q .normal ⟨#[x0, x1, .pointer (some ⟨A, 0, none⟩), x3, x4, .bool false, .pointer (some ⟨FB, 0, none⟩), undef, undef, undef, undef, undef, undef, x13, .bool true, .bool false, .bool false, x17, .bool true, .bool false, .bool false, undef, .slice (some ⟨B1, 0, none⟩) 0 0, .pointer (some ⟨A, 0, none⟩), .slice a n c, .slice p1 n q1, .slice (some ⟨B2, 0, none⟩) 0 0, .pointer (some ⟨A, 1, none⟩), .slice a' n' c', .slice p2 n' q2, .agg #[.slice p1 n q1, .slice p2 n' q2], undef, undef, undef, undef, undef, undef, undef, undef, undef, undef, undef, undef, undef, undef, undef, undef, undef, undef, undef, undef, undef, undef, undef, undef, undef, undef, undef, undef, undef, undef, undef, undef, undef, undef, undef, undef, undef, undef, undef, undef, undef, undef, undef, undef, undef, undef, undef, undef, undef, undef, undef, undef, undef, undef, undef, undef, undef, undef, undef, undef, undef, undef, undef], []⟩ X)) (H2 : Hid (W.ownsRow w0.heap.size 52 2 (.slice (some ⟨B2, 0, none⟩) 0 0) 0 [])) (HFB : Hid (Z2 W FB ∧ w0.heap.size ≤ FB)) (HBL : Hid (Below w0.heap.size w0 W)) (N2F : Hid ((Value.slice (some ⟨B2, 0, none⟩) 0 0).ownBlock ≠ some FB)) :
    wpAnyH Try.prog .any ops15 (NoPanic Q) (fun X => X.cell? ⟨A, 0, none⟩ = some (.slice a n c) ∧ X.cell? ⟨A, 1, none⟩ = some (.slice a' n' c')) 5 #[false, true, true, false, true, true, true, false, false, true, false] ⟨#[x0, x1, .pointer (some ⟨A, 0, none⟩), x3, x4, .bool false, .pointer (some ⟨FB, 0, none⟩), undef, undef, undef, undef, undef, undef, x13, .bool true, .bool false, .bool false, x17, .bool true, .bool false, .bool false, undef, undef, .pointer (some ⟨A, 0, none⟩), .slice a n c, undef, .slice (some ⟨B2, 0, none⟩) 0 0, .pointer (some ⟨A, 1, none⟩), .slice a' n' c', undef, undef, undef, undef, undef, undef, undef, undef, undef, undef, undef, undef, undef, undef, undef, undef, undef, undef, undef, undef, undef, undef, undef, undef, undef, undef, undef, undef, undef, undef, undef, undef, undef, undef, undef, undef, undef, undef, undef, undef, undef, undef, undef, undef, undef, undef, undef, undef, undef, undef, undef, undef, undef, undef, undef, undef, undef, undef, undef, undef, undef, undef, undef, undef, undef], []⟩ W := by
  unfold ops15
  refine wpAnyH_ready (rs := [0]) (by kernel_rfl) (by simp) ?_
  refine AllReadyH.cons (o := ⟨some 22, _, _, _, _, none⟩) rfl (fun K hK => ?_) (AllReadyH.nil)
  · have hsz := HBL.out.size
    have k2 := fun g (hg : (Value.slice (some ⟨B2, 0, none⟩) 0 0).ownBlock = some g) => (H2.out.lt g hg).2
    have kF := HFB.out.1.lt
    have hb' := below_new W (.cells #[] 68)
    have H2n := hide (own_below15 H2.out hb')
    have HFBn := hide (⟨HFB.out.1.below hb', HFB.out.2⟩ : _ ∧ _)
    have H1n := hide (World.ownsRow_lit (base := w0.heap.size) (e := 68) (size := 2) W #[] 0 hsz (by decide) rfl)
    have HBLn := hide (HBL.out.trans (hb'.mono hsz))
    have N12n : Hid (∀ g, (Value.slice (some ⟨W.heap.size, 0, none⟩) 0 0).ownBlock = some g → (Value.slice (some ⟨B2, 0, none⟩) 0 0).ownBlock ≠ some g) := hide fun g h1 h2 => by cases h1; exact absurd (k2 _ h2) (Nat.lt_irrefl _)
    have N1Fn : Hid ((Value.slice (some ⟨W.heap.size, 0, none⟩) 0 0).ownBlock ≠ some FB) := hide fun h => by cases h; exact absurd kF (Nat.lt_irrefl _)
    have N2Fn := N2F
    go_simp
    refine hK.out _ _ (HSA.out _ HBLn.out) (fun _ => ?_)
    clear hK K hb'
    clear H2 HFB HBL N2F
    exact jmd_0_4_9 HN hn HL hn' HGA HLA HSA hQ H1n H2n HFBn HBLn N12n N1Fn N2Fn
set_option maxRecDepth 20000 in
set_option maxHeartbeats 4000000 in
theorem jmd_0_4 {Q : Exit → Act → World → Prop} {w0 W : World} {a a' : Option Addr} {n c n' c' A : Nat} {ga : List Gd} {la : List (Int × Int)} {x0 x1 x3 x4 x13 x17 : Value} {B1 B2 : Nat} (HN : Hid (ga.length = n)) (hn : n ≤ 1000) (HL : Hid (la.length = n')) (hn' : n' ≤ 1000) (HGA : Hid (∀ X, Below w0.heap.size w0 X → GRow X a ga)) (HLA : Hid (∀ X, Below w0.heap.size w0 X → LRow X a' la)) (HSA : Hid (∀ X, Below w0.heap.size w0 X → X.cell? ⟨A, 0, none⟩ = some (.slice a n c) ∧ X.cell? ⟨A, 1, none⟩ = some (.slice a' n' c'))) (hQ : Hid (∀ B1 B2 FB p1 q1 p2 q2 X, JM w0 X FB (.slice p1 n q1) (.slice p2 n' q2) ga la → Q .normal ⟨#[x0, x1, .pointer (some ⟨A, 0, none⟩), x3, x4, .bool false, .pointer (some ⟨FB, 0, none⟩), undef, undef, undef, undef, undef, undef, x13, .bool true, .bool false, .bool false, x17, .bool true, .bool false, .bool false, undef, .slice (some ⟨B1, 0, none⟩) 0 0, .pointer (some ⟨A, 0, none⟩), .slice a n c, .slice p1 n q1, .slice (some ⟨B2, 0, none⟩) 0 0, .pointer (some ⟨A, 1, none⟩), .slice a' n' c', .slice p2 n' q2, .agg #[.slice p1 n q1, .slice p2 n' q2], undef, undef, undef, undef, undef, undef, undef, undef, undef, undef, undef, undef, undef, undef, undef, undef, undef, undef, undef, undef, undef, undef, undef, undef, undef, undef, undef, undef, undef, undef, undef, undef, undef, undef, undef, undef, undef, undef, undef, undef, undef, undef, undef, undef, undef, undef, undef, undef, undef, undef, undef, undef, undef, undef, undef, undef, undef, undef, undef, undef, undef, undef, undef], []⟩ X)) (H1 : Hid (W.ownsRow w0.heap.size 68 2 (.slice (some ⟨B1, 0, none⟩) 0 0) 0 [])) (H2 : Hid (W.ownsRow w0.heap.size 52 2 (.slice (some ⟨B2, 0, none⟩) 0 0) 0 [])) (HBL : Hid (Below w0.heap.size w0 W)) (N12 : Hid (∀ g, (Value.slice (some ⟨B1, 0, none⟩) 0 0).ownBlock = some g → (Value.slice (some ⟨B2, 0, none⟩) 0 0).ownBlock ≠ some g)) :
    wpAnyH Try.prog .any ops15 (NoPanic Q) (fun X => X.cell? ⟨A, 0, none⟩ = some (.slice a n c) ∧ X.cell? ⟨A, 1, none⟩ = some (.slice a' n' c')) 5 #[true, true, true, false, true, true, true, false, false, false, false] ⟨#[x0, x1, .pointer (some ⟨A, 0, none⟩), x3, x4, .bool false, undef, undef, undef, undef, undef, undef, undef, x13, .bool true, .bool false, .bool false, x17, .bool true, .bool false, .bool false, undef, .slice (some ⟨B1, 0, none⟩) 0 0, .pointer (some ⟨A, 0, none⟩), .slice a n c, undef, .slice (some ⟨B2, 0, none⟩) 0 0, .pointer (some ⟨A, 1, none⟩), .slice a' n' c', undef, undef, undef, undef, undef, undef, undef, undef, undef, undef, undef, undef, undef, undef, undef, undef, undef, undef, undef, undef, undef, undef, undef, undef, undef, undef, undef, undef, undef, undef, undef, undef, undef, undef, undef, undef, undef, undef, undef, undef, undef, undef, undef, undef, undef, undef, undef, undef, undef, undef, undef, undef, undef, undef, undef, undef, undef, undef, undef, undef, undef, undef, undef, undef, undef], []⟩ W := by
  unfold ops15
  refine wpAnyH_ready (rs := [3, 9]) (by kernel_rfl) (by simp) ?_
  refine AllReadyH.cons (o := ⟨some 25, _, _, _, _, none⟩) rfl (fun K hK => ?_) (AllReadyH.cons (o := ⟨some 6, _, _, _, _, none⟩) rfl (fun K hK => ?_) (AllReadyH.nil))
  · have hsz := HBL.out.size
    have k1 := fun g (hg : (Value.slice (some ⟨B1, 0, none⟩) 0 0).ownBlock = some g) => (H1.out.lt g hg).2
    have k2 := fun g (hg : (Value.slice (some ⟨B2, 0, none⟩) 0 0).ownBlock = some g) => (H2.out.lt g hg).2
    obtain ⟨p1, q1, w1, hr, ow, hg, hat⟩ := app_gd HN.out hn (HGA.out _ HBL.out) H1.out hsz (c := c)
    have H1n := hide ow
    have H2n := hide (own_keep15 H2.out fun g hv hl => hg.block g hl fun e => N12.out g e.symm hv)
    have HBLn := hide (HBL.out.trans (grown_und15 hg H1.out hsz))
    have N12n : Hid (∀ g, (Value.slice p1 n q1).ownBlock = some g → (Value.slice (some ⟨B2, 0, none⟩) 0 0).ownBlock ≠ some g) := hide fun g h1 h2 => (hat g h1).elim (fun h => N12.out g h h2) (fun h => absurd (k2 _ h2) (Nat.not_lt.2 h))
    refine step15 (by rfl) (.tmp 22) (.tmp 24) 28 28 (by rfl) (.slice (some ⟨B1, 0, none⟩) 0 0) (.slice a n c) (by rfl) (by rfl) (.slice p1 n q1) w1 (hr _) ?_
    refine hK.out _ _ (HSA.out _ HBLn.out) (fun _ => ?_)
    simp only [Act.put, List.setIfInBounds_toArray, List.set_cons_zero, List.set_cons_succ]
    clear hK K hg hr hat ow
    clear H1 H2 HBL N12
    exact jmd_0_3_4 HN hn HL hn' HGA HLA HSA hQ H1n H2n HBLn N12n
  · have hsz := HBL.out.size
    have k1 := fun g (hg : (Value.slice (some ⟨B1, 0, none⟩) 0 0).ownBlock = some g) => (H1.out.lt g hg).2
    have k2 := fun g (hg : (Value.slice (some ⟨B2, 0, none⟩) 0 0).ownBlock = some g) => (H2.out.lt g hg).2
    have hb' := below_new W (.cells #[.slice none 0 0, .slice none 0 0] 31)
    have H1n := hide (own_below15 H1.out hb')
    have H2n := hide (own_below15 H2.out hb')
    have HFBn := hide (⟨Z2.new W 31, hsz⟩ : _ ∧ _)
    have HBLn := hide (HBL.out.trans (hb'.mono hsz))
    have N12n := N12
    have N1Fn : Hid ((Value.slice (some ⟨B1, 0, none⟩) 0 0).ownBlock ≠ some W.heap.size) := hide fun h => absurd (k1 _ h) (Nat.lt_irrefl _)
    have N2Fn : Hid ((Value.slice (some ⟨B2, 0, none⟩) 0 0).ownBlock ≠ some W.heap.size) := hide fun h => absurd (k2 _ h) (Nat.lt_irrefl _)
    go_simp
    refine hK.out _ _ (HSA.out _ HBLn.out) (fun _ => ?_)
    clear hK K hb'
    clear H1 H2 HBL N12
    exact jmd_0_4_9 HN hn HL hn' HGA HLA HSA hQ H1n H2n HFBn HBLn N12n N1Fn N2Fn
set_option maxRecDepth 20000 in
set_option maxHeartbeats 4000000 in
theorem jmd_0_3 {Q : Exit → Act → World → Prop} {w0 W : World} {a a' : Option Addr} {n c n' c' A : Nat} {ga : List Gd} {la : List (Int × Int)} {x0 x1 x3 x4 x13 x17 : Value} {B1 : Nat} {p1 : Option Addr} {q1 : Nat} (HN : Hid (ga.length = n)) (hn : n ≤ 1000) (HL : Hid (la.length = n')) (hn' : n' ≤ 1000) (HGA : Hid (∀ X, Below w0.heap.size w0 X → GRow X a ga)) (HLA : Hid (∀ X, Below w0.heap.size w0 X → LRow X a' la)) (HSA : Hid (∀ X, Below w0.heap.size w0 X → X.cell? ⟨A, 0, none⟩ = some (.slice a n c) ∧ X.cell? ⟨A, 1, none⟩ = some (.slice a' n' c'))) (hQ : Hid (∀ B1 B2 FB p1 q1 p2 q2 X, JM w0 X FB (.slice p1 n q1) (.slice p2 n' q2) ga la → Q .normal ⟨#[x0, x1, .pointer (some ⟨A, 0, none⟩), x3, x4, .bool false, .pointer (some ⟨FB, 0, none⟩), undef, undef, undef, undef, undef, undef, x13, .bool true, .bool false, .bool false, x17, .bool true, .bool false, .bool false, undef, .slice (some ⟨B1, 0, none⟩) 0 0, .pointer (some ⟨A, 0, none⟩), .slice a n c, .slice p1 n q1, .slice (some ⟨B2, 0, none⟩) 0 0, .pointer (some ⟨A, 1, none⟩), .slice a' n' c', .slice p2 n' q2, .agg #[.slice p1 n q1, .slice p2 n' q2], undef, undef, undef, undef, undef, undef, undef, undef, undef, undef, undef, undef, undef, undef, undef, undef, undef, undef, undef, undef, undef, undef, undef, undef, undef, undef, undef, undef, undef, undef, undef, undef, undef, undef, undef, undef, undef, undef, undef, undef, undef, undef, undef, undef, undef, undef, undef, undef, undef, undef, undef, undef, undef, undef, undef, undef, undef, undef, undef, undef, undef, undef, undef], []⟩ X)) (H1 : Hid (W.ownsRow w0.heap.size 68 2 (.slice p1 n q1) n (gce ga))) (HBL : Hid (Below w0.heap.size w0 W)) :
    wpAnyH Try.prog .any ops15 (NoPanic Q) (fun X => X.cell? ⟨A, 0, none⟩ = some (.slice a n c) ∧ X.cell? ⟨A, 1, none⟩ = some (.slice a' n' c')) 5 #[true, true, true, true, false, true, true, false, false, false, false] ⟨#[x0, x1, .pointer (some ⟨A, 0, none⟩), x3, x4, .bool false, undef, undef, undef, undef, undef, undef, undef, x13, .bool true, .bool false, .bool false, x17, .bool true, .bool false, .bool false, undef, .slice (some ⟨B1, 0, none⟩) 0 0, .pointer (some ⟨A, 0, none⟩), .slice a n c, .slice p1 n q1, undef, .pointer (some ⟨A, 1, none⟩), .slice a' n' c', undef, undef, undef, undef, undef, undef, undef, undef, undef, undef, undef, undef, undef, undef, undef, undef, undef, undef, undef, undef, undef, undef, undef, undef, undef, undef, undef, undef, undef, undef, undef, undef, undef, undef, undef, undef, undef, undef, undef, undef, undef, undef, undef, undef, undef, undef, undef, undef, undef, undef, undef, undef, undef, undef, undef, undef, undef, undef, undef, undef, undef, undef, undef, undef, undef], []⟩ W := by
  unfold ops15
  refine wpAnyH_ready (rs := [4, 9]) (by kernel_rfl) (by simp) ?_
  refine AllReadyH.cons (o := ⟨some 26, _, _, _, _, none⟩) rfl (fun K hK => ?_) (AllReadyH.cons (o := ⟨some 6, _, _, _, _, none⟩) rfl (fun K hK => ?_) (AllReadyH.nil))
  · have hsz := HBL.out.size
    have k1 := fun g (hg : (Value.slice p1 n q1).ownBlock = some g) => (H1.out.lt g hg).2
    have hb' := below_new W (.cells #[] 52)
    have H1n := hide (own_below15 H1.out hb')
    have H2n := hide (World.ownsRow_lit (base := w0.heap.size) (e := 52) (size := 2) W #[] 0 hsz (by decide) rfl)
    have HBLn := hide (HBL.out.trans (hb'.mono hsz))
    have N12n : Hid (∀ g, (Value.slice p1 n q1).ownBlock = some g → (Value.slice (some ⟨W.heap.size, 0, none⟩) 0 0).ownBlock ≠ some g) := hide fun g h1 h2 => by cases h2; exact absurd (k1 _ h1) (Nat.lt_irrefl _)
    go_simp
    refine hK.out _ _ (HSA.out _ HBLn.out) (fun _ => ?_)
    clear hK K hb'
    clear H1 HBL
    exact jmd_0_3_4 HN hn HL hn' HGA HLA HSA hQ H1n H2n HBLn N12n
  · have hsz := HBL.out.size
    have k1 := fun g (hg : (Value.slice p1 n q1).ownBlock = some g) => (H1.out.lt g hg).2
    have hb' := below_new W (.cells #[.slice none 0 0, .slice none 0 0] 31)
    have H1n := hide (own_below15 H1.out hb')
    have HFBn := hide (⟨Z2.new W 31, hsz⟩ : _ ∧ _)
    have HBLn := hide (HBL.out.trans (hb'.mono hsz))
    have N1Fn : Hid ((Value.slice p1 n q1).ownBlock ≠ some W.heap.size) := hide fun h => absurd (k1 _ h) (Nat.lt_irrefl _)
    go_simp
    refine hK.out _ _ (HSA.out _ HBLn.out) (fun _ => ?_)
    clear hK K hb'
    clear H1 HBL
    exact jmd_0_3_9 HN hn HL hn' HGA HLA HSA hQ H1n HFBn HBLn N1Fn
set_option maxRecDepth 20000 in
set_option maxHeartbeats 4000000 in
theorem jmd_9 {Q : Exit → Act → World → Prop} {w0 W : World} {a a' : Option Addr} {n c n' c' A : Nat} {ga : List Gd} {la : List (Int × Int)} {x0 x1 x3 x4 x13 x17 : Value} {FB : Nat} (HN : Hid (ga.length = n)) (hn : n ≤ 1000) (HL : Hid (la.length = n')) (hn' : n' ≤ 1000) (HGA : Hid (∀ X, Below w0.heap.size w0 X → GRow X a ga)) (HLA : Hid (∀ X, Below w0.heap.size w0 X → LRow X a' la)) (HSA : Hid (∀ X, Below w0.heap.size w0 X → X.cell? ⟨A, 0, none⟩ = some (.slice a n c) ∧ X.cell? ⟨A, 1, none⟩ = some (.slice a' n' c'))) (hQ : Hid (∀ B1 B2 FB p1 q1 p2 q2 X, JM w0 X FB (.slice p1 n q1) (.slice p2 n' q2) ga la → Q .normal ⟨#[x0, x1, .pointer (some ⟨A, 0, none⟩), x3, x4, .bool false, .pointer (some ⟨FB, 0, none⟩), undef, undef, undef, undef, undef, undef, x13, .bool true, .bool false, .bool false, x17, .bool true, .bool false, .bool false, undef, .slice (some ⟨B1, 0, none⟩) 0 0, .pointer (some ⟨A, 0, none⟩), .slice a n c, .slice p1 n q1, .slice (some ⟨B2, 0, none⟩) 0 0, .pointer (some ⟨A, 1, none⟩), .slice a' n' c', .slice p2 n' q2, .agg #[.slice p1 n q1, .slice p2 n' q2], undef, undef, undef, undef, undef, undef, undef, undef, undef, undef, undef, undef, undef, undef, undef, undef, undef, undef, undef, undef, undef, undef, undef, undef, undef, undef, undef, undef, undef, undef, undef, undef, undef, undef, undef, undef, undef, undef, undef, undef, undef, undef, undef, undef, undef, undef, undef, undef, undef, undef, undef, undef, undef, undef, undef, undef, undef, undef, undef, undef, undef, undef, undef], []⟩ X)) (HFB : Hid (Z2 W FB ∧ w0.heap.size ≤ FB)) (HBL : Hid (Below w0.heap.size w0 W)) :
    wpAnyH Try.prog .any ops15 (NoPanic Q) (fun X => X.cell? ⟨A, 0, none⟩ = some (.slice a n c) ∧ X.cell? ⟨A, 1, none⟩ = some (.slice a' n' c')) 6 #[false, true, true, false, false, true, true, false, false, true, false] ⟨#[x0, x1, .pointer (some ⟨A, 0, none⟩), x3, x4, .bool false, .pointer (some ⟨FB, 0, none⟩), undef, undef, undef, undef, undef, undef, x13, .bool true, .bool false, .bool false, x17, .bool true, .bool false, .bool false, undef, undef, .pointer (some ⟨A, 0, none⟩), .slice a n c, undef, undef, .pointer (some ⟨A, 1, none⟩), .slice a' n' c', undef, undef, undef, undef, undef, undef, undef, undef, undef, undef, undef, undef, undef, undef, undef, undef, undef, undef, undef, undef, undef, undef, undef, undef, undef, undef, undef, undef, undef, undef, undef, undef, undef, undef, undef, undef, undef, undef, undef, undef, undef, undef, undef, undef, undef, undef, undef, undef, undef, undef, undef, undef, undef, undef, undef, undef, undef, undef, undef, undef, undef, undef, undef, undef, undef], []⟩ W := by
  unfold ops15
  refine wpAnyH_ready (rs := [0, 4]) (by kernel_rfl) (by simp) ?_
  refine AllReadyH.cons (o := ⟨some 22, _, _, _, _, none⟩) rfl (fun K hK => ?_) (AllReadyH.cons (o := ⟨some 26, _, _, _, _, none⟩) rfl (fun K hK => ?_) (AllReadyH.nil))
  · have hsz := HBL.out.size
    have kF := HFB.out.1.lt
    have hb' := below_new W (.cells #[] 68)
    have HFBn := hide (⟨HFB.out.1.below hb', HFB.out.2⟩ : _ ∧ _)
    have H1n := hide (World.ownsRow_lit (base := w0.heap.size) (e := 68) (size := 2) W #[] 0 hsz (by decide) rfl)
    have HBLn := hide (HBL.out.trans (hb'.mono hsz))
    have N1Fn : Hid ((Value.slice (some ⟨W.heap.size, 0, none⟩) 0 0).ownBlock ≠ some FB) := hide fun h => by cases h; exact absurd kF (Nat.lt_irrefl _)
    go_simp
    refine hK.out _ _ (HSA.out _ HBLn.out) (fun _ => ?_)
    clear hK K hb'
    clear HFB HBL
    exact jmd_0_9 HN hn HL hn' HGA HLA HSA hQ H1n HFBn HBLn N1Fn
  · have hsz := HBL.out.size
    have kF := HFB.out.1.lt
    have hb' := below_new W (.cells #[] 52)
    have HFBn := hide (⟨HFB.out.1.below hb', HFB.out.2⟩ : _ ∧ _)
    have H2n := hide (World.ownsRow_lit (base := w0.heap.size) (e := 52) (size := 2) W #[] 0 hsz (by decide) rfl)
    have HBLn := hide (HBL.out.trans (hb'.mono hsz))
    have N2Fn : Hid ((Value.slice (some ⟨W.heap.size, 0, none⟩) 0 0).ownBlock ≠ some FB) := hide fun h => by cases h; exact absurd kF (Nat.lt_irrefl _)
    go_simp
    refine hK.out _ _ (HSA.out _ HBLn.out) (fun _ => ?_)
    clear hK K hb'
    clear HFB HBL
    exact jmd_4_9 HN hn HL hn' HGA HLA HSA hQ H2n HFBn HBLn N2Fn
set_option maxRecDepth 20000 in
set_option maxHeartbeats 4000000 in
theorem jmd_0 {Q : Exit → Act → World → Prop} {w0 W : World} {a a' : Option Addr} {n c n' c' A : Nat} {ga : List Gd} {la : List (Int × Int)} {x0 x1 x3 x4 x13 x17 : Value} {B1 : Nat} (HN : Hid (ga.length = n)) (hn : n ≤ 1000) (HL : Hid (la.length = n')) (hn' : n' ≤ 1000) (HGA : Hid (∀ X, Below w0.heap.size w0 X → GRow X a ga)) (HLA : Hid (∀ X, Below w0.heap.size w0 X → LRow X a' la)) (HSA : Hid (∀ X, Below w0.heap.size w0 X → X.cell? ⟨A, 0, none⟩ = some (.slice a n c) ∧ X.cell? ⟨A, 1, none⟩ = some (.slice a' n' c'))) (hQ : Hid (∀ B1 B2 FB p1 q1 p2 q2 X, JM w0 X FB (.slice p1 n q1) (.slice p2 n' q2) ga la → Q .normal ⟨#[x0, x1, .pointer (some ⟨A, 0, none⟩), x3, x4, .bool false, .pointer (some ⟨FB, 0, none⟩), undef, undef, undef, undef, undef, undef, x13, .bool true, .bool false, .bool false, x17, .bool true, .bool false, .bool false, undef, .slice (some ⟨B1, 0, none⟩) 0 0, .pointer (some ⟨A, 0, none⟩), .slice a n c, .slice p1 n q1, .slice (some ⟨B2, 0, none⟩) 0 0, .pointer (some ⟨A, 1, none⟩), .slice a' n' c', .slice p2 n' q2, .agg #[.slice p1 n q1, .slice p2 n' q2], undef, undef, undef, undef, undef, undef, undef, undef, undef, undef, undef, undef, undef, undef, undef, undef, undef, undef, undef, undef, undef, undef, undef, undef, undef, undef, undef, undef, undef, undef, undef, undef, undef, undef, undef, undef, undef, undef, undef, undef, undef, undef, undef, undef, undef, undef, undef, undef, undef, undef, undef, undef, undef, undef, undef, undef, undef, undef, undef, undef, undef, undef, undef], []⟩ X)) (H1 : Hid (W.ownsRow w0.heap.size 68 2 (.slice (some ⟨B1, 0, none⟩) 0 0) 0 [])) (HBL : Hid (Below w0.heap.size w0 W)) :
    wpAnyH Try.prog .any ops15 (NoPanic Q) (fun X => X.cell? ⟨A, 0, none⟩ = some (.slice a n c) ∧ X.cell? ⟨A, 1, none⟩ = some (.slice a' n' c')) 6 #[true, true, true, false, false, true, true, false, false, false, false] ⟨#[x0, x1, .pointer (some ⟨A, 0, none⟩), x3, x4, .bool false, undef, undef, undef, undef, undef, undef, undef, x13, .bool true, .bool false, .bool false, x17, .bool true, .bool false, .bool false, undef, .slice (some ⟨B1, 0, none⟩) 0 0, .pointer (some ⟨A, 0, none⟩), .slice a n c, undef, undef, .pointer (some ⟨A, 1, none⟩), .slice a' n' c', undef, undef, undef, undef, undef, undef, undef, undef, undef, undef, undef, undef, undef, undef, undef, undef, undef, undef, undef, undef, undef, undef, undef, undef, undef, undef, undef, undef, undef, undef, undef, undef, undef, undef, undef, undef, undef, undef, undef, undef, undef, undef, undef, undef, undef, undef, undef, undef, undef, undef, undef, undef, undef, undef, undef, undef, undef, undef, undef, undef, undef, undef, undef, undef, undef], []⟩ W := by
  unfold ops15
  refine wpAnyH_ready (rs := [3, 4, 9]) (by kernel_rfl) (by simp) ?_
  refine AllReadyH.cons (o := ⟨some 25, _, _, _, _, none⟩) rfl (fun K hK => ?_) (AllReadyH.cons (o := ⟨some 26, _, _, _, _, none⟩) rfl (fun K hK => ?_) (AllReadyH.cons (o := ⟨some 6, _, _, _, _, none⟩) rfl (fun K hK => ?_) (AllReadyH.nil)))
  · have hsz := HBL.out.size
    have k1 := fun g (hg : (Value.slice (some ⟨B1, 0, none⟩) 0 0).ownBlock = some g) => (H1.out.lt g hg).2
    obtain ⟨p1, q1, w1, hr, ow, hg, hat⟩ := app_gd HN.out hn (HGA.out _ HBL.out) H1.out hsz (c := c)
    have H1n := hide ow
    have HBLn := hide (HBL.out.trans (grown_und15 hg H1.out hsz))
    refine step15 (by rfl) (.tmp 22) (.tmp 24) 28 28 (by rfl) (.slice (some ⟨B1, 0, none⟩) 0 0) (.slice a n c) (by rfl) (by rfl) (.slice p1 n q1) w1 (hr _) ?_
    refine hK.out _ _ (HSA.out _ HBLn.out) (fun _ => ?_)
    simp only [Act.put, List.setIfInBounds_toArray, List.set_cons_zero, List.set_cons_succ]
    clear hK K hg hr hat ow
    clear H1 HBL
    exact jmd_0_3 HN hn HL hn' HGA HLA HSA hQ H1n HBLn
  · have hsz := HBL.out.size
    have k1 := fun g (hg : (Value.slice (some ⟨B1, 0, none⟩) 0 0).ownBlock = some g) => (H1.out.lt g hg).2
    have hb' := below_new W (.cells #[] 52)
    have H1n := hide (own_below15 H1.out hb')
    have H2n := hide (World.ownsRow_lit (base := w0.heap.size) (e := 52) (size := 2) W #[] 0 hsz (by decide) rfl)
    have HBLn := hide (HBL.out.trans (hb'.mono hsz))
    have N12n : Hid (∀ g, (Value.slice (some ⟨B1, 0, none⟩) 0 0).ownBlock = some g → (Value.slice (some ⟨W.heap.size, 0, none⟩) 0 0).ownBlock ≠ some g) := hide fun g h1 h2 => by cases h2; exact absurd (k1 _ h1) (Nat.lt_irrefl _)
    go_simp
    refine hK.out _ _ (HSA.out _ HBLn.out) (fun _ => ?_)
    clear hK K hb'
    clear H1 HBL
    exact jmd_0_4 HN hn HL hn' HGA HLA HSA hQ H1n H2n HBLn N12n
  · have hsz := HBL.out.size
    have k1 := fun g (hg : (Value.slice (some ⟨B1, 0, none⟩) 0 0).ownBlock = some g) => (H1.out.lt g hg).2
    have hb' := below_new W (.cells #[.slice none 0 0, .slice none 0 0] 31)
    have H1n := hide (own_below15 H1.out hb')
    have HFBn := hide (⟨Z2.new W 31, hsz⟩ : _ ∧ _)
    have HBLn := hide (HBL.out.trans (hb'.mono hsz))
    have N1Fn : Hid ((Value.slice (some ⟨B1, 0, none⟩) 0 0).ownBlock ≠ some W.heap.size) := hide fun h => absurd (k1 _ h) (Nat.lt_irrefl _)
    go_simp
    refine hK.out _ _ (HSA.out _ HBLn.out) (fun _ => ?_)
    clear hK K hb'
    clear H1 HBL
    exact jmd_0_9 HN hn HL hn' HGA HLA HSA hQ H1n HFBn HBLn N1Fn
set_option maxRecDepth 20000 in
set_option maxHeartbeats 4000000 in
theorem jmd_4 {Q : Exit → Act → World → Prop} {w0 W : World} {a a' : Option Addr} {n c n' c' A : Nat} {ga : List Gd} {la : List (Int × Int)} {x0 x1 x3 x4 x13 x17 : Value} {B2 : Nat} (HN : Hid (ga.length = n)) (hn : n ≤ 1000) (HL : Hid (la.length = n')) (hn' : n' ≤ 1000) (HGA : Hid (∀ X, Below w0.heap.size w0 X → GRow X a ga)) (HLA : Hid (∀ X, Below w0.heap.size w0 X → LRow X a' la)) (HSA : Hid (∀ X, Below w0.heap.size w0 X → X.cell? ⟨A, 0, none⟩ = some (.slice a n c) ∧ X.cell? ⟨A, 1, none⟩ = some (.slice a' n' c'))) (hQ : Hid (∀ B1 B2 FB p1 q1 p2 q2 X, JM w0 X FB (.slice p1 n q1) (.slice p2 n' q2) ga la → Q .normal ⟨#[x0, x1, .pointer (some ⟨A, 0, none⟩), x3, x4, .bool false, .pointer (some ⟨FB, 0, none⟩), undef, undef, undef, undef, undef, undef, x13, .bool true, .bool false, .bool false, x17, .bool true, .bool false, .bool false, undef, .slice (some ⟨B1, 0, none⟩) 0 0, .pointer (some ⟨A, 0, none⟩), .slice a n c, .slice p1 n q1, .slice (some ⟨B2, 0, none⟩) 0 0, .pointer (some ⟨A, 1, none⟩), .slice a' n' c', .slice p2 n' q2, .agg #[.slice p1 n q1, .slice p2 n' q2], undef, undef, undef, undef, undef, undef, undef, undef, undef, undef, undef, undef, undef, undef, undef, undef, undef, undef, undef, undef, undef, undef, undef, undef, undef, undef, undef, undef, undef, undef, undef, undef, undef, undef, undef, undef, undef, undef, undef, undef, undef, undef, undef, undef, undef, undef, undef, undef, undef, undef, undef, undef, undef, undef, undef, undef, undef, undef, undef, undef, undef, undef, undef], []⟩ X)) (H2 : Hid (W.ownsRow w0.heap.size 52 2 (.slice (some ⟨B2, 0, none⟩) 0 0) 0 [])) (HBL : Hid (Below w0.heap.size w0 W)) :
    wpAnyH Try.prog .any ops15 (NoPanic Q) (fun X => X.cell? ⟨A, 0, none⟩ = some (.slice a n c) ∧ X.cell? ⟨A, 1, none⟩ = some (.slice a' n' c')) 6 #[false, true, true, false, true, true, true, false, false, false, false] ⟨#[x0, x1, .pointer (some ⟨A, 0, none⟩), x3, x4, .bool false, undef, undef, undef, undef, undef, undef, undef, x13, .bool true, .bool false, .bool false, x17, .bool true, .bool false, .bool false, undef, undef, .pointer (some ⟨A, 0, none⟩), .slice a n c, undef, .slice (some ⟨B2, 0, none⟩) 0 0, .pointer (some ⟨A, 1, none⟩), .slice a' n' c', undef, undef, undef, undef, undef, undef, undef, undef, undef, undef, undef, undef, undef, undef, undef, undef, undef, undef, undef, undef, undef, undef, undef, undef, undef, undef, undef, undef, undef, undef, undef, undef, undef, undef, undef, undef, undef, undef, undef, undef, undef, undef, undef, undef, undef, undef, undef, undef, undef, undef, undef, undef, undef, undef, undef, undef, undef, undef, undef, undef, undef, undef, undef, undef, undef], []⟩ W := by
  unfold ops15
  refine wpAnyH_ready (rs := [0, 9]) (by kernel_rfl) (by simp) ?_
  refine AllReadyH.cons (o := ⟨some 22, _, _, _, _, none⟩) rfl (fun K hK => ?_) (AllReadyH.cons (o := ⟨some 6, _, _, _, _, none⟩) rfl (fun K hK => ?_) (AllReadyH.nil))
  · have hsz := HBL.out.size
    have k2 := fun g (hg : (Value.slice (some ⟨B2, 0, none⟩) 0 0).ownBlock = some g) => (H2.out.lt g hg).2
    have hb' := below_new W (.cells #[] 68)
    have H2n := hide (own_below15 H2.out hb')
    have H1n := hide (World.ownsRow_lit (base := w0.heap.size) (e := 68) (size := 2) W #[] 0 hsz (by decide) rfl)
    have HBLn := hide (HBL.out.trans (hb'.mono hsz))
    have N12n : Hid (∀ g, (Value.slice (some ⟨W.heap.size, 0, none⟩) 0 0).ownBlock = some g → (Value.slice (some ⟨B2, 0, none⟩) 0 0).ownBlock ≠ some g) := hide fun g h1 h2 => by cases h1; exact absurd (k2 _ h2) (Nat.lt_irrefl _)
    go_simp
    refine hK.out _ _ (HSA.out _ HBLn.out) (fun _ => ?_)
    clear hK K hb'
    clear H2 HBL
    exact jmd_0_4 HN hn HL hn' HGA HLA HSA hQ H1n H2n HBLn N12n
  · have hsz := HBL.out.size
    have k2 := fun g (hg : (Value.slice (some ⟨B2, 0, none⟩) 0 0).ownBlock = some g) => (H2.out.lt g hg).2
    have hb' := below_new W (.cells #[.slice none 0 0, .slice none 0 0] 31)
    have H2n := hide (own_below15 H2.out hb')
    have HFBn := hide (⟨Z2.new W 31, hsz⟩ : _ ∧ _)
    have HBLn := hide (HBL.out.trans (hb'.mono hsz))
    have N2Fn : Hid ((Value.slice (some ⟨B2, 0, none⟩) 0 0).ownBlock ≠ some W.heap.size) := hide fun h => absurd (k2 _ h) (Nat.lt_irrefl _)
    go_simp
    refine hK.out _ _ (HSA.out _ HBLn.out) (fun _ => ?_)
    clear hK K hb'
    clear H2 HBL
    exact jmd_4_9 HN hn HL hn' HGA HLA HSA hQ H2n HFBn HBLn N2Fn
set_option maxRecDepth 20000 in
set_option maxHeartbeats 4000000 in
theorem jmd_n {Q : Exit → Act → World → Prop} {w0 W : World} {a a' : Option Addr} {n c n' c' A : Nat} {ga : List Gd} {la : List (Int × Int)} {x0 x1 x3 x4 x13 x17 : Value} (HN : Hid (ga.length = n)) (hn : n ≤ 1000) (HL : Hid (la.length = n')) (hn' : n' ≤ 1000) (HGA : Hid (∀ X, Below w0.heap.size w0 X → GRow X a ga)) (HLA : Hid (∀ X, Below w0.heap.size w0 X → LRow X a' la)) (HSA : Hid (∀ X, Below w0.heap.size w0 X → X.cell? ⟨A, 0, none⟩ = some (.slice a n c) ∧ X.cell? ⟨A, 1, none⟩ = some (.slice a' n' c'))) (hQ : Hid (∀ B1 B2 FB p1 q1 p2 q2 X, JM w0 X FB (.slice p1 n q1) (.slice p2 n' q2) ga la → Q .normal ⟨#[x0, x1, .pointer (some ⟨A, 0, none⟩), x3, x4, .bool false, .pointer (some ⟨FB, 0, none⟩), undef, undef, undef, undef, undef, undef, x13, .bool true, .bool false, .bool false, x17, .bool true, .bool false, .bool false, undef, .slice (some ⟨B1, 0, none⟩) 0 0, .pointer (some ⟨A, 0, none⟩), .slice a n c, .slice p1 n q1, .slice (some ⟨B2, 0, none⟩) 0 0, .pointer (some ⟨A, 1, none⟩), .slice a' n' c', .slice p2 n' q2, .agg #[.slice p1 n q1, .slice p2 n' q2], undef, undef, undef, undef, undef, undef, undef, undef, undef, undef, undef, undef, undef, undef, undef, undef, undef, undef, undef, undef, undef, undef, undef, undef, undef, undef, undef, undef, undef, undef, undef, undef, undef, undef, undef, undef, undef, undef, undef, undef, undef, undef, undef, undef, undef, undef, undef, undef, undef, undef, undef, undef, undef, undef, undef, undef, undef, undef, undef, undef, undef, undef, undef], []⟩ X)) (HBL : Hid (Below w0.heap.size w0 W)) :
    wpAnyH Try.prog .any ops15 (NoPanic Q) (fun X => X.cell? ⟨A, 0, none⟩ = some (.slice a n c) ∧ X.cell? ⟨A, 1, none⟩ = some (.slice a' n' c')) 7 #[false, true, true, false, false, true, true, false, false, false, false] ⟨#[x0, x1, .pointer (some ⟨A, 0, none⟩), x3, x4, .bool false, undef, undef, undef, undef, undef, undef, undef, x13, .bool true, .bool false, .bool false, x17, .bool true, .bool false, .bool false, undef, undef, .pointer (some ⟨A, 0, none⟩), .slice a n c, undef, undef, .pointer (some ⟨A, 1, none⟩), .slice a' n' c', undef, undef, undef, undef, undef, undef, undef, undef, undef, undef, undef, undef, undef, undef, undef, undef, undef, undef, undef, undef, undef, undef, undef, undef, undef, undef, undef, undef, undef, undef, undef, undef, undef, undef, undef, undef, undef, undef, undef, undef, undef, undef, undef, undef, undef, undef, undef, undef, undef, undef, undef, undef, undef, undef, undef, undef, undef, undef, undef, undef, undef, undef, undef, undef, undef], []⟩ W := by
  unfold ops15
  refine wpAnyH_ready (rs := [0, 4, 9]) (by kernel_rfl) (by simp) ?_
  refine AllReadyH.cons (o := ⟨some 22, _, _, _, _, none⟩) rfl (fun K hK => ?_) (AllReadyH.cons (o := ⟨some 26, _, _, _, _, none⟩) rfl (fun K hK => ?_) (AllReadyH.cons (o := ⟨some 6, _, _, _, _, none⟩) rfl (fun K hK => ?_) (AllReadyH.nil)))
  · have hsz := HBL.out.size
    have hb' := below_new W (.cells #[] 68)
    have H1n := hide (World.ownsRow_lit (base := w0.heap.size) (e := 68) (size := 2) W #[] 0 hsz (by decide) rfl)
    have HBLn := hide (HBL.out.trans (hb'.mono hsz))
    go_simp
    refine hK.out _ _ (HSA.out _ HBLn.out) (fun _ => ?_)
    clear hK K hb'
    clear HBL
    exact jmd_0 HN hn HL hn' HGA HLA HSA hQ H1n HBLn
  · have hsz := HBL.out.size
    have hb' := below_new W (.cells #[] 52)
    have H2n := hide (World.ownsRow_lit (base := w0.heap.size) (e := 52) (size := 2) W #[] 0 hsz (by decide) rfl)
    have HBLn := hide (HBL.out.trans (hb'.mono hsz))
    go_simp
    refine hK.out _ _ (HSA.out _ HBLn.out) (fun _ => ?_)
    clear hK K hb'
    clear HBL
    exact jmd_4 HN hn HL hn' HGA HLA HSA hQ H2n HBLn
  · have hsz := HBL.out.size
    have hb' := below_new W (.cells #[.slice none 0 0, .slice none 0 0] 31)
    have HFBn := hide (⟨Z2.new W 31, hsz⟩ : _ ∧ _)
    have HBLn := hide (HBL.out.trans (hb'.mono hsz))
    go_simp
    refine hK.out _ _ (HSA.out _ HBLn.out) (fun _ => ?_)
    clear hK K hb'
    clear HBL
    exact jmd_9 HN hn HL hn' HGA HLA HSA hQ HFBn HBLn
end Go.Proofs.Ytogkbidphdpjaaa
