/-
  What the law of JoinSheets carries from step to step; both functions in one word.
-/
import Derived.Test.YtogkbidphdpjaaaWj15
import Derived.Test.YtogkbidphdpjaaaWk15
namespace Go.Proofs.Ytogkbidphdpjaaa
open Go.RowKit

theorem TS.loose15 {w : World} {X Y n n' : Nat} {gs : List Gd} {ls : List (Int × Int)} (t : TS w X Y n n' gs ls) : LooseV w (.slice (some ⟨X, 0, none⟩) n n) n ∧ LooseV w (.slice (some ⟨Y, 0, none⟩) n' n') n' :=
  ⟨Or.inr ⟨X, n, rfl, t.lx, t.lg⟩, Or.inr ⟨Y, n', rfl, t.ly, t.ll⟩⟩
theorem own_off15 {x b : Nat} (h : x ≠ b) (n c : Nat) : some x ≠ (Value.slice (some ⟨b, 0, none⟩) n c).ownBlock := fun e => h (by injection e)
theorem pb_keep15 {W W' : World} {B : Nat} {v0 v1 : Value} (h : PBox W B v0 v1) (hs : W.heap.size ≤ W'.heap.size) (hb : W'.heap[B]? = W.heap[B]?) : PBox W' B v0 v1 :=
  ⟨(World.cell?_of_block (a := ⟨B, 0, none⟩) hb).trans h.1, (World.cell?_of_block (a := ⟨B, 1, none⟩) hb).trans h.2.1, Nat.lt_of_lt_of_le h.2.2 hs⟩
/-- The law's two parameters. -/
structure JA2 (w0 w : World) (u u' x x' : Value) : Prop where
  pa : PBox w w0.heap.size u u'
  pb : PBox w (w0.heap.size + 1) x x'
  below : Below w0.heap.size w0 w
theorem JA2.below' {w0 w w' : World} {u u' x x' : Value} (h : JA2 w0 w u u' x x') (hb : Below w.heap.size w w') : JA2 w0 w' u u' x x' :=
  ⟨h.pa.below hb, h.pb.below hb, h.below.trans (hb.mono h.below.size)⟩
theorem JA2.new (w : World) (u u' x x' : Value) (t t' : TypeId) : JA2 w ((w.alloc (.cells #[u, u'] t)).alloc (.cells #[x, x'] t')) u u' x x' := by
  have b1 := below_new w (.cells #[u, u'] t)
  have b2 := below_new (w.alloc (.cells #[u, u'] t)) (.cells #[x, x'] t')
  have p2 := PBox.new (w.alloc (.cells #[u, u'] t)) x x' t'
  rw [World.size_alloc] at p2
  exact ⟨(PBox.new w u u' t).below b2, p2, b1.trans (b2.mono b1.size)⟩
theorem JA2.off {w0 w w' : World} {u u' x x' v v' : Value} {Z : Nat} (h : JA2 w0 w u u' x x') (of : OffV w w' v v') (hv : ∀ g, v.ownBlock = some g ∨ v'.ownBlock = some g → Z ≤ g) (hZ : w0.heap.size + 1 < Z) : JA2 w0 w' u u' x x' := by
  have k : ∀ b, b < w.heap.size → b < Z → w'.heap[b]? = w.heap[b]? := fun b hb hz => of.block b hb (fun e => by have := hv b (Or.inl e.symm); omega) (fun e => by have := hv b (Or.inr e.symm); omega)
  refine ⟨pb_keep15 h.pa of.size (k _ h.pa.2.2 (by omega)), pb_keep15 h.pb of.size (k _ h.pb.2.2 hZ), h.below.trans ⟨of.os, of.tape, of.output, of.size, fun b hb => k b ?_ (by omega)⟩⟩
  have := h.below.size; omega
/-- An answer in a variable. -/
structure JV (w0 w : World) (D : Nat) (v v' : Value) (gs : List Gd) (ls : List (Int × Int)) : Prop where
  o : JO w0 w v v' gs ls
  p : PBox w D v v'
theorem JV.below {w0 w w' : World} {D : Nat} {v v' : Value} {gs : List Gd} {ls : List (Int × Int)} (h : JV w0 w D v v' gs ls) (hb : Below w.heap.size w w') : JV w0 w' D v v' gs ls := ⟨h.o.below hb, h.p.below hb⟩
theorem JV.hi {w0 w : World} {D : Nat} {v v' : Value} {gs : List Gd} {ls : List (Int × Int)} (h : JV w0 w D v v' gs ls) : ∀ g, v.ownBlock = some g ∨ v'.ownBlock = some g → w0.heap.size ≤ g ∧ g < w.heap.size := fun g hg => by
  rcases hg with hg | hg
  · exact h.o.o1.lt _ hg
  · exact h.o.o2.lt _ hg
theorem JV.off {w0 w w' : World} {D : Nat} {v v' x x' : Value} {gs : List Gd} {ls : List (Int × Int)} (h : JV w0 w D v v' gs ls) (of : OffV w w' x x') (hD : some D ≠ x.ownBlock ∧ some D ≠ x'.ownBlock) (hv : ∀ g, v.ownBlock = some g ∨ v'.ownBlock = some g → some g ≠ x.ownBlock ∧ some g ≠ x'.ownBlock) : JV w0 w' D v v' gs ls :=
  ⟨h.o.keep (fun g hg hl => of.block g hl (hv g (Or.inl hg)).1 (hv g (Or.inl hg)).2) (fun g hg hl => of.block g hl (hv g (Or.inr hg)).1 (hv g (Or.inr hg)).2), pb_keep15 h.p of.size (of.block D h.p.2.2 hD.1 hD.2)⟩
theorem JO.rows {w0 w : World} {p1 p2 : Option Addr} {k1 k2 q1 q2 : Nat} {gs : List Gd} {ls : List (Int × Int)} (h : JO w0 w (.slice p1 k1 q1) (.slice p2 k2 q2) gs ls) : GRow w p1 gs ∧ LRow w p2 ls := by
  obtain ⟨a, c, e, _, r⟩ := own_gd rfl h.o1
  obtain ⟨a', c', e', _, r'⟩ := own_ln rfl h.o2
  injection e with e1 e2 e3
  injection e' with e1' e2' e3'
  subst e1 e1'
  exact ⟨r, r'⟩
theorem JO.loose {w0 w : World} {v v' : Value} {k1 k2 : Nat} {gs : List Gd} {ls : List (Int × Int)} (h : JO w0 w v v' gs ls) (e1 : gs.length = k1) (e2 : ls.length = k2) : LooseV w v k1 ∧ LooseV w v' k2 := by
  subst e1 e2
  exact ⟨LooseV.of_own h.o1, LooseV.of_own h.o2⟩
/-- Both lists of a sheet hold their marks. -/
structure HM (w : World) (v v' : Value) (k1 k2 : Nat) : Prop where
  g : HeldGV w v k1 1
  l : HeldLV w v' k2 (1 + k1 * 2)
theorem HM.below {w w' : World} {v v' : Value} {k1 k2 : Nat} (h : HM w v v' k1 k2) (hb : Below w.heap.size w w') : HM w' v v' k1 k2 := ⟨h.g.below hb, h.l.below hb⟩
/-- What a JoinSheets answers. -/
def JsAns (f : Nat) (n n' m m' k1 k2 : Nat) (ok : Bool) (ga gb gs : List Gd) (la lb ls : List (Int × Int)) : Prop :=
  ∀ X XA YA XB YB, TS X XA YA n n' ga la → TS X XB YB m m' gb lb → Calls Try.prog f #[.agg #[.slice (some ⟨XA, 0, none⟩) n n, .slice (some ⟨YA, 0, none⟩) n' n'], .agg #[.slice (some ⟨XB, 0, none⟩) m m, .slice (some ⟨YB, 0, none⟩) m' m']] X fun e w' =>
    ∃ p1 p2 q1 q2, e = .returned (.tuple #[.agg #[.slice p1 k1 q1, .slice p2 k2 q2], .bool ok]) ∧ Below X.heap.size X w' ∧ JO X w' (.slice p1 k1 q1) (.slice p2 k2 q2) gs ls
theorem ja_jo {X w' : World} {e : Ending} {r : Option (List Gd × List (Int × Int))} (h : JA X r e w') :
    ∃ p1 p2 q1 q2, e = .returned (.tuple #[.agg #[.slice p1 (r.getD ([], [])).1.length q1, .slice p2 (r.getD ([], [])).2.length q2], .bool r.isSome]) ∧ Below X.heap.size X w' ∧ JO X w' (.slice p1 (r.getD ([], [])).1.length q1) (.slice p2 (r.getD ([], [])).2.length q2) (r.getD ([], [])).1 (r.getD ([], [])).2 := by
  obtain ⟨v, v', he, hb, h1, h2, h3⟩ := h
  obtain ⟨a, c, e1, _, _⟩ := own_gd rfl h1
  obtain ⟨a', c', e1', _, _⟩ := own_ln rfl h2
  subst e1 e1'
  exact ⟨a, a', c, c', he, hb, ⟨h1, h2, h3⟩⟩
theorem js_both {ga gb : List Gd} {la lb : List (Int × Int)} {n n' m m' : Nat} (HN : Hid (ga.length = n)) (HN' : Hid (la.length = n')) (GN : Hid (gb.length = m)) (GN' : Hid (lb.length = m')) :
    ∃ k1 k2 ok gs ls, Hid (gs.length = k1) ∧ Hid (ls.length = k2) ∧ k1 ≤ 12 ∧ k2 ≤ 80 ∧ Hid (Short ga → Short gb → n ≤ 1048576 → n' ≤ 1048576 → m ≤ 1048576 → m' ≤ 1048576 → JsAns 20 n n' m m' k1 k2 ok ga gb gs la lb ls)
      ∧ Hid (Short ga → Short gb → n ≤ 1048576 → n' ≤ 1048576 → m ≤ 1048576 → m' ≤ 1048576 → JsAns 21 n n' m m' k1 k2 ok ga gb gs la lb ls) := by
  have hk : ((joinM ga la gb lb).getD ([], [])).1.length ≤ 12 ∧ ((joinM ga la gb lb).getD ([], [])).2.length ≤ 80 := by
    unfold joinM
    split
    · cases takeM ga gb with
      | none => exact ⟨Nat.zero_le _, Nat.zero_le _⟩
      | some o =>
        simp only [Option.bind_some]
        split
        · rename_i h
          obtain ⟨_, h1, h2, _⟩ := sheet_parts h
          exact ⟨h1, h2⟩
        · exact ⟨Nat.zero_le _, Nat.zero_le _⟩
    · exact ⟨Nat.zero_le _, Nat.zero_le _⟩
  refine ⟨_, _, (joinM ga la gb lb).isSome, ((joinM ga la gb lb).getD ([], [])).1, ((joinM ga la gb lb).getD ([], [])).2, hide rfl, hide rfl, hk.1, hk.2, hide fun s1 s2 h1 h2 h3 h4 X XA YA XB YB tA tB => ?_, hide fun s1 s2 h1 h2 h3 h4 X XA YA XB YB tA tB => ?_⟩
  · cases hg : (sheetB ga la && sheetB gb lb) with
    | false => exact (sji_no HN h1 (Nat.le_refl _) (hide s1) (hide tA.g) HN' h2 (Nat.le_refl _) (hide tA.l) GN h3 (Nat.le_refl _) (hide s2) (hide tB.g) GN' h4 (Nat.le_refl _) (hide tB.l) hg).mono fun e w' h => ja_jo h
    | true =>
      rw [Bool.and_eq_true] at hg
      exact (sji_yes HN h1 (Nat.le_refl _) (hide s1) (hide tA.g) HN' h2 (Nat.le_refl _) (hide tA.l) GN h3 (Nat.le_refl _) (hide s2) (hide tB.g) GN' h4 (Nat.le_refl _) (hide tB.l) (hide hg.1) (hide hg.2)).mono fun e w' h => ja_jo h
  · rw [← join_same]
    exact (ji_any HN (Nat.le_refl _) (hide s1) (hide tA.g) HN' (hide tA.l) GN (Nat.le_refl _) (hide s2) (hide tB.g) GN' (hide tB.l)).mono fun e w' h => ja_jo h
/-- The order of the blocks. -/
structure JOrd (w0 w2 w7 : World) (Z FB X4 Y4 D8 X6 Y6 D9 D10 : Nat) (v v' g g' : Value) : Prop where
  a : w0.heap.size + 1 < w2.heap.size
  z : w2.heap.size ≤ Z
  fb : FB < Z
  x4 : Z ≤ X4
  y4 : Z ≤ Y4
  x4' : X4 < D8
  y4' : Y4 < D8
  x6 : D8 < X6
  y6 : D8 < Y6
  x6' : X6 < D9
  y6' : Y6 < D9
  d9 : D9 < w7.heap.size
  d10 : w7.heap.size ≤ D10
  v : ∀ b, v.ownBlock = some b ∨ v'.ownBlock = some b → b < Z
  g : ∀ b, g.ownBlock = some b ∨ g'.ownBlock = some b → w7.heap.size ≤ b ∧ b < D10
/-- All that the law holds, ahead of its marks. -/
structure JAll (w0 w2 w7 w : World) (u u' x x' : Value) (FB D8 X4 Y4 n n' D9 X6 Y6 m m' D10 : Nat) (v v' g g' : Value) (ga gb gs : List Gd) (la lb ls : List (Int × Int)) : Prop where
  e : JA2 w0 w u u' x x'
  v : JV w2 w FB v v' gs ls
  x : TS w X4 Y4 n n' ga la
  px : PBox w D8 (.slice (some ⟨X4, 0, none⟩) n n) (.slice (some ⟨Y4, 0, none⟩) n' n')
  y : TS w X6 Y6 m m' gb lb
  py : PBox w D9 (.slice (some ⟨X6, 0, none⟩) m m) (.slice (some ⟨Y6, 0, none⟩) m' m')
  g : JV w7 w D10 g g' gs ls
theorem JAll.below {w0 w2 w7 w w' : World} {u u' x x' : Value} {FB D8 X4 Y4 n n' D9 X6 Y6 m m' D10 : Nat} {v v' g g' : Value} {ga gb gs : List Gd} {la lb ls : List (Int × Int)} (h : JAll w0 w2 w7 w u u' x x' FB D8 X4 Y4 n n' D9 X6 Y6 m m' D10 v v' g g' ga gb gs la lb ls) (hb : Below w.heap.size w w') :
    JAll w0 w2 w7 w' u u' x x' FB D8 X4 Y4 n n' D9 X6 Y6 m m' D10 v v' g g' ga gb gs la lb ls :=
  ⟨h.e.below' hb, h.v.below hb, h.x.below hb, h.px.below hb, h.y.below hb, h.py.below hb, h.g.below hb⟩
/-- The same, the first sheet's marks laid. -/
structure JAl2 (w0 w2 w7 w : World) (u u' x x' : Value) (FB D9 X6 Y6 m m' D10 : Nat) (v v' g g' : Value) (gb gs : List Gd) (lb ls : List (Int × Int)) : Prop where
  e : JA2 w0 w u u' x x'
  v : JV w2 w FB v v' gs ls
  y : TS w X6 Y6 m m' gb lb
  py : PBox w D9 (.slice (some ⟨X6, 0, none⟩) m m) (.slice (some ⟨Y6, 0, none⟩) m' m')
  g : JV w7 w D10 g g' gs ls
theorem own_two {X Y n n' c c' g : Nat} (h : (Value.slice (some ⟨X, 0, none⟩) n c).ownBlock = some g ∨ (Value.slice (some ⟨Y, 0, none⟩) n' c').ownBlock = some g) : g = X ∨ g = Y := by
  rcases h with h | h
  · exact Or.inl (by injection h with h; exact h.symm)
  · exact Or.inr (by injection h with h; exact h.symm)
theorem JAll.mark {w0 w2 w7 w w' : World} {u u' x x' : Value} {Z FB D8 X4 Y4 n n' D9 X6 Y6 m m' D10 : Nat} {v v' g g' : Value} {ga gb gs : List Gd} {la lb ls : List (Int × Int)} (h : JAll w0 w2 w7 w u u' x x' FB D8 X4 Y4 n n' D9 X6 Y6 m m' D10 v v' g g' ga gb gs la lb ls) (o : JOrd w0 w2 w7 Z FB X4 Y4 D8 X6 Y6 D9 D10 v v' g g')
    (of : OffV w w' (.slice (some ⟨X4, 0, none⟩) n n) (.slice (some ⟨Y4, 0, none⟩) n' n')) : JAl2 w0 w2 w7 w' u u' x x' FB D9 X6 Y6 m m' D10 v v' g g' gb gs lb ls := by
  obtain ⟨o1, o2, o3, o4, o5, o6, o7, o8, o9, o10, o11, o12, o13, o14, o15⟩ := o
  have k : ∀ b, b < w.heap.size → b ≠ X4 → b ≠ Y4 → w'.heap[b]? = w.heap[b]? := fun b hb h1 h2 => of.block b hb (own_off15 h1 _ _) (own_off15 h2 _ _)
  refine ⟨h.e.off of (Z := Z) (fun g hg => by rcases own_two hg with rfl | rfl <;> assumption) (by omega), h.v.off of ⟨own_off15 (by omega) _ _, own_off15 (by omega) _ _⟩ (fun g hg => ?_), h.y.keep of.size (k _ h.y.lx (by omega) (by omega)) (k _ h.y.ly (by omega) (by omega)), pb_keep15 h.py of.size (k _ h.py.2.2 (by omega) (by omega)), h.g.off of ⟨own_off15 (by omega) _ _, own_off15 (by omega) _ _⟩ (fun g hg => ?_)⟩
  · have := o14 g hg; exact ⟨own_off15 (by omega) _ _, own_off15 (by omega) _ _⟩
  · have := o15 g hg; exact ⟨own_off15 (by omega) _ _, own_off15 (by omega) _ _⟩
/-- The same, both sheets' marks laid. -/
structure JAl3 (w0 w2 w7 w : World) (u u' x x' : Value) (FB D10 : Nat) (v v' g g' : Value) (gs : List Gd) (ls : List (Int × Int)) : Prop where
  e : JA2 w0 w u u' x x'
  v : JV w2 w FB v v' gs ls
  g : JV w7 w D10 g g' gs ls
theorem JAl3.below {w0 w2 w7 w w' : World} {u u' x x' : Value} {FB D10 : Nat} {v v' g g' : Value} {gs : List Gd} {ls : List (Int × Int)} (h : JAl3 w0 w2 w7 w u u' x x' FB D10 v v' g g' gs ls) (hb : Below w.heap.size w w') : JAl3 w0 w2 w7 w' u u' x x' FB D10 v v' g g' gs ls := ⟨h.e.below' hb, h.v.below hb, h.g.below hb⟩
theorem JAl2.mark {w0 w2 w7 w w' : World} {u u' x x' : Value} {Z FB D8 X4 Y4 D9 X6 Y6 m m' D10 : Nat} {v v' g g' : Value} {gb gs : List Gd} {lb ls : List (Int × Int)} (h : JAl2 w0 w2 w7 w u u' x x' FB D9 X6 Y6 m m' D10 v v' g g' gb gs lb ls) (o : JOrd w0 w2 w7 Z FB X4 Y4 D8 X6 Y6 D9 D10 v v' g g')
    (of : OffV w w' (.slice (some ⟨X6, 0, none⟩) m m) (.slice (some ⟨Y6, 0, none⟩) m' m')) : JAl3 w0 w2 w7 w' u u' x x' FB D10 v v' g g' gs ls := by
  obtain ⟨o1, o2, o3, o4, o5, o6, o7, o8, o9, o10, o11, o12, o13, o14, o15⟩ := o
  refine ⟨h.e.off of (Z := Z) (fun g hg => by rcases own_two hg with rfl | rfl <;> omega) (by omega), h.v.off of ⟨own_off15 (by omega) _ _, own_off15 (by omega) _ _⟩ (fun g hg => ?_), h.g.off of ⟨own_off15 (by omega) _ _, own_off15 (by omega) _ _⟩ (fun g hg => ?_)⟩
  · have := o14 g hg; exact ⟨own_off15 (by omega) _ _, own_off15 (by omega) _ _⟩
  · have := o15 g hg; exact ⟨own_off15 (by omega) _ _, own_off15 (by omega) _ _⟩
/-- The same, the answer's marks laid. -/
structure JAl4 (w0 w2 w : World) (u u' x x' : Value) (FB D10 k1 k2 : Nat) (v v' g g' : Value) (gs : List Gd) (ls : List (Int × Int)) : Prop where
  e : JA2 w0 w u u' x x'
  v : JV w2 w FB v v' gs ls
  p : PBox w D10 g g'
  h : HM w g g' k1 k2
theorem JAl4.below {w0 w2 w w' : World} {u u' x x' : Value} {FB D10 k1 k2 : Nat} {v v' g g' : Value} {gs : List Gd} {ls : List (Int × Int)} (h : JAl4 w0 w2 w u u' x x' FB D10 k1 k2 v v' g g' gs ls) (hb : Below w.heap.size w w') : JAl4 w0 w2 w' u u' x x' FB D10 k1 k2 v v' g g' gs ls := ⟨h.e.below' hb, h.v.below hb, h.p.below hb, h.h.below hb⟩
theorem JAl3.mark {w0 w2 w7 w w' : World} {u u' x x' : Value} {Z FB D8 X4 Y4 D9 X6 Y6 D10 k1 k2 : Nat} {v v' g g' : Value} {gs : List Gd} {ls : List (Int × Int)} (h : JAl3 w0 w2 w7 w u u' x x' FB D10 v v' g g' gs ls) (o : JOrd w0 w2 w7 Z FB X4 Y4 D8 X6 Y6 D9 D10 v v' g g')
    (of : OffV w w' g g') (hm : HM w' g g' k1 k2) : JAl4 w0 w2 w' u u' x x' FB D10 k1 k2 v v' g g' gs ls := by
  obtain ⟨o1, o2, o3, o4, o5, o6, o7, o8, o9, o10, o11, o12, o13, o14, o15⟩ := o
  have n1 : ∀ b, (b < w7.heap.size ∨ b = D10) → some b ≠ g.ownBlock ∧ some b ≠ g'.ownBlock := fun b hb => ⟨fun e => by have := o15 b (Or.inl e.symm); omega, fun e => by have := o15 b (Or.inr e.symm); omega⟩
  refine ⟨h.e.off of (Z := Z) (fun b hg => by have := o15 b hg; omega) (by omega), h.v.off of (n1 _ (Or.inl (by omega))) (fun b hg => ?_), pb_keep15 h.g.p of.size (of.block _ h.g.p.2.2 (n1 _ (Or.inr rfl)).1 (n1 _ (Or.inr rfl)).2), hm⟩
  have := o14 b hg; exact n1 b (Or.inl (by omega))
end Go.Proofs.Ytogkbidphdpjaaa
