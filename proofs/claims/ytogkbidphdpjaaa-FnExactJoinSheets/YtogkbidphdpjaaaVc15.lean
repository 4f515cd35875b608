/-
  A sheet that is made, in a variable: what takeGood and takePick of the program do to it.
-/
import Derived.Test.YtogkbidphdpjaaaVb15
import Derived.Test.YtogkbidphdpjaaaSb15
import Derived.Test.YtogkbidphdpjaaaSd15
import Derived.Test.YtogkbidphdpjaaaShelf
import Derived.Deep.AppendLies
import Derived.Deep.RegionHeld3
namespace Go.Proofs.Ytogkbidphdpjaaa
open Go.RowKit

theorem infoG15 : ∃ i, Try.prog.info? 68 = some i ∧ i.zero = some (.agg #[.string ⟨#[]⟩, .int .i64 0]) ∧ i.size = 2 ∧ i.bytes = 24 := by
  have h : (Try.prog.info? 68).map (fun i => (i.zero, i.size, i.bytes)) = some (some (.agg #[.string ⟨#[]⟩, .int .i64 0]), 2, 24) := by kernel_rfl
  obtain ⟨i, hi, hzz⟩ := Option.map_eq_some_iff.1 h
  simp only [Prod.mk.injEq] at hzz
  exact ⟨i, hi, hzz.1, hzz.2.1, hzz.2.2⟩
theorem infoL15 : ∃ i, Try.prog.info? 52 = some i ∧ i.zero = some (.agg #[.int .i64 0, .int .i64 0]) ∧ i.size = 2 ∧ i.bytes = 16 := by
  have h : (Try.prog.info? 52).map (fun i => (i.zero, i.size, i.bytes)) = some (some (.agg #[.int .i64 0, .int .i64 0]), 2, 16) := by kernel_rfl
  obtain ⟨i, hi, hzz⟩ := Option.map_eq_some_iff.1 h
  simp only [Prod.mk.injEq] at hzz
  exact ⟨i, hi, hzz.1, hzz.2.1, hzz.2.2⟩
theorem new_pair15 (w : World) (u0 u1 : Value) (t : TypeId) {H : Nat} (hH : w.heap.size = H) : ∀ (j : Nat) (u : Value), ([u0, u1] : List Value)[j]? = some u → (w.alloc (.cells #[u0, u1] t)).cell? ((⟨H, 0, none⟩ : Addr).add j) = some u := by
  intro j u hj
  subst hH
  match j, hj with
  | 0, hj => simp at hj; subst hj; simp [Addr.add]
  | 1, hj => simp at hj; subst hj; simp [Addr.add]
theorem two_one15 {u0 u1 : Value} (h0 : u0.oneCell' = true) (h1 : u1.oneCell' = true) : ∀ u ∈ ([u0, u1] : List Value), u.oneCell' = true := by
  intro u hu
  simp at hu
  rcases hu with rfl | rfl <;> assumption
/-- What a cell holds, as a word of the world. -/
def cv15 (w : World) (J k : Nat) : Value := (w.cell? ⟨J, k, none⟩).getD (.bool false)
theorem cv15_of {w : World} {J k : Nat} {v : Value} (h : w.cell? ⟨J, k, none⟩ = some v) : w.cell? ⟨J, k, none⟩ = some (cv15 w J k) := by rw [cv15, h]; rfl
theorem cv15_is {w : World} {J k : Nat} {v : Value} (h : w.cell? ⟨J, k, none⟩ = some v) : cv15 w J k = v := by rw [cv15, h]; rfl
/-- A sheet that is made, in a variable: its two lists lie behind it, each in a block of its own. -/
structure JS (w : World) (J : Nat) (v v' : Value) (gs : List Gd) (ls : List (Int × Int)) : Prop where
  c0 : w.cell? ⟨J, 0, none⟩ = some v
  c1 : w.cell? ⟨J, 1, none⟩ = some v'
  f0 : w.frozen? ⟨J, 0, none⟩ = false
  f1 : w.frozen? ⟨J, 1, none⟩ = false
  o1 : w.ownsRow (J + 1) 68 2 v gs.length (gce gs)
  o2 : w.ownsRow (J + 1) 52 2 v' ls.length (lce ls)
  ne : ∀ g, v.ownBlock = some g → v'.ownBlock ≠ some g
  lt : J < w.heap.size
theorem own_keep15 {w w' : World} {base e s n : Nat} {v : Value} {xs : List Value} (h : w.ownsRow base e s v n xs) (hb : ∀ g, v.ownBlock = some g → g < w.heap.size → w'.heap[g]? = w.heap[g]?) : w'.ownsRow base e s v n xs := by
  rcases h with ⟨h0, h | ⟨g', cap, cur, rfl, h2, h3, h4⟩⟩
  · exact ⟨h0, Or.inl h⟩
  · exact ⟨h0, Or.inr ⟨g', cap, cur, rfl, h2, (hb g' rfl (Array.getElem?_eq_some_iff.1 h3).1).trans h3, h4⟩⟩
theorem own_below15 {w w' : World} {base e s n : Nat} {v : Value} {xs : List Value} (h : w.ownsRow base e s v n xs) (hb : Below w.heap.size w w') : w'.ownsRow base e s v n xs := own_keep15 h fun _ _ hl => hb.block _ hl
theorem own_low15 {w : World} {base base' e s n : Nat} {v : Value} {xs : List Value} (h : w.ownsRow base e s v n xs) (hb : base' ≤ base) : w.ownsRow base' e s v n xs := by
  rcases h with ⟨h0, h | ⟨g, cap, cur, h1, h2, h3⟩⟩
  · exact ⟨h0, Or.inl h⟩
  · exact ⟨h0, Or.inr ⟨g, cap, cur, h1, Nat.le_trans hb h2, h3⟩⟩
theorem JS.below {w w' : World} {J : Nat} {v v' : Value} {gs : List Gd} {ls : List (Int × Int)} (h : JS w J v v' gs ls) (hb : Below w.heap.size w w') : JS w' J v v' gs ls :=
  ⟨(hb.cell (p := ⟨J, 0, none⟩) h.lt).trans h.c0, (hb.cell (p := ⟨J, 1, none⟩) h.lt).trans h.c1, (hb.frozen (p := ⟨J, 0, none⟩) h.lt).trans h.f0, (hb.frozen (p := ⟨J, 1, none⟩) h.lt).trans h.f1, own_below15 h.o1 hb, own_below15 h.o2 hb, h.ne, Nat.lt_of_lt_of_le h.lt hb.size⟩
/-- Nothing has turned but a variable and what a value owned. -/
structure GJ (w w' : World) (J : Nat) (v : Value) : Prop where
  os : w'.os = w.os
  tape : w'.tape = w.tape
  output : w'.output = w.output
  size : w.heap.size ≤ w'.heap.size
  block : ∀ b, b < w.heap.size → b ≠ J → some b ≠ v.ownBlock → w'.heap[b]? = w.heap[b]?
theorem GJ.of_below {w w' : World} {J : Nat} {v : Value} (h : Below w.heap.size w w') : GJ w w' J v := ⟨h.os, h.tape, h.output, h.size, fun b hb _ _ => h.block b hb⟩
theorem GJ.under {w w' : World} {J k : Nat} {v : Value} (h : GJ w w' J v) (hk : k ≤ J) (hj : J < w.heap.size) (hv : ∀ g, v.ownBlock = some g → J < g) : Below k w w' :=
  ⟨h.os, h.tape, h.output, h.size, fun b hb => h.block b (by omega) (by omega) (fun e => by have := hv b e.symm; omega)⟩
theorem JS.own1 {w : World} {J : Nat} {v v' : Value} {gs : List Gd} {ls : List (Int × Int)} (h : JS w J v v' gs ls) : ∀ g, v.ownBlock = some g → J < g ∧ g < w.heap.size := fun g hg => by have := h.o1.lt g hg; omega
theorem JS.own2 {w : World} {J : Nat} {v v' : Value} {gs : List Gd} {ls : List (Int × Int)} (h : JS w J v v' gs ls) : ∀ g, v'.ownBlock = some g → J < g ∧ g < w.heap.size := fun g hg => by have := h.o2.lt g hg; omega
/-- A good more: the goods' list, grown, is laid into the variable. -/
theorem JS.first {w wa w6 : World} {J gg cap H : Nat} {v v' : Value} {gs : List Gd} {ls : List (Int × Int)} {g : Gd} (h : JS w J v v' gs ls) (hb : Below w.heap.size w wa)
    (hown : w6.ownsRow (J + 1) 68 2 (.slice (some ⟨gg, 0, none⟩) (gs.length + 1) cap) (gs.length + 1) (gce gs ++ [.string g.1, .int .i64 g.2])) (hg : wa.grownBy w6 v.ownBlock) (hat : v.ownBlock = some gg ∨ gg = H) (hH : w.heap.size ≤ H) :
    JS (w6.setCell ⟨J, 0, none⟩ (.slice (some ⟨gg, 0, none⟩) (gs.length + 1) cap)) J (.slice (some ⟨gg, 0, none⟩) (gs.length + 1) cap) v' (gs ++ [g]) ls ∧ GJ w (w6.setCell ⟨J, 0, none⟩ (.slice (some ⟨gg, 0, none⟩) (gs.length + 1) cap)) J v ∧
      (v.ownBlock = some gg ∨ w.heap.size ≤ gg) := by
  have blk : ∀ b, b < w.heap.size → some b ≠ v.ownBlock → w6.heap[b]? = w.heap[b]? := fun b hb' hne => (hg.block b (Nat.lt_of_lt_of_le hb' hb.size) hne).trans (hb.block b hb')
  have nJ : some J ≠ v.ownBlock := fun e => by have := h.own1 J e.symm; omega
  have sz : w.heap.size ≤ w6.heap.size := Nat.le_trans hb.size hg.size
  have cJ : ∀ i, w6.cell? ⟨J, i, none⟩ = w.cell? ⟨J, i, none⟩ := fun i => World.cell?_of_block (w := w) (a := ⟨J, i, none⟩) (blk J h.lt nJ)
  have fJ : ∀ i, w6.frozen? ⟨J, i, none⟩ = w.frozen? ⟨J, i, none⟩ := fun i => World.frozen?_of_block (w := w) (a := ⟨J, i, none⟩) (blk J h.lt nJ)
  refine ⟨⟨World.cell?_setCell_same _ _ _ ((cJ 0).trans h.c0), (World.cell?_setCell_other _ _ _ _ (by simp)).trans ((cJ 1).trans h.c1), (World.frozen?_setCell ..).trans ((fJ 0).trans h.f0), (World.frozen?_setCell ..).trans ((fJ 1).trans h.f1), ?_, ?_, ?_, ?_⟩, ⟨?_, ?_, ?_, ?_, ?_⟩, ?_⟩
  · have e1 : gce (gs ++ [g]) = gce gs ++ [.string g.1, .int .i64 g.2] := pq_snoc _ _ _ _
    rw [e1, List.length_append]
    exact ownsRow_setCell_below hown (by show J < J + 1; omega) _
  · exact ownsRow_setCell_below (own_keep15 h.o2 fun b hb' hl => blk b hl (fun e => h.ne b e.symm hb')) (by show J < J + 1; omega) _
  · intro b hb1 hb2
    cases hb1
    rcases hat with e | e
    · exact h.ne gg e hb2
    · have := h.own2 gg hb2; omega
  · simp; have := h.lt; omega
  · exact hg.os.trans hb.os
  · exact hg.tape.trans hb.tape
  · exact hg.output.trans hb.output
  · simpa using sz
  · exact fun b hb' h1 h2 => (Below.heap_setCell _ _ _ b h1).trans (blk b hb' h2)
  · rcases hat with e | e
    · exact Or.inl e
    · exact Or.inr (by omega)
theorem JS.second {w wa w6 : World} {J gg cap H : Nat} {v v' : Value} {gs : List Gd} {ls : List (Int × Int)} {l : Int × Int} (h : JS w J v v' gs ls) (hb : Below w.heap.size w wa)
    (hown : w6.ownsRow (J + 1) 52 2 (.slice (some ⟨gg, 0, none⟩) (ls.length + 1) cap) (ls.length + 1) (lce ls ++ [.int .i64 l.1, .int .i64 l.2])) (hg : wa.grownBy w6 v'.ownBlock) (hat : v'.ownBlock = some gg ∨ gg = H) (hH : w.heap.size ≤ H) :
    JS (w6.setCell ⟨J, 1, none⟩ (.slice (some ⟨gg, 0, none⟩) (ls.length + 1) cap)) J v (.slice (some ⟨gg, 0, none⟩) (ls.length + 1) cap) gs (ls ++ [l]) ∧ GJ w (w6.setCell ⟨J, 1, none⟩ (.slice (some ⟨gg, 0, none⟩) (ls.length + 1) cap)) J v' ∧
      (v'.ownBlock = some gg ∨ w.heap.size ≤ gg) := by
  have blk : ∀ b, b < w.heap.size → some b ≠ v'.ownBlock → w6.heap[b]? = w.heap[b]? := fun b hb' hne => (hg.block b (Nat.lt_of_lt_of_le hb' hb.size) hne).trans (hb.block b hb')
  have nJ : some J ≠ v'.ownBlock := fun e => by have := h.own2 J e.symm; omega
  have sz : w.heap.size ≤ w6.heap.size := Nat.le_trans hb.size hg.size
  have cJ : ∀ i, w6.cell? ⟨J, i, none⟩ = w.cell? ⟨J, i, none⟩ := fun i => World.cell?_of_block (w := w) (a := ⟨J, i, none⟩) (blk J h.lt nJ)
  have fJ : ∀ i, w6.frozen? ⟨J, i, none⟩ = w.frozen? ⟨J, i, none⟩ := fun i => World.frozen?_of_block (w := w) (a := ⟨J, i, none⟩) (blk J h.lt nJ)
  refine ⟨⟨(World.cell?_setCell_other _ _ _ _ (by simp)).trans ((cJ 0).trans h.c0), World.cell?_setCell_same _ _ _ ((cJ 1).trans h.c1), (World.frozen?_setCell ..).trans ((fJ 0).trans h.f0), (World.frozen?_setCell ..).trans ((fJ 1).trans h.f1), ?_, ?_, ?_, ?_⟩, ⟨?_, ?_, ?_, ?_, ?_⟩, ?_⟩
  · exact ownsRow_setCell_below (own_keep15 h.o1 fun b hb' hl => blk b hl (fun e => h.ne b hb' e.symm)) (by show J < J + 1; omega) _
  · have e1 : lce (ls ++ [l]) = lce ls ++ [.int .i64 l.1, .int .i64 l.2] := pq_snoc _ _ _ _
    rw [e1, List.length_append]
    exact ownsRow_setCell_below hown (by show J < J + 1; omega) _
  · intro b hb1 hb2
    cases hb2
    rcases hat with e | e
    · exact h.ne gg hb1 e
    · have := h.own1 gg hb1; omega
  · simp; have := h.lt; omega
  · exact hg.os.trans hb.os
  · exact hg.tape.trans hb.tape
  · exact hg.output.trans hb.output
  · simpa using sz
  · exact fun b hb' h1 h2 => (Below.heap_setCell _ _ _ b h1).trans (blk b hb' h2)
  · rcases hat with e | e
    · exact Or.inl e
    · exact Or.inr (by omega)
theorem add15 (b o j : Nat) : (⟨b, o, none⟩ : Addr).add j = ⟨b, o + j, none⟩ := by unfold Addr.add; split <;> simp_all
/-- A pair more behind an owned list of pairs, and where it lies then. -/
theorem push15 {w : World} {base n t e bytes : Nat} {i0 : TypeInfo} {zr : Value} {v u0 u1 : Value} {xs : List Value} (hu : Try.prog.underlying t = some (.slice e)) (hi : Try.prog.info? e = some i0) (hz0 : i0.zero = some zr) (hz1 : i0.size = 2) (hz2 : i0.bytes = bytes) (hzr : zr.cells.size = 2) (hby : bytes ≤ 100)
    (k0 : u0.oneCell' = true) (k1 : u1.oneCell' = true) (hown : w.ownsRow base e 2 v n xs) (hn : n ≤ 1048576) (hb : base ≤ w.heap.size) :
    ∃ g cap w', (∀ ty, (Builtin.append_ #[t, t] ty #[v, .slice (some ⟨w.heap.size, 0, none⟩) 1 1]).run Try.prog (w.alloc (.cells #[u0, u1] e)) = .ok (.slice (some ⟨g, 0, none⟩) (n + 1) cap) w') ∧ w'.ownsRow base e 2 (.slice (some ⟨g, 0, none⟩) (n + 1) cap) (n + 1) (xs ++ [u0, u1]) ∧ (w.alloc (.cells #[u0, u1] e)).grownBy w' v.ownBlock ∧ (v.ownBlock = some g ∨ g = w.heap.size + 1) := by
  obtain ⟨g, cap, w', h1, h2, h3, h4, _⟩ := run_append_lies (P := Try.prog) (w := w.alloc (.cells #[u0, u1] e)) t 0 base e i0 zr 2 bytes hu hi hz0 hz1 hz2 hzr (by decide) v n xs (hown.alloc _) ⟨w.heap.size, 0, none⟩ 1 1 [u0, u1] rfl (fun j u hj => by
      have hj2 : j = 0 ∨ j = 1 := by
        have := (List.getElem?_eq_some_iff.1 hj).1
        simp at this; omega
      rw [add15]
      rcases hj2 with rfl | rfl
      · simp at hj; subst hj; simp
      · simp at hj; subst hj; simp) (two_one15 k0 k1) (by omega) (by unfold maxLen; omega) (by
        have : (n + 1) * bytes ≤ (n + 1) * 100 := Nat.mul_le_mul_left _ hby
        omega) (by simp; omega) _ rfl
  exact ⟨g, cap, w', fun _ => h1, h2, h3, by
    rcases h4 with h4 | h4
    · exact Or.inl h4
    · exact Or.inr (by rw [h4]; simp)⟩
theorem step15 {P : Program} {w : World} {ops : Array Oper} {o : Oper} {a : Act} {K : Act → World → Prop} {Q : Exit → Act → World → Prop} {E : Prop} (hgd : o.guard = none) (d s : Operand) (t t' : TypeId)
    (ho : o.op = .call { callee := .builtin .append, args := #[d, s], argTypes := #[t, t'] }) (vd vs : Value) (hd : a.eval d = vd) (hs : a.eval s = vs)
    (v' : Value) (w' : World) (hr : (Builtin.append_ #[t, t'] o.type #[vd, vs]).run P w = .ok v' w') (h : K (a.put o.dst v') w') :
    if Region.wanted o (yielded ops a.tmps) = true then Oper.wp P o a w K Q else E := by
  have hw : Region.wanted o (yielded ops a.tmps) = true := by simp [Region.wanted, hgd]
  rw [if_pos hw]
  unfold Oper.wp execOp
  simp only [ho, resolve, invoke, builtin, Sem.run_bind, Sem.run_pure, Result.andThen_ok, List.map_toArray, List.map_cons, List.map_nil, hd, hs, hr]
  exact h
theorem own_f15 {w : World} {base e s n : Nat} {v : Value} {xs : List Value} (h : w.ownsRow base e s v n xs) : ∃ a c, v = .slice a n c := by
  rcases h.2 with ⟨rfl, rfl⟩ | ⟨g, cap, cur, rfl, _⟩
  · exact ⟨none, 0, rfl⟩
  · exact ⟨_, _, rfl⟩
theorem pq_one15 {α : Type} {f g : α → Value} (hf : ∀ x, (f x).oneCell' = true) (hg : ∀ x, (g x).oneCell' = true) (xs : List α) : ∀ u ∈ pq f g xs, u.oneCell' = true := by
  intro u hu
  obtain ⟨x, _, h⟩ := List.mem_flatMap.1 hu
  simp at h
  rcases h with rfl | rfl
  · exact hf x
  · exact hg x
/-- Nothing is appended: nothing turns. -/
theorem app_none15 {W : World} {t e ty S s c c2 : Nat} {i0 : TypeInfo} {a av : Option Addr} {xs : List Value} (hu : Try.prog.underlying t = some (.slice e)) (hi : Try.prog.info? e = some i0) (ho : W.ownsRow S e s (.slice av 0 c) 0 xs) :
    (Builtin.append_ #[t, t] ty #[.slice av 0 c, .slice a 0 c2]).run Try.prog W = .ok (.slice av 0 c) W := by
  have l0 : ∀ ad, (loadCells ad 0).run Try.prog W = .ok #[] W := fun ad => rfl
  rcases ho.2 with ⟨h, _⟩ | ⟨g, cap, cur, h, _, _, _, _⟩
  · cases h
    cases a with
    | none => simp [Builtin.append_, run_underlying hu, sizeOf, typeInfo, hi, Builtin.lenOf, Builtin.firstCells]
    | some ad => simp [Builtin.append_, run_underlying hu, sizeOf, typeInfo, hi, Builtin.lenOf, Builtin.firstCells, l0]
  · cases h
    cases a with
    | none => simp [Builtin.append_, run_underlying hu, sizeOf, typeInfo, hi, Builtin.lenOf, Builtin.firstCells, storeCells]
    | some ad => simp [Builtin.append_, run_underlying hu, sizeOf, typeInfo, hi, Builtin.lenOf, Builtin.firstCells, storeCells, l0]
/-- All that is to be said of an append onto the goods of a sheet that is made. -/
theorem push_gd {w0 w : World} {J : Nat} {v v' : Value} {gs : List Gd} {ls : List (Int × Int)} {x : ByteArray} {z : Int} (h0 : JS w0 J v v' gs ls) (hb : Below w0.heap.size w0 w) (hn : gs.length ≤ 1000) :
    ∃ gg cap w6, (∀ ty, (Builtin.append_ #[28, 28] ty #[v, .slice (some ⟨w.heap.size, 0, none⟩) 1 1]).run Try.prog (w.alloc (.cells #[.string x, .int .i64 z] 68)) = .ok (.slice (some ⟨gg, 0, none⟩) (gs.length + 1) cap) w6) ∧ w6.cell? ⟨J, 0, none⟩ = some v ∧ w6.frozen? ⟨J, 0, none⟩ = false ∧
      JS (w6.setCell ⟨J, 0, none⟩ (.slice (some ⟨gg, 0, none⟩) (gs.length + 1) cap)) J (.slice (some ⟨gg, 0, none⟩) (gs.length + 1) cap) v' (gs ++ [(x, z)]) ls ∧ GJ w0 (w6.setCell ⟨J, 0, none⟩ (.slice (some ⟨gg, 0, none⟩) (gs.length + 1) cap)) J v ∧ (v.ownBlock = some gg ∨ w0.heap.size ≤ gg) := by
  obtain ⟨i0, hi, hz0, hz1, hz2⟩ := infoG15
  have h := h0.below hb
  obtain ⟨gg, cap, w6, hr, ho, hg, hat⟩ := push15 (u0 := .string x) (u1 := .int .i64 z) Try.underlying28 hi hz0 hz1 hz2 rfl (by omega) rfl rfl h.o1 (by omega) (by have := h.lt; omega)
  have bn := below_new w (.cells #[.string x, .int .i64 z] 68)
  have nJ : some J ≠ v.ownBlock := fun e => by have := h.own1 J e.symm; omega
  have hbk := hg.block J (by have := h.lt; have := bn.size; omega) nJ
  have hb2 := hb.trans (bn.mono hb.size)
  obtain ⟨r1, r2, r3⟩ := h0.first (g := (x, z)) (H := w.heap.size + 1) hb2 ho hg hat (by have := hb.size; omega)
  exact ⟨gg, cap, w6, hr, (World.cell?_of_block (a := ⟨J, 0, none⟩) hbk).trans (h.below bn).c0, (World.frozen?_of_block (a := ⟨J, 0, none⟩) hbk).trans (h.below bn).f0, r1, r2, r3⟩
theorem push_ln {w0 w : World} {J : Nat} {v v' : Value} {gs : List Gd} {ls : List (Int × Int)} {x z : Int} (h0 : JS w0 J v v' gs ls) (hb : Below w0.heap.size w0 w) (hn : ls.length ≤ 1000) :
    ∃ gg cap w6, (∀ ty, (Builtin.append_ #[29, 29] ty #[v', .slice (some ⟨w.heap.size, 0, none⟩) 1 1]).run Try.prog (w.alloc (.cells #[.int .i64 x, .int .i64 z] 52)) = .ok (.slice (some ⟨gg, 0, none⟩) (ls.length + 1) cap) w6) ∧ w6.cell? ⟨J, 1, none⟩ = some v' ∧ w6.frozen? ⟨J, 1, none⟩ = false ∧
      JS (w6.setCell ⟨J, 1, none⟩ (.slice (some ⟨gg, 0, none⟩) (ls.length + 1) cap)) J v (.slice (some ⟨gg, 0, none⟩) (ls.length + 1) cap) gs (ls ++ [(x, z)]) ∧ GJ w0 (w6.setCell ⟨J, 1, none⟩ (.slice (some ⟨gg, 0, none⟩) (ls.length + 1) cap)) J v' ∧ (v'.ownBlock = some gg ∨ w0.heap.size ≤ gg) := by
  obtain ⟨i0, hi, hz0, hz1, hz2⟩ := infoL15
  have h := h0.below hb
  obtain ⟨gg, cap, w6, hr, ho, hg, hat⟩ := push15 (u0 := .int .i64 x) (u1 := .int .i64 z) Try.underlying29 hi hz0 hz1 hz2 rfl (by omega) rfl rfl h.o2 (by omega) (by have := h.lt; omega)
  have bn := below_new w (.cells #[.int .i64 x, .int .i64 z] 52)
  have nJ : some J ≠ v'.ownBlock := fun e => by have := h.own2 J e.symm; omega
  have hbk := hg.block J (by have := h.lt; have := bn.size; omega) nJ
  have hb2 := hb.trans (bn.mono hb.size)
  obtain ⟨r1, r2, r3⟩ := h0.second (l := (x, z)) (H := w.heap.size + 1) hb2 ho hg hat (by have := hb.size; omega)
  exact ⟨gg, cap, w6, hr, (World.cell?_of_block (a := ⟨J, 1, none⟩) hbk).trans (h.below bn).c1, (World.frozen?_of_block (a := ⟨J, 1, none⟩) hbk).trans (h.below bn).f1, r1, r2, r3⟩
set_option maxHeartbeats 400000 in
theorem clone15 {s : ByteArray} {w : World} (hs : s.size ≤ 1048576) :
    Calls Try.prog 65 #[.string s] w fun e w' => e = .returned (.string s) ∧ Below w.heap.size w w' := by
  have H := hide (Try.stringslite_Clone s w (by omega))
  go_enter Try.func65, Try.ntmps65
  go_wp2_with (go_at_call 67; refine H.out.mono ?_; rintro e w1 ⟨rfl, hb1⟩)
  go_ret
  exact ⟨rfl, hb1⟩
end Go.Proofs.Ytogkbidphdpjaaa
