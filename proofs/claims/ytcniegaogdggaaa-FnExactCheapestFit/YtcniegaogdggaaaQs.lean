/-
  Rows of ten as values and in variables; what rowOf, lesserOf and bothPrices answer.
-/
import Derived.Test.YtcniegaogdggaaaKl
import Derived.Test.YtcniegaogdggaaaXi
import Derived.Test.YtcniegaogdggaaaB
import Derived.Test.YtcniegaogdggaaaQp
import Derived.Deep.MidRow
import Derived.Deep.WholeRow
import Derived.Laws.ResultCell
import Derived.Laws.CopyRow
import Derived.ChangeKeysEq
import Derived.Laws.StructEq
namespace Go.Proofs.Ytcniegaogdggaaa
open Go.RowKit

def tv (xs : List Int) : Array Value := (ints xs).toArray
theorem infR10 : (Try.prog.info? 65).map (·.size) = some 10 := by kernel_rfl
/-- A list of 10 numbers in a variable of its own. -/
def R10 (w : World) (b : Nat) (xs : List Int) : Prop := xs.length = 10 ∧ b < w.heap.size ∧ ∀ i, i < 10 → w.cell? ⟨b, i, none⟩ = some (.int .i64 (xs.getD i 0)) ∧ w.frozen? ⟨b, i, none⟩ = false
theorem R10.new (w : World) (xs : List Int) (hx : xs.length = 10) (t : TypeId) : R10 (w.alloc (.cells (tv xs) t)) w.heap.size xs := by
  have h := heap_alloc_last w (.cells (tv xs) t)
  refine ⟨hx, by simp, fun i hi => ⟨?_, by unfold World.frozen?; rw [h]; simp⟩⟩
  have : (ints xs)[i]? = some (.int .i64 (xs.getD i 0)) := ints_get xs i (by omega)
  rw [cell_of_row _ _ _ _ _ _ h, tv]
  simpa using this
theorem R10.below {w w' : World} {b : Nat} {xs : List Int} (h : R10 w b xs) (hb : Below w.heap.size w w') : R10 w' b xs :=
  ⟨h.1, Nat.lt_of_lt_of_le h.2.1 hb.size, fun i hi => ⟨(hb.cell (p := ⟨b, i, none⟩) h.2.1).trans (h.2.2 i hi).1, (hb.frozen (p := ⟨b, i, none⟩) h.2.1).trans (h.2.2 i hi).2⟩⟩
theorem R10.range {w : World} {b : Nat} {xs : List Int} (h : R10 w b xs) : w.rangeAt b 0 (ints xs) := fun j v hv => by
  have hj : j < xs.length := by have := (List.getElem?_eq_some_iff.1 hv).1; rwa [ints_len] at this
  rw [Nat.zero_add, (h.2.2 j (by have := h.1; omega)).1, ← hv, ints_get xs j hj]
theorem R10.there {w : World} {b : Nat} {xs : List Int} (h : R10 w b xs) : w.there b 0 10 := fun j hj => by
  rw [Nat.zero_add]
  exact ⟨by rw [(h.2.2 j hj).1]; rfl, (h.2.2 j hj).2⟩
theorem R10.loads {w : World} {b : Nat} {xs : List Int} (h : R10 w b xs) : (Instr.loadAt 65 (.pointer (some ⟨b, 0, none⟩))).run Try.prog w = .ok (.agg (tv xs)) w :=
  run_loadAt_mid w b 0 65 (ints xs) _ h.range Try.underlying65 rfl (by rw [ints_len, h.1]; exact infR10)
theorem R10.set {w : World} {b : Nat} {xs : List Int} (h : R10 w b xs) (k : Nat) (x : Int) (hk : k < 10) : R10 (w.setCell ⟨b, k, none⟩ (.int .i64 x)) b (xs.set k x) := by
  refine ⟨by simpa using h.1, by simpa using h.2.1, fun i hi => ⟨?_, by simpa using (h.2.2 i hi).2⟩⟩
  rw [Hu.set_get9 _ _ _ _ (by have := h.1; omega)]
  by_cases e : i = k
  · subst e; rw [if_pos rfl]; exact World.cell?_setCell_same _ _ _ (h.2.2 i hi).1
  · rw [if_neg e, World.cell?_setCell_other _ _ _ _ (by intro h; cases h; exact e rfl)]; exact (h.2.2 i hi).1
theorem R10.stores {w : World} {b : Nat} {xs ys : List Int} (h : R10 w b xs) (hy : ys.length = 10) : (Instr.storeAt 65 (.pointer (some ⟨b, 0, none⟩)) (.agg (tv ys))).run Try.prog w = .ok () (w.setCells b 0 (ints ys)) :=
  run_storeAt_mid w b 0 65 (tv ys) (by rw [show (tv ys).size = 10 by simp [tv, ints_len, hy]]; exact h.there) (by rw [show (tv ys).size = 10 by simp [tv, ints_len, hy]]; exact infR10) (all_oneCell_toArray (fun v hv => by simp only [ints, List.mem_map] at hv; obtain ⟨x, _, rfl⟩ := hv; rfl))
theorem R10.stored {w : World} {b : Nat} {xs ys : List Int} (h : R10 w b xs) (hy : ys.length = 10) : R10 (w.setCells b 0 (ints ys)) b ys := by
  have hs : (w.setCells b 0 (ints ys)).heap.size = w.heap.size := by
    have : ∀ (vs : List Value) (o : Nat) (w : World), (w.setCells b o vs).heap.size = w.heap.size := by
      intro vs
      induction vs with
      | nil => intro o w; rfl
      | cons v r ih => intro o w; rw [World.setCells, ih]; simp
    exact this _ _ _
  refine ⟨hy, by rw [hs]; exact h.2.1, fun i hi => ⟨?_, by rw [World.frozen?_setCells]; exact (h.2.2 i hi).2⟩⟩
  have := World.rangeAt_setCells_same w b 0 (ints ys) (by rw [ints_len, hy]; exact h.there) i _ (ints_get ys i (by omega))
  rwa [Nat.zero_add] at this
theorem below_cells9 {w : World} {k b : Nat} (h : k ≤ b) (vs : List Value) (o : Nat) : Below k w (w.setCells b o vs) := by
  induction vs generalizing o w with
  | nil => exact Below.refl _ _
  | cons v r ih => rw [World.setCells]; exact ((Below.refl k w).setCell (p := ⟨b, o, none⟩) h v).trans (ih _)

theorem R10.loadVar {w : World} {b : Nat} {xs : List Int} (h : R10 w b xs) : (loadVar 65 ⟨b, 0, none⟩).run Try.prog w = .ok (.agg (tv xs)) w :=
  run_loadVar_mid w b 0 65 (ints xs) _ h.range Try.underlying65 rfl (by rw [ints_len, h.1]; exact infR10)
theorem R10.other {w : World} {b b' k : Nat} {v : Value} {xs : List Int} (h : R10 w b xs) (hb : b ≠ b') : R10 (w.setCell ⟨b', k, none⟩ v) b xs :=
  ⟨h.1, by simpa using h.2.1, fun i hi => ⟨by rw [World.cell?_setCell_other _ _ _ _ (by intro e; cases e; exact hb rfl)]; exact (h.2.2 i hi).1, by simpa using (h.2.2 i hi).2⟩⟩
def z10 : List Int := List.replicate 10 0
theorem z10_new (w : World) (t : TypeId) : R10 (w.alloc (.cells #[.int .i64 0, .int .i64 0, .int .i64 0, .int .i64 0, .int .i64 0, .int .i64 0, .int .i64 0, .int .i64 0, .int .i64 0, .int .i64 0] t)) w.heap.size z10 := R10.new w z10 rfl t

/-- But for one variable all is as it was. -/
def Turn9 (b : Nat) (w w' : World) : Prop := w'.heap.size = w.heap.size ∧ (∀ k, k ≤ b → Below k w w') ∧ ∀ g, g ≠ b → w'.heap[g]? = w.heap[g]?
theorem turn_cells9 (w : World) (b o : Nat) (vs : List Value) : Turn9 b w (w.setCells b o vs) := by
  refine ⟨?_, fun k hk => below_cells9 hk vs o, ?_⟩
  · induction vs generalizing o w with
    | nil => rfl
    | cons v r ih => rw [World.setCells, ih]; simp
  · intro g hg
    induction vs generalizing o w with
    | nil => rfl
    | cons v r ih =>
      rw [World.setCells, ih]
      exact Below.heap_setCell _ _ _ _ (by simpa using hg)
theorem R10.turn {w w' : World} {b b' : Nat} {xs : List Int} (h : R10 w b xs) (t : Turn9 b' w w') (hb : b ≠ b') : R10 w' b xs := by
  have e := t.2.2 b hb
  refine ⟨h.1, by rw [t.1]; exact h.2.1, fun i hi => ⟨?_, ?_⟩⟩
  · rw [World.cell?_of_block (w := w) (a := ⟨b, i, none⟩) e]; exact (h.2.2 i hi).1
  · rw [World.frozen?_of_block (w := w) (a := ⟨b, i, none⟩) e]; exact (h.2.2 i hi).2
theorem wr_load {ops : Array Oper} {rest : List Oper} {op : Oper} {a : Act} {w : World} {Q : Exit → Act → World → Prop} {b : Nat} {xs : List Int} (hgd : op.guard = none) (x : Operand) (ho : op.op = .load 65 x) (hx : a.eval x = .pointer (some ⟨b, 0, none⟩)) (h : Hid (R10 w b xs))
    (hk : wpList Try.prog ops Q rest (a.put op.dst (.agg (tv xs))) w) : wpList Try.prog ops Q (op :: rest) a w :=
  wpList_load_mid hgd 65 x ho b 0 hx (ints xs) _ h.out.range Try.underlying65 rfl (by rw [ints_len, h.out.1]; exact infR10) hk
theorem wr_store {ops : Array Oper} {rest : List Oper} {op : Oper} {a : Act} {w : World} {Q : Exit → Act → World → Prop} {b : Nat} {xs ys : List Int} (hgd : op.guard = none) (x y : Operand) (ho : op.op = .store 65 x y) (hx : a.eval x = .pointer (some ⟨b, 0, none⟩)) (hy : a.eval y = .agg (tv ys)) (h : Hid (R10 w b xs)) (hl : ys.length = 10)
    (hk : ∀ w', R10 w' b ys → Turn9 b w w' → wpList Try.prog ops Q rest (a.put op.dst undef) w') : wpList Try.prog ops Q (op :: rest) a w := by
  have hs : (tv ys).size = 10 := by simp [tv, ints_len, hl]
  refine wpList_store_mid hgd 65 x y ho b 0 (tv ys) hx hy (by rw [hs]; exact h.out.there) (by rw [hs]; exact infR10) (all_oneCell_toArray (fun v hv => by simp only [ints, List.mem_map] at hv; obtain ⟨x, _, rfl⟩ := hv; rfl)) ?_
  exact hk _ (h.out.stored hl) (turn_cells9 w b 0 (ints ys))
theorem res_row {fn : Func} {p : Tmp} {tmps : Array Value} {w : World} {b : Nat} {xs : List Int} (h : fn.results = #[.cell p 65]) (hp : tmps.getD p undef = .pointer (some ⟨b, 0, none⟩)) (A : R10 w b xs) : (results fn tmps).run Try.prog w = .ok (.agg (tv xs)) w := by
  have hp' : tmps[p]?.getD undef = .pointer (some ⟨b, 0, none⟩) := by simpa using hp
  simp [results, h, hp', asAddr, A.loadVar]

theorem u64 : Try.prog.underlying 65 = some (.array 10 3) := Try.underlying65
theorem guard64 : Try.prog.eqGuardType Try.prog.depth 65 = false := by kernel_rfl
theorem cells3 : Try.prog.cellsOf 3 = 1 := by kernel_rfl
theorem part_tv (xs : List Int) (w : World) {i : Nat} (hi : i < xs.length) : (part 3 (tv xs) (i * 1)).run Try.prog w = .ok (.int .i64 (xs.getD i 0)) w := by
  simp [part, isAgg, run_underlying Try.underlying3, tv, ints, hi]
theorem items_tv (d : Nat) (xs ys : List Int) (w : World) (hxy : xs.length = ys.length) : ∀ is : List Nat, (∀ i ∈ is, i < xs.length) → (Op.eqItems (d + 1) 3 1 (tv xs) (tv ys) is).run Try.prog w = .ok (is.all fun i => xs.getD i 0 == ys.getD i 0) w
  | [], _ => by simp [Op.eqItems]
  | i :: is, h => by
    have hi := h i List.mem_cons_self
    have ih := items_tv d xs ys w hxy is fun j hj => h j (List.mem_cons_of_mem _ hj)
    simp only [Op.eqItems, Sem.run_bind, part_tv xs w hi, part_tv ys w (hxy ▸ hi), Result.andThen_ok, run_equalIn_int w d 3 .i64 .i64 _ _ Try.underlying3, List.all_cons]
    cases hb : (xs.getD i 0 == ys.getD i 0)
    · simp
    · simpa using ih
theorem info3 : ∃ i, Try.prog.info? 3 = some i := by
  have h : (Try.prog.info? 3).isSome = true := by kernel_rfl
  exact Option.isSome_iff_exists.1 h
theorem neq_tv (xs ys : List Int) (w : World) (hx : xs.length = 10) (hy : ys.length = 10) {r : Bool} (hr : ((List.range 10).all fun i => xs.getD i 0 == ys.getD i 0) = r) : (binOp .neq 65 (.agg (tv xs)) (.agg (tv ys))).run Try.prog w = .ok (.bool (!r)) w := by
  obtain ⟨i, hi⟩ := info3
  rw [run_neq_struct, show (10000 : Nat) = 9999 + 1 from rfl, run_equalIn_array w 9999 (tv xs) (tv ys) u64 hi, cells3, show (9999 : Nat) = 9998 + 1 from rfl, items_tv 9998 xs ys w (hx.trans hy.symm) _ (fun j hj => by rw [hx]; exact List.mem_range.1 hj), hr]
  rfl
theorem neqg_tv (x y : Operand) (xs ys : List Int) (w : World) : (eqGuard .neq 65 x y (.agg (tv xs)) (.agg (tv ys))).run Try.prog w = .ok () w := run_eqGuard_agg w _ _ _ _ _ _ guard64
end Go.Proofs.Ytcniegaogdggaaa
