/-
  What the built-in clear does to an owned row; offers that lie apart from a row that is written.
-/
import Derived.Test.YtdlpbemjbmgbeaaCf
import Derived.Laws.CopyOwn
namespace Go.Proofs.Ytdlpbemjbmgbeaa
open Go.RowKit

theorem grown_trans {w w1 w2 : World} {r : Option Nat} (h : w.grownBy w1 r) (k : w1.grownBy w2 r) : w.grownBy w2 r :=
  ⟨k.os.trans h.os, k.tape.trans h.tape, k.output.trans h.output, Nat.le_trans h.size k.size, fun b hb hne => (k.block b (Nat.lt_of_lt_of_le hb h.size) hne).trans (h.block b hb hne)⟩
theorem below_grown {w w1 : World} (r : Option Nat) (h : Below w.heap.size w w1) : w.grownBy w1 r := ⟨h.os, h.tape, h.output, h.size, fun b hb _ => h.block b hb⟩
def ARowX (R : Nat) (w : World) (a : Option Addr) (xs : List Int) : Prop := xs = [] ∨ ∃ b off, a = some ⟨b, off, none⟩ ∧ b < w.heap.size ∧ b ≠ R ∧ ∀ i, i < xs.length → w.cell? ⟨b, off + i, none⟩ = some (.int .i64 (xs.getD i 0))
theorem ARowX.row {R : Nat} {w : World} {a : Option Addr} {xs : List Int} (h : ARowX R w a xs) : ARow w a xs := by
  rcases h with h | ⟨b, off, ha, hl, _, hc⟩
  · exact Or.inl h
  · exact Or.inr ⟨b, off, ha, hl, hc⟩
theorem ARowX.grown {R : Nat} {w w' : World} {a : Option Addr} {xs : List Int} (h : ARowX R w a xs) (hg : w.grownBy w' (some R)) : ARowX R w' a xs := by
  rcases h with h | ⟨b, off, ha, hl, hne, hc⟩
  · exact Or.inl h
  · exact Or.inr ⟨b, off, ha, Nat.lt_of_lt_of_le hl hg.size, hne, fun i hi => (World.cell?_of_block (a := ⟨b, off + i, none⟩) (hg.block b hl (by simpa using hne))).trans (hc i hi)⟩
theorem ARow.x {R : Nat} {w0 w : World} {a : Option Addr} {xs : List Int} (h : ARow w0 a xs) (hb : Below w0.heap.size w0 w) (hR : w0.heap.size ≤ R) : ARowX R w a xs := by
  rcases h with h | ⟨b, off, ha, hl, hc⟩
  · exact Or.inl h
  · exact Or.inr ⟨b, off, ha, Nat.lt_of_lt_of_le hl hb.size, by omega, fun i hi => (hb.cell (p := ⟨b, off + i, none⟩) hl).trans (hc i hi)⟩
def ORowX (R : Nat) (w : World) (a : Option Addr) (L : List (List Int)) : Prop :=
  L = [] ∨ ∃ b off, a = some ⟨b, off, none⟩ ∧ b < w.heap.size ∧ b ≠ R ∧ ∀ i, i < L.length → ∃ ai ci, w.cell? ⟨b, off + i, none⟩ = some (.slice ai (L.getD i []).length ci) ∧ ARowX R w ai (L.getD i [])
theorem ORowX.row {R : Nat} {w : World} {a : Option Addr} {L : List (List Int)} (h : ORowX R w a L) : ORow w a L := by
  rcases h with h | ⟨b, off, ha, hl, _, hc⟩
  · exact Or.inl h
  · exact Or.inr ⟨b, off, ha, hl, fun i hi => by obtain ⟨ai, ci, h1, h2⟩ := hc i hi; exact ⟨ai, ci, h1, h2.row⟩⟩
theorem ORowX.grown {R : Nat} {w w' : World} {a : Option Addr} {L : List (List Int)} (h : ORowX R w a L) (hg : w.grownBy w' (some R)) : ORowX R w' a L := by
  rcases h with h | ⟨b, off, ha, hl, hne, hc⟩
  · exact Or.inl h
  · refine Or.inr ⟨b, off, ha, Nat.lt_of_lt_of_le hl hg.size, hne, fun i hi => ?_⟩
    obtain ⟨ai, ci, h1, h2⟩ := hc i hi
    exact ⟨ai, ci, (World.cell?_of_block (a := ⟨b, off + i, none⟩) (hg.block b hl (by simpa using hne))).trans h1, h2.grown hg⟩
theorem ORow.x {R : Nat} {w0 w : World} {a : Option Addr} {L : List (List Int)} (h : ORow w0 a L) (hb : Below w0.heap.size w0 w) (hR : w0.heap.size ≤ R) : ORowX R w a L := by
  rcases h with h | ⟨b, off, ha, hl, hc⟩
  · exact Or.inl h
  · refine Or.inr ⟨b, off, ha, Nat.lt_of_lt_of_le hl hb.size, by omega, fun i hi => ?_⟩
    obtain ⟨ai, ci, h1, h2⟩ := hc i hi
    exact ⟨ai, ci, (hb.cell (p := ⟨b, off + i, none⟩) hl).trans h1, h2.x hb hR⟩
theorem wpList_clear_run {P : Program} (w : World) {ops : Array Oper} {rest : List Oper} {o : Oper} {a : Act} {Q : Exit → Act → World → Prop} (hgd : o.guard = none) (x : Operand) (t : TypeId)
    (ho : o.op = .call { callee := .builtin .clear, args := #[x], argTypes := #[t] }) (vx : Value) (hx : a.eval x = vx)
    (v' : Value) (w' : World) (hr : (Builtin.clear_ #[t] o.type #[vx]).run P w = .ok v' w') (h : wpList P ops Q rest (a.put o.dst v') w') : wpList P ops Q (o :: rest) a w := by
  refine wpList_plain hgd fun _ hK => ?_
  unfold Oper.wp execOp
  simp only [ho, resolve, invoke, builtin, Sem.run_bind, Sem.run_pure, Result.andThen_ok, List.map_toArray, List.map_cons, List.map_nil, hx, hr]
  exact hK _ _ h
theorem zeros_ints (M : Nat) : (Builtin.zeroCells (Value.int .i64 0).cells M).toList = ints (List.replicate M 0) := by
  apply List.ext_getElem
  · simp [Builtin.zeroCells, ints, Value.cells]
  · intro i h1 h2
    simp [Builtin.zeroCells, ints, Value.cells, Nat.mod_one]
theorem run_clear_own {w : World} {base R M c : Nat} {xs : List Value} (hM : 0 < M) (hown : w.ownsRow base 3 1 (.slice (some ⟨R, 0, none⟩) M c) M xs) :
    ∃ w', (∀ ty, (Builtin.clear_ #[26] ty #[.slice (some ⟨R, 0, none⟩) M c]).run Try.prog w = .ok (.tuple #[]) w') ∧ w'.ownsRow base 3 1 (.slice (some ⟨R, 0, none⟩) M c) M (ints (List.replicate M 0)) ∧ w.grownBy w' (some R) := by
  obtain ⟨i0, hi, hz0, hz1, hz2⟩ := infoI
  rcases hown.2 with ⟨h, _⟩ | ⟨g, cap, cur, hv, hb, hg, hnc, hcm, hcs, htake⟩
  · cases h
  cases hv
  have hl : (ints (List.replicate M 0)).length = M := by simp [ints]
  have hst := run_storeCells_at (P := Try.prog) R 0 3 (ints (List.replicate M 0)) 0 cur w hg (by rw [hl]; omega) (c_ints _)
  obtain ⟨nw, hnw⟩ : ∃ nw, nw = (cur.toList.take (0 + 0) ++ ints (List.replicate M 0) ++ cur.toList.drop (0 + 0 + (ints (List.replicate M 0)).length)).toArray := ⟨_, rfl⟩
  rw [← hnw] at hst
  refine ⟨w.setRow R nw, fun ty => ?_, ⟨by simp [ints], .inr ⟨R, c, nw, rfl, hb, setRow_heap w R _ _ _ _ hg, hnc, hcm, ?_, ?_⟩⟩, ⟨rfl, rfl, rfl, by simp [World.setRow], fun k _ hne => setRow_other w R k _ (by simpa using hne)⟩⟩
  · obtain ⟨m, rfl⟩ : ∃ m, M = m + 1 := ⟨M - 1, by omega⟩
    simp only [Builtin.clear_]
    simp [zeroValue, typeInfo, hi, hz0, zeros_ints, hst]
  · rw [hnw]; simp [hl]; omega
  · rw [hnw]; simp [ints]
end Go.Proofs.Ytdlpbemjbmgbeaa
