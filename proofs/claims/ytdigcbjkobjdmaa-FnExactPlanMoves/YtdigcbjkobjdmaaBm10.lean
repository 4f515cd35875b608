/-
  Lists of moves that grow; what BackMoves of the model answers.
-/
import Derived.Test.YtdigcbjkobjdmaaBk10
import Derived.Deep.DeepCutAuto
import Derived.Lib.AppendZeros
namespace Go.Proofs.Ytdigcbjkobjdmaa
open Go.RowKit

def mce (L : List (Int × Int)) : List Value := L.flatMap fun f => [.int .i64 f.1, .int .i64 f.2]
theorem mce_snoc (L : List (Int × Int)) (f : Int × Int) : mce (L ++ [f]) = mce L ++ [.int .i64 f.1, .int .i64 f.2] := by simp [mce]
theorem mce_get : ∀ (L : List (Int × Int)) (i : Nat), i < L.length → (mce L)[i * 2]? = some (.int .i64 (L.getD i (0, 0)).1) ∧ (mce L)[i * 2 + 1]? = some (.int .i64 (L.getD i (0, 0)).2)
  | [], i, h => by simp at h
  | f :: r, 0, _ => by simp [mce]
  | f :: r, i + 1, h => by
    have ih := mce_get r i (by simpa using h)
    have e : mce (f :: r) = [.int .i64 f.1, .int .i64 f.2] ++ mce r := by simp [mce]
    rw [e, List.getD_cons_succ]
    constructor
    · rw [List.getElem?_append_right (by simp; omega)]
      rw [show (i + 1) * 2 - [Value.int IntKind.i64 f.1, Value.int IntKind.i64 f.2].length = i * 2 by simp; omega]
      exact ih.1
    · rw [List.getElem?_append_right (by simp; omega)]
      rw [show (i + 1) * 2 + 1 - [Value.int IntKind.i64 f.1, Value.int IntKind.i64 f.2].length = i * 2 + 1 by simp; omega]
      exact ih.2
theorem push_mv {w : World} {base n : Nat} {v : Value} {xs : List Value} {x y : Int} (hown : w.ownsRow base 30 2 v n xs) (hn : n ≤ 1048576) (hb : base ≤ w.heap.size) :
    ∃ v' w', (∀ ty, (Builtin.append_ #[37, 37] ty #[v, .slice (some ⟨w.heap.size, 0, none⟩) 1 1]).run Try.prog (w.alloc (.cells #[.int .i64 x, .int .i64 y] 30)) = .ok v' w') ∧ w'.ownsRow base 30 2 v' (n + 1) (xs ++ [.int .i64 x, .int .i64 y]) ∧ w.grownBy w' v.ownBlock := by
  have h : (Try.prog.info? 30).map (fun i => (i.zero, i.size, i.bytes)) = some (some (.agg #[.int .i64 0, .int .i64 0]), 2, 16) := by kernel_rfl
  obtain ⟨i0, hi, hzz⟩ := Option.map_eq_some_iff.1 h
  simp only [Prod.mk.injEq] at hzz
  obtain ⟨hz0, hz1, hz2⟩ := hzz
  obtain ⟨g, cap, w', h1, h2, h3, _, _⟩ := run_append_lies (P := Try.prog) (w := w.alloc (.cells #[.int .i64 x, .int .i64 y] 30)) 37 0 base 30 i0 _ 2 16 Try.underlying37 hi hz0 hz1 hz2 rfl (by decide) v n xs (hown.alloc _) ⟨w.heap.size, 0, none⟩ 1 1 [.int .i64 x, .int .i64 y] rfl (fun j u hj => by
      have hj2 : j = 0 ∨ j = 1 := by
        have := (List.getElem?_eq_some_iff.1 hj).1
        simp at this; omega
      rw [add_plain']
      rcases hj2 with rfl | rfl
      · simp at hj; subst hj; simp
      · simp at hj; subst hj; simp) (fun u hu => by simp at hu; rcases hu with rfl | rfl <;> rfl) (by omega) (by unfold maxLen; omega) (by omega) (by simp; omega) _ rfl
  refine ⟨_, w', fun _ => h1, h2, ?_⟩
  have hg := World.grownBy_alloc w (.cells #[.int .i64 x, .int .i64 y] 30) v.ownBlock
  exact ⟨h3.os.trans hg.os, h3.tape.trans hg.tape, h3.output.trans hg.output, Nat.le_trans hg.size h3.size, fun b hb hne => (h3.block b (Nat.lt_of_lt_of_le hb hg.size) hne).trans (hg.block b hb hne)⟩
theorem mo_own {w : World} {base n : Nat} {v : Value} {L : List (Int × Int)} (hx : L.length = n) (h : w.ownsRow base 30 2 v n (mce L)) : MO w base w.heap.size v n L := by
  refine ⟨Nat.le_refl _, hx, ?_⟩
  rcases h.2 with ⟨rfl, hn⟩ | ⟨g, cap, cur, rfl, hb, hg, _⟩
  · subst hn; exact Or.inl ⟨rfl, none, 0, rfl⟩
  · refine Or.inr ⟨g, cap, rfl, hb, (Array.getElem?_eq_some_iff.1 hg).1, fun i hi => ?_, fun j hj => ⟨?_, h.frozenAt j⟩⟩
    · obtain ⟨e1, e2⟩ := mce_get L i hi
      rw [Nat.zero_add, h.cellAt (i * 2) (by omega), h.cellAt (i * 2 + 1) (by omega)]
      exact ⟨e1, e2⟩
    · have hl : (mce L).length = n * 2 := h.1
      rw [h.cellAt j (by omega), List.getElem?_eq_getElem (by omega)]; rfl
theorem own_formM {w : World} {base n : Nat} {v : Value} {xs : List Value} (h : w.ownsRow base 30 2 v n xs) : ∃ a cap, v = .slice a n cap := by
  rcases h.2 with ⟨rfl, hn⟩ | ⟨g, cap, cur, rfl, _⟩
  · exact ⟨none, 0, by rw [hn]⟩
  · exact ⟨_, _, rfl⟩
/-- The moves from k on, the last one first. -/
def backTo (L : List (Int × Int)) (k : Nat) : List (Int × Int) := (L.drop k).reverse.map swp
theorem backTo_len (L : List (Int × Int)) (k : Nat) : (backTo L k).length = L.length - k := by simp [backTo]
theorem backTo_step {L : List (Int × Int)} {j : Nat} (hj : j < L.length) : backTo L j = backTo L (j + 1) ++ [swp (L.getD j (0, 0))] := by
  unfold backTo
  rw [List.drop_eq_getElem_cons hj, List.reverse_cons, List.map_append, List.getD_eq_getElem?_getD, List.getElem?_eq_getElem hj]
  rfl
end Go.Proofs.Ytdigcbjkobjdmaa
