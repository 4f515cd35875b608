/-
  Ways in memory, and the search as the program does it, over a list of what is still to be left: wayToFree.
-/
import Derived.Test.YtfmdahpldjkifaaJh
import Derived.Test.YtfmdahpldjkifaaHv
import Derived.Deep.AppendLies
import Derived.WalkSmall
import Derived.WalkMore
namespace Go.Proofs.Ytfmdahpldjkifaa
open Go.RowKit

namespace Ma
/-- What comes out of a search for top, with those ahead of it in st, the nearest first. -/
def outc (F : List (List Bool)) (own : List Int) : List (Nat × Nat) → Nat → Nat → List Bool → Option (List (Nat × Nat))
  | [], f, top, t =>
    match srch F own f top t with
    | (some w, _) => some w
    | (none, _) => none
  | p :: st, f, top, t =>
    match srch F own f top t with
    | (some w, _) => some ((p :: st).reverse ++ w)
    | (none, t') => outc F own st (f + 1) p.1 t'
theorem outc_look (F : List (List Bool)) (own : List Int) (l : Nat) : outc F own [] 9 l (List.replicate (bins F) false) = look F own l := by
  unfold outc look
  generalize srch F own 9 l (List.replicate (bins F) false) = r
  obtain ⟨o, t⟩ := r
  cases o <;> rfl
theorem srch_at {F : List (List Bool)} {own : List Int} {f top b : Nat} {t : List Bool} (hb : b ≤ bins F) (h : ∀ c, c < b → (fit F top c && !t.getD c false) = false) : srch F own (f + 1) top t = scan F own (srch F own f) top b (bins F - b) t := by
  show scan F own (srch F own f) top 0 (bins F) t = _
  have := scan_skip (F := F) (own := own) (rc := srch F own f) (l := top) b (bins F - b) 0 t (fun c _ h2 => h c (by omega))
  rw [show b + (bins F - b) = bins F by omega, Nat.zero_add] at this
  exact this
theorem outc_of_some {F : List (List Bool)} {own : List Int} {f top : Nat} {t t' : List Bool} {w : List (Nat × Nat)} (h : srch F own f top t = (some w, t')) : ∀ st, outc F own st f top t = some (st.reverse ++ w)
  | [] => by unfold outc; rw [h]; rfl
  | p :: st => by unfold outc; rw [h]
theorem outc_found {F : List (List Bool)} {own : List Int} {st : List (Nat × Nat)} {f top b : Nat} {t : List Bool} (hb : b < bins F) (h : ∀ c, c < b → (fit F top c && !t.getD c false) = false) (hf : (fit F top b && !t.getD b false) = true) (ho : own.getD b (-1) < 0) : outc F own st (f + 1) top t = some (st.reverse ++ [(top, b)]) := by
  refine outc_of_some (t' := t.set b true) ?_ st
  rw [srch_at (Nat.le_of_lt hb) h, show bins F - b = (bins F - b - 1) + 1 by omega, scan, if_pos hf, if_pos ho]
theorem outc_down {F : List (List Bool)} {own : List Int} {st : List (Nat × Nat)} {f top b q : Nat} {t : List Bool} (ht : t.length = bins F) (hb : b < bins F) (h : ∀ c, c < b → (fit F top c && !t.getD c false) = false) (hf : (fit F top b && !t.getD b false) = true) (ho : own.getD b (-1) = (q : Int)) : outc F own st (f + 1) top t = outc F own ((top, b) :: st) f q (t.set b true) := by
  have e : srch F own (f + 1) top t = scan F own (srch F own f) top b ((bins F - b - 1) + 1) t := by
    rw [srch_at (Nat.le_of_lt hb) h]
    exact congrArg (fun z => scan F own (srch F own f) top b z t) (by omega)
  have R := srch_res F own f q (t.set b true) (by simpa using ht)
  have hset : ∀ c, (t.set b true).getD c false = if c = b then true else t.getD c false := fun c => get_set t b c (by omega)
  rw [outc]
  generalize hr : srch F own f q (t.set b true) = r at R
  obtain ⟨o, t'⟩ := r
  cases o with
  | some w =>
    have e2 : srch F own (f + 1) top t = (some ((top, b) :: w), t') := by rw [e, scan, if_pos hf, if_neg (by omega), ho, Int.toNat_natCast, hr]
    rw [outc_of_some e2]
    simp
  | none =>
    have e2 : srch F own (f + 1) top t = srch F own (f + 1) top t' := by
      rw [e, scan, if_pos hf, if_neg (by omega), ho, Int.toNat_natCast, hr]
      show scan F own (srch F own f) top (b + 1) (bins F - b - 1) t' = _
      rw [srch_at (b := b + 1) (by omega) (fun c hc => ?_), show bins F - (b + 1) = bins F - b - 1 by omega]
      by_cases hcb : c = b
      · subst hcb
        have : t'.getD c false = true := R.mono c (by rw [hset]; simp)
        rw [this]; simp
      · have := h c (by omega)
        cases hft : fit F top c
        · rfl
        · rw [hft] at this
          have h1 : t.getD c false = true := by simpa using this
          have : t'.getD c false = true := R.mono c (by rw [hset, if_neg hcb]; exact h1)
          rw [this]; rfl
    have key : ∀ st, outc F own st (f + 1) top t = outc F own st (f + 1) top t' := fun st => by
      cases st <;> (unfold outc; rw [e2])
    exact key st
theorem outc_pop {F : List (List Bool)} {own : List Int} {st : List (Nat × Nat)} {p : Nat × Nat} {f top : Nat} {t : List Bool} (h : ∀ c, c < bins F → (fit F top c && !t.getD c false) = false) : outc F own (p :: st) (f + 1) top t = outc F own st (f + 2) p.1 t := by
  have e : srch F own (f + 1) top t = (none, t) := by rw [srch_at (Nat.le_refl _) h, Nat.sub_self]; rfl
  rw [outc, e]
theorem outc_end {F : List (List Bool)} {own : List Int} {f top : Nat} {t : List Bool} (h : ∀ c, c < bins F → (fit F top c && !t.getD c false) = false) : outc F own [] (f + 1) top t = none := by
  have e : srch F own (f + 1) top t = (none, t) := by rw [srch_at (Nat.le_refl _) h, Nat.sub_self]; rfl
  rw [outc, e]
end Ma
/-- Loads with their bins, as they lie in memory. -/
def wc (L : List (Int × Int)) : List Value := L.flatMap fun f => [.int .i64 f.1, .int .i64 f.2]
theorem wc_snoc (L : List (Int × Int)) (f : Int × Int) : wc (L ++ [f]) = wc L ++ [.int .i64 f.1, .int .i64 f.2] := by simp [wc]
theorem wc_len : ∀ (L : List (Int × Int)), (wc L).length = L.length * 2
  | [] => rfl
  | f :: r => by have := wc_len r; simp only [wc, List.flatMap_cons, List.length_append, List.length_cons] at *; simp at this ⊢; omega
theorem wc_last (L : List (Int × Int)) (f : Int × Int) (n : Nat) (hn : L.length = n) : (wc (L ++ [f]))[n * 2]? = some (.int .i64 f.1) ∧ (wc (L ++ [f]))[n * 2 + 1]? = some (.int .i64 f.2) := by
  rw [wc_snoc]
  have := wc_len L
  constructor
  · rw [List.getElem?_append_right (by omega), show n * 2 - (wc L).length = 0 by omega]; rfl
  · rw [List.getElem?_append_right (by omega), show n * 2 + 1 - (wc L).length = 1 by omega]; rfl
theorem wc_set (L : List (Int × Int)) (f : Int × Int) (n : Nat) (hn : L.length = n) (z : Int) : (wc (L ++ [f])).set (n * 2 + 1) (.int .i64 z) = wc (L ++ [(f.1, z)]) := by
  rw [wc_snoc, wc_snoc]
  have := wc_len L
  rw [List.set_append_right _ _ (by omega), show n * 2 + 1 - (wc L).length = 1 by omega]; rfl
theorem wc_get : ∀ (L : List (Int × Int)) (i : Nat), i < L.length → (wc L)[i * 2]? = some (.int .i64 (L.getD i (0, 0)).1) ∧ (wc L)[i * 2 + 1]? = some (.int .i64 (L.getD i (0, 0)).2)
  | [], i, h => by simp at h
  | f :: r, 0, _ => by simp [wc]
  | f :: r, i + 1, h => by
    have ih := wc_get r i (by simpa using h)
    have e : wc (f :: r) = [Value.int IntKind.i64 f.1, Value.int IntKind.i64 f.2] ++ wc r := by simp [wc]
    rw [e]
    constructor
    · rw [List.getElem?_append_right (by simp; omega), show (i + 1) * 2 - [Value.int IntKind.i64 f.1, Value.int IntKind.i64 f.2].length = i * 2 by simp; omega]
      exact ih.1
    · rw [List.getElem?_append_right (by simp; omega), show (i + 1) * 2 + 1 - [Value.int IntKind.i64 f.1, Value.int IntKind.i64 f.2].length = i * 2 + 1 by simp; omega]
      exact ih.2
theorem push_tk {w : World} {base n : Nat} {v : Value} {xs : List Value} {x y : Int} (hown : w.ownsRow base 66 2 v n xs) (hn : n ≤ 100000) (hb : base ≤ w.heap.size) :
    ∃ g cap w', (∀ ty, (Builtin.append_ #[63, 63] ty #[v, .slice (some ⟨w.heap.size, 0, none⟩) 1 1]).run Try.prog (w.alloc (.cells #[.int .i64 x, .int .i64 y] 66)) = .ok (.slice (some ⟨g, 0, none⟩) (n + 1) cap) w') ∧ w'.ownsRow base 66 2 (.slice (some ⟨g, 0, none⟩) (n + 1) cap) (n + 1) (xs ++ [.int .i64 x, .int .i64 y]) ∧ w.grownBy w' v.ownBlock ∧ (v.ownBlock = some g ∨ w.heap.size ≤ g) := by
  have h : (Try.prog.info? 66).map (fun i => (i.zero, i.size, i.bytes)) = some (some (.agg #[.int .i64 0, .int .i64 0]), 2, 16) := by kernel_rfl
  obtain ⟨i0, hi, hzz⟩ := Option.map_eq_some_iff.1 h
  simp only [Prod.mk.injEq] at hzz
  obtain ⟨hz0, hz1, hz2⟩ := hzz
  obtain ⟨g, cap, w', h1, h2, h3, h4, _⟩ := run_append_lies (P := Try.prog) (w := w.alloc (.cells #[.int .i64 x, .int .i64 y] 66)) 63 0 base 66 i0 _ 2 16 Try.underlying63 hi hz0 hz1 hz2 rfl (by decide) v n xs (hown.alloc _) ⟨w.heap.size, 0, none⟩ 1 1 [.int .i64 x, .int .i64 y] rfl (fun j u hj => by
      have hj2 : j = 0 ∨ j = 1 := by
        have := (List.getElem?_eq_some_iff.1 hj).1
        simp at this; omega
      rw [add_plain']
      rcases hj2 with rfl | rfl
      · simp at hj; subst hj; simp
      · simp at hj; subst hj; simp) (fun u hu => by simp at hu; rcases hu with rfl | rfl <;> rfl) (by omega) (by unfold maxLen; omega) (by omega) (by simp; omega) _ rfl
  refine ⟨g, cap, w', fun _ => h1, h2, ?_, h4.imp id fun e => by rw [e]; simp⟩
  have hg := World.grownBy_alloc w (.cells #[.int .i64 x, .int .i64 y] 66) v.ownBlock
  exact ⟨h3.os.trans hg.os, h3.tape.trans hg.tape, h3.output.trans hg.output, Nat.le_trans hg.size h3.size, fun b hb hne => (h3.block b (Nat.lt_of_lt_of_le hb hg.size) hne).trans (hg.block b hb hne)⟩
/-- Bins tried and a way, each in a block of its own behind all that was there. -/
def WS (w0 w : World) (T M : Nat) (t : List Bool) (g L C : Nat) (ws : List (Int × Int)) : Prop :=
  Below w0.heap.size w0 w ∧ w.ownsRow w0.heap.size 4 1 (.slice (some ⟨T, 0, none⟩) M M) M (bls t) ∧ w.ownsRow w0.heap.size 66 2 (.slice (some ⟨g, 0, none⟩) L C) L (wc ws) ∧ g ≠ T ∧ t.length = M ∧ ws.length = L
theorem WS.setT {w0 w : World} {T M g L C : Nat} {t : List Bool} {ws : List (Int × Int)} (h : WS w0 w T M t g L C ws) (b : Nat) : WS w0 (w.setCell ⟨T, b, none⟩ (.bool true)) T M (t.set b true) g L C ws := by
  obtain ⟨h1, h2, h3, h4, h5, h6⟩ := h
  obtain ⟨st1, st2⟩ := h2.stored b (.bool true)
  rw [bls_set] at st1
  exact ⟨h1.setCell (h2.lt T rfl).1 _, st1, h3.kept st2 (Or.inr (by simpa [Value.ownBlock] using h4)), h4, by simpa using h5, h6⟩
theorem WS.setB {w0 w : World} {T M g p C : Nat} {t : List Bool} {ws : List (Int × Int)} {f : Int × Int} (h : WS w0 w T M t g (p + 1) C (ws ++ [f])) (z : Int) : WS w0 (w.setCell ⟨g, p * 2 + 1, none⟩ (.int .i64 z)) T M t g (p + 1) C (ws ++ [(f.1, z)]) := by
  obtain ⟨h1, h2, h3, h4, h5, h6⟩ := h
  have hp : ws.length = p := by simpa using h6
  obtain ⟨st1, st2⟩ := h3.stored (p * 2 + 1) (.int .i64 z)
  rw [wc_set ws f p hp] at st1
  exact ⟨h1.setCell (h3.lt g rfl).1 _, h2.kept st2 (Or.inr (by simpa [Value.ownBlock] using Ne.symm h4)), st1, h4, h5, by simp [hp]⟩
theorem WS.pop {w0 w : World} {T M g p C : Nat} {t : List Bool} {ws : List (Int × Int)} {f : Int × Int} (h : WS w0 w T M t g (p + 1) C (ws ++ [f])) : WS w0 w T M t g p C ws ∧ p ≤ C := by
  obtain ⟨h1, h2, h3, h4, h5, h6⟩ := h
  have hp : ws.length = p := by simpa using h6
  rw [wc_snoc] at h3
  refine ⟨⟨h1, h2, ownsRow_pop (by rw [wc_len, hp]) h3, h4, h5, hp⟩, ?_⟩
  rcases h3.2 with ⟨h0, _⟩ | ⟨_, cap, cur, hv, _, _, hc, _⟩
  · cases h0
  · cases hv; omega
theorem WS.push {w0 w : World} {T M g L C : Nat} {t : List Bool} {ws : List (Int × Int)} {q : Int} (h : WS w0 w T M t g L C ws) (hL : L ≤ 1000) :
    ∃ g' C' w', (∀ ty, (Builtin.append_ #[63, 63] ty #[.slice (some ⟨g, 0, none⟩) L C, .slice (some ⟨w.heap.size, 0, none⟩) 1 1]).run Try.prog (w.alloc (.cells #[.int .i64 q, .int .i64 (-1)] 66)) = .ok (.slice (some ⟨g', 0, none⟩) (L + 1) C') w') ∧ WS w0 w' T M t g' (L + 1) C' (ws ++ [(q, -1)]) := by
  obtain ⟨h1, h2, h3, h4, h5, h6⟩ := h
  obtain ⟨g', C', w', hr, own, hg, hat⟩ := push_tk (x := q) (y := -1) h3 (by omega) h1.size
  have hT := h2.lt T rfl
  refine ⟨g', C', w', hr, h1.trans (grown_under' hg h3 (Nat.le_refl _) h1.size), h2.kept hg (Or.inr (by simpa [Value.ownBlock] using Ne.symm h4)), by rw [wc_snoc]; exact own, ?_, h5, by simp [h6]⟩
  rcases hat with e | e
  · simp [Value.ownBlock] at e; omega
  · omega
theorem WS.getT {w0 w : World} {T M g L C : Nat} {t : List Bool} {ws : List (Int × Int)} (h : WS w0 w T M t g L C ws) {b : Nat} (hb : b < M) : w.cell? ⟨T, b, none⟩ = some (.bool (t.getD b false)) ∧ w.frozen? ⟨T, b, none⟩ = false := by
  obtain ⟨h1, h2, h3, h4, h5, h6⟩ := h
  exact ⟨by rw [h2.cellAt b (by omega), bls_get t b (by omega) false], h2.frozenAt b⟩
theorem WS.getL {w0 w : World} {T M g p C : Nat} {t : List Bool} {ws : List (Int × Int)} {f : Int × Int} (h : WS w0 w T M t g (p + 1) C (ws ++ [f])) : w.cell? ⟨g, p * 2, none⟩ = some (.int .i64 f.1) ∧ w.cell? ⟨g, p * 2 + 1, none⟩ = some (.int .i64 f.2) ∧ w.frozen? ⟨g, p * 2 + 1, none⟩ = false := by
  obtain ⟨h1, h2, h3, h4, h5, h6⟩ := h
  have hp : ws.length = p := by simpa using h6
  obtain ⟨e1, e2⟩ := wc_last ws f p hp
  exact ⟨by rw [h3.cellAt (p * 2) (by omega)]; exact e1, by rw [h3.cellAt (p * 2 + 1) (by omega)]; exact e2, h3.frozenAt _⟩
def casts (st : List (Nat × Nat)) : List (Int × Int) := st.map fun p => ((p.1 : Int), (p.2 : Int))
theorem casts_len (st : List (Nat × Nat)) : (casts st).length = st.length := by simp [casts]
end Go.Proofs.Ytfmdahpldjkifaa
