/-
  Boxes of the model in memory: numbers, and how much is left beside them.
-/
import Derived.Test.YtoalcmfpbjmapaaIn12
import Derived.Test.YtoalcmfpbjmapaaIo12
import Derived.Test.YtoalcmfpbjmapaaIm12
namespace Go.Proofs.Ytoalcmfpbjmapaa
open Go.RowKit

theorem LL.keep2 {α : Type} {W W' : World} {base T E s : Nat} {enc : List α → List Value} {v : Value} {us : List Value} {R : List (List α)} (h : LL W base T E s enc v us R) (hb : ∀ g, g < W.heap.size → (v.ownBlock = some g ∨ ∃ i, i < R.length ∧ (us.getD i nilS).ownBlock = some g) → W'.heap[g]? = W.heap[g]?) : LL W' base T E s enc v us R :=
  ⟨own_keep2 h.1 fun g hv hl => hb g hl (Or.inl hv), fun i hi => own_keep2 (h.2.1 i hi) fun g hv hl => hb g hl (Or.inr ⟨i, hi, hv⟩), h.2.2⟩
def FS (W : World) (b0 : Nat) (v vl : Value) (us : List Value) (B : List (List (Int × Int))) : Prop :=
  LL W b0 22 3 1 ints v us (It.nums B) ∧ W.ownsRow b0 3 1 vl B.length (ints (It.rooms B)) ∧ b0 ≤ W.heap.size ∧ ∀ g, vl.ownBlock = some g → v.ownBlock ≠ some g ∧ ∀ i, i < B.length → (us.getD i nilS).ownBlock ≠ some g
theorem FS.nil (W : World) (b0 : Nat) (h : b0 ≤ W.heap.size) : FS W b0 nilS nilS [] [] := ⟨LL.nil _ _ _ _ _ _, World.ownsRow_nil _ _ _ _, h, fun g hg => by cases hg⟩
theorem FS.below {W W' : World} {b0 : Nat} {v vl : Value} {us : List Value} {B : List (List (Int × Int))} (h : FS W b0 v vl us B) (hb : Below W.heap.size W W') : FS W' b0 v vl us B := ⟨h.1.below hb, own_below2 h.2.1 hb, Nat.le_trans h.2.2.1 hb.size, h.2.2.2⟩
theorem infoS : ∃ i, Try.prog.info? 22 = some i ∧ i.zero = some (.slice none 0 0) ∧ i.size = 1 ∧ i.bytes = 24 := by
  have h : (Try.prog.info? 22).map (fun i => (i.zero, i.size, i.bytes)) = some (some (.slice none 0 0), 1, 24) := by kernel_rfl
  obtain ⟨i, hi, hzz⟩ := Option.map_eq_some_iff.1 h
  simp only [Prod.mk.injEq] at hzz
  exact ⟨i, hi, hzz.1, hzz.2.1, hzz.2.2⟩
/-- A new box behind all, nothing in it. -/
theorem FS.push {W : World} {b0 : Nat} {v vl : Value} {us : List Value} {B : List (List (Int × Int))} (h : FS W b0 v vl us B) (hn : B.length ≤ 1000) :
    ∃ G cap w1 gl capl w2, (∀ ty, (Builtin.append_ #[26, 26] ty #[v, .slice (some ⟨W.heap.size, 0, none⟩) 1 1]).run Try.prog (W.alloc (.cells #[.slice none 0 0] 22)) = .ok (.slice (some ⟨G, 0, none⟩) (B.length + 1) cap) w1) ∧
      (∀ ty, (Builtin.append_ #[22, 22] ty #[vl, .slice (some ⟨w1.heap.size, 0, none⟩) 1 1]).run Try.prog (w1.alloc (.cells #[.int .i64 20] 3)) = .ok (.slice (some ⟨gl, 0, none⟩) (B.length + 1) capl) w2) ∧
      FS w2 b0 (.slice (some ⟨G, 0, none⟩) (B.length + 1) cap) (.slice (some ⟨gl, 0, none⟩) (B.length + 1) capl) (us ++ [nilS]) (B ++ [[]]) ∧ Below b0 W w2 := by
  obtain ⟨hL, hO, hb, hA⟩ := h
  have hlen := It.nums_len B
  have hL1 := hL.1
  rw [hlen] at hL1
  obtain ⟨G, cap, w1, r1, o1, g1, f1⟩ := push_9 (x := .slice none 0 0) Try.underlying26 infoS rfl rfl (by omega) hL1 (by omega) hb
  have k1 : ∀ b, b < W.heap.size → some b ≠ v.ownBlock → w1.heap[b]? = W.heap[b]? := fun b hb' hne => (g1.block b (by simp; omega) hne).trans ((below_alloc W _).block b hb')
  have z1 : W.heap.size ≤ w1.heap.size := Nat.le_trans (by simp) g1.size
  have hG : (Value.slice (some ⟨G, 0, none⟩) (B.length + 1) cap).ownBlock = some G := rfl
  have L1 : LL w1 b0 22 3 1 ints (.slice (some ⟨G, 0, none⟩) (B.length + 1) cap) (us ++ [nilS]) (It.nums B ++ [[]]) := by
    refine hL.snoc (r := []) (by rw [hlen]; exact o1) k1 (fun g e => ?_) (World.ownsRow_nil _ _ _ _) (fun g e => by cases e)
    rw [hG] at e; cases e
    rcases f1 with f1 | f1
    · exact Or.inl f1
    · exact Or.inr (by omega)
  have O1 : w1.ownsRow b0 3 1 vl B.length (ints (It.rooms B)) := own_keep2 hO fun g hv hl => k1 g hl (fun e => (hA g hv).1 e.symm)
  obtain ⟨gl, capl, w2, r2, o2, g2, f2⟩ := push_9 (x := .int .i64 20) Try.underlying22 infoI rfl rfl (by omega) O1 (by omega) (Nat.le_trans hb z1)
  have k2 : ∀ b, b < w1.heap.size → some b ≠ vl.ownBlock → w2.heap[b]? = w1.heap[b]? := fun b hb' hne => (g2.block b (by simp; omega) hne).trans ((below_alloc w1 _).block b hb')
  have z2 : w1.heap.size ≤ w2.heap.size := Nat.le_trans (by simp) g2.size
  have hus := L1.len
  have hA1 : ∀ g, vl.ownBlock = some g → G ≠ g ∧ ∀ i, i < B.length + 1 → ((us ++ [nilS]).getD i nilS).ownBlock ≠ some g := fun g hv => by
    refine ⟨fun e => ?_, fun i hi e => ?_⟩
    · subst e
      rcases f1 with f1 | f1
      · exact (hA G hv).1 f1
      · have := (hO.lt G hv).2; omega
    · have hul : us.length = B.length := by have := hL.len; rw [hlen] at this; exact this
      rw [getD_snoc (by omega)] at e
      split at e
      · cases e
      · exact (hA g hv).2 i (by omega) e
  refine ⟨G, cap, w1, gl, capl, w2, r1, r2, ⟨?_, ?_, by omega, fun g e => ?_⟩, ?_⟩
  · rw [It.nums_snoc]
    refine L1.keep2 fun g hl hc => k2 g hl (fun e => ?_)
    obtain ⟨q1, q2⟩ := hA1 g e.symm
    rcases hc with hc | ⟨i, hi, hc⟩
    · rw [hG] at hc; cases hc; exact q1 rfl
    · rw [List.length_append, hlen] at hi
      exact q2 i (by simpa using hi) hc
  · rw [List.length_append, It.rooms_snoc, ints_snoc]; exact o2
  · obtain rfl : gl = g := by simpa [Value.ownBlock] using e
    rw [List.length_append]
    rcases f2 with f2 | f2
    · obtain ⟨q1, q2⟩ := hA1 gl f2
      exact ⟨by rw [hG]; simpa using q1, fun i hi => q2 i (by simpa using hi)⟩
    · refine ⟨?_, fun i hi e2 => ?_⟩
      · rw [hG]; intro e3
        have e4 : G = gl := by simpa using e3
        have := (L1.1.lt G rfl).2; omega
      · have := ((L1.2.1 i (by rw [List.length_append, hlen]; simpa using hi)).lt gl e2).2; omega
  · refine ⟨g2.os.trans g1.os, g2.tape.trans g1.tape, g2.output.trans g1.output, by omega, fun b hb' => ?_⟩
    exact (k2 b (by omega) (fun e => by have := (O1.lt b e.symm).1; omega)).trans (k1 b (by omega) (fun e => by have := (hL1.lt b e.symm).1; omega))
end Go.Proofs.Ytoalcmfpbjmapaa
