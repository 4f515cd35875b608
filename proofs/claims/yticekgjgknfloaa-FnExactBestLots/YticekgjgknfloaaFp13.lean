/-
  Owned rows up to their capacity, and cells set in them.
-/
import Derived.Test.YticekgjgknfloaaLm13
namespace Go.Proofs.Yticekgjgknfloaa
open Go.RowKit

theorem own_full {w : World} {base e g n c : Nat} {xs : List Value} (h : w.ownsRow base e 1 (.slice (some ⟨g, 0, none⟩) n c) n xs) : n ≤ c ∧ ∃ ys, ys.length = c ∧ ys.take n = xs ∧ w.ownsRow base e 1 (.slice (some ⟨g, 0, none⟩) c c) c ys := by
  rcases h.2 with ⟨h', _⟩ | ⟨g', cap', cur, h', hb, hg, hnc, hcm, hcs, htake⟩
  · simp at h'
  · simp only [Value.slice.injEq, Option.some.injEq, Addr.mk.injEq, and_true, true_and] at h'
    obtain ⟨rfl, rfl⟩ := h'
    rw [Nat.mul_one] at hcs htake
    exact ⟨hnc, cur.toList, by simpa using hcs, htake, by simpa using hcs, Or.inr ⟨g, c, cur, rfl, hb, hg, Nat.le_refl _, hcm, by rw [Nat.mul_one]; exact hcs, by rw [Nat.mul_one]; exact List.take_of_length_le (by simp [hcs])⟩⟩
theorem own_prefix {w : World} {base e g n c : Nat} {ys : List Value} (h : w.ownsRow base e 1 (.slice (some ⟨g, 0, none⟩) c c) c ys) (hn : n ≤ c) : w.ownsRow base e 1 (.slice (some ⟨g, 0, none⟩) n c) n (ys.take n) := by
  have hl := h.1
  rcases h.2 with ⟨h', _⟩ | ⟨g', cap', cur, h', hb, hg, hnc, hcm, hcs, htake⟩
  · simp at h'
  · simp only [Value.slice.injEq, Option.some.injEq, Addr.mk.injEq, and_true, true_and] at h'
    obtain ⟨rfl, rfl⟩ := h'
    rw [Nat.mul_one] at hcs htake hl
    refine ⟨by rw [List.length_take]; omega, Or.inr ⟨g, c, cur, rfl, hb, hg, hn, hcm, by rw [Nat.mul_one]; exact hcs, ?_⟩⟩
    rw [← htake, Nat.mul_one, List.take_take, Nat.min_eq_left hn]
def setL (xs : List Value) : Nat → List Value → List Value
  | _, [] => xs
  | o, v :: r => setL (xs.set o v) (o + 1) r
theorem setL_len : ∀ (vs xs : List Value) (o : Nat), (setL xs o vs).length = xs.length
  | [], _, _ => rfl
  | v :: r, xs, o => by rw [setL, setL_len r]; simp
theorem setL_eq : ∀ (vs xs : List Value) (o : Nat), o + vs.length ≤ xs.length → setL xs o vs = xs.take o ++ vs ++ xs.drop (o + vs.length)
  | [], xs, o, _ => by simp [setL]
  | v :: r, xs, o, h => by
    simp only [List.length_cons] at h
    rw [setL, setL_eq r _ _ (by simp; omega), List.take_succ_eq_append_getElem (by simp; omega)]
    simp only [List.length_cons, List.getElem_set_self, List.take_set_of_le (Nat.le_refl o)]
    rw [List.drop_set_of_lt (by omega), show o + 1 + r.length = o + (r.length + 1) by omega]
    simp
theorem own_cells {base e g N : Nat} : ∀ (vs xs : List Value) (o : Nat) (w : World), w.ownsRow base e 1 (.slice (some ⟨g, 0, none⟩) N N) N xs → (w.setCells g o vs).ownsRow base e 1 (.slice (some ⟨g, 0, none⟩) N N) N (setL xs o vs) ∧ Below base w (w.setCells g o vs)
  | [], _, _, w, h => ⟨h, Below.refl _ _⟩
  | v :: r, xs, o, w, h => by
    have h1 := (h.stored o v).1
    have h2 := own_cells r (xs.set o v) (o + 1) _ h1
    exact ⟨h2.1, ((Below.refl base w).setCell (p := ⟨g, o, none⟩) (h.lt g rfl).1 v).trans h2.2⟩
theorem own_drew {w : World} {base e s n : Nat} {v : Value} {xs : List Value} (h : w.ownsRow base e s v n xs) : w.drew.ownsRow base e s v n xs := own_keep2 h fun _ _ _ => rfl
end Go.Proofs.Yticekgjgknfloaa
