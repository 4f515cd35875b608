/-
  The bins that some load come to fits, gone through one by one.
-/
import Derived.Test.YtfmdahpldjkifaaJv
namespace Go.Proofs.Ytfmdahpldjkifaa
open Go.RowKit

namespace Ma
/-- A bin is come to from a load that fits it. -/
theorem rB_from {F : List (List Bool)} {m : List Int} {b : Nat} (hb : b < bins F) (h : (rB F m).getD b false = true) : ∃ l, l < F.length ∧ (rL F m).getD l false = true ∧ fit F l b = true := by
  obtain ⟨B, hB⟩ : ∃ B : List Bool, B = (List.range (bins F)).map fun b => (List.range F.length).any fun l => (rL F m).getD l false && fit F l b := ⟨_, rfl⟩
  have gB : ∀ c, c < bins F → (B.getD c false = true ↔ ∃ l, l < F.length ∧ (rL F m).getD l false = true ∧ fit F l c = true) := fun c hc => by rw [hB]; simp [hc]
  have hS : Shut F m (rL F m) B := fun l hl => by
    refine ⟨(shut_r F m l hl).1, fun c hc => ⟨fun e1 e2 => (gB c hc).2 ⟨l, hl, e1, e2⟩, fun e1 e2 => ?_⟩⟩
    obtain ⟨l', h1, h2, h3⟩ := (gB c hc).1 e1
    exact ((shut_r F m l hl).2 c hc).2 (((shut_r F m l' h1).2 c hc).1 h2 h3) e2
  exact (gB b hb).1 ((rB_iff hb).1 h (rL F m) B (rL_len _ _) (by rw [hB]; simp) hS)
structure Bn (F : List (List Bool)) (m : List Int) (bl : List Nat) : Prop where
  nd : bl.Nodup
  rb : ∀ b ∈ bl, b < bins F ∧ (rB F m).getD b false = true
theorem bn_nil (F : List (List Bool)) (m : List Int) : Bn F m [] := ⟨by simp, by simp⟩
theorem Bn.push {F : List (List Bool)} {m : List Int} {bl : List Nat} (h : Bn F m bl) {q b : Nat} (hq : q < F.length) (hr : (rL F m).getD q false = true) (hb : b < bins F) (hf : fit F q b = true) (hn : b ∉ bl) : Bn F m (bl ++ [b]) := by
  refine ⟨?_, fun c hc => ?_⟩
  · rw [List.nodup_append]
    refine ⟨h.nd, by simp, fun x hx y hy e => ?_⟩
    simp at hy; subst hy; subst e; exact hn hx
  · rcases List.mem_append.1 hc with hc | hc
    · exact h.rb c hc
    · simp at hc; subst hc
      exact ⟨hb, ((shut_r F m q hq).2 c hb).1 hr hf⟩
theorem Bn.len {F : List (List Bool)} {m : List Int} {bl : List Nat} (h : Bn F m bl) : bl.length ≤ bins F := by
  have := List.Nodup.length_le_of_subset h.nd (l₂ := List.range (bins F)) fun x hx => by simpa using (h.rb x hx).1
  simpa using this
theorem Bn.fin {F : List (List Bool)} {m : List Int} {bl : List Nat} (h : Bn F m bl) (hp : ∀ q : Nat, (q : Int) ∈ those (rL F m) true → ∀ b, b < bins F → fit F q b = true → b ∈ bl) : bl.length = (those (rB F m) true).length := by
  have := ((List.perm_ext_iff_of_nodup (cast8_nodup h.nd) (those_nodup (rB F m) true)).2 fun x => ?_).length_eq
  · simpa [cast8] using this
  · constructor
    · intro hx
      obtain ⟨b, hb, rfl⟩ := List.mem_map.1 hx
      obtain ⟨h1, h2⟩ := h.rb b hb
      exact mem_those.2 ⟨b, by rw [rB_len]; exact h1, h2, rfl⟩
    · intro hx
      obtain ⟨b, h1, h2, rfl⟩ := mem_those.1 hx
      rw [rB_len] at h1
      obtain ⟨l, h3, h4, h5⟩ := rB_from h1 h2
      exact List.mem_map.2 ⟨b, hp l (mem_those.2 ⟨l, by rw [rL_len]; exact h3, h4, rfl⟩) b h1 h5, rfl⟩
end Ma
def MbO (F : List (List Bool)) (m L : List Int) (w1 wr : World) (t : Nat) (v : Value) : Prop := ∃ bl : List Nat, Hid (wr.ownsRow w1.heap.size 3 1 v bl.length (ints (Ma.cast8 bl))) ∧ Hid (Below w1.heap.size w1 wr) ∧ Hid (Ma.Bn F m bl) ∧ Hid (Gone F L bl t)
def MbI (F : List (List Bool)) (m L : List Int) (w1 wr : World) (t q b : Nat) (v : Value) : Prop := ∃ bl : List Nat, Hid (wr.ownsRow w1.heap.size 3 1 v bl.length (ints (Ma.cast8 bl))) ∧ Hid (Below w1.heap.size w1 wr) ∧ Hid (Ma.Bn F m bl) ∧ Hid (Gone F L bl t) ∧ Hid (∀ b', b' < b → Ma.fit F q b' = true → b' ∈ bl)
theorem gone_more {F : List (List Bool)} {L : List Int} {Bl : List Nat} {k : Nat} (h : Gone F L Bl k) (b : Nat) : Gone F L (Bl ++ [b]) k := fun j hj c hc hf => List.mem_append_left _ (h j hj c hc hf)
theorem lk_at {F : List (List Bool)} (hg : Ma.goodB F = true) {j : Nat} (hj : j < (lkL F).length) : ∃ q : Nat, q < F.length ∧ (lkL F).getD j 0 = (q : Int) ∧ (Ma.rL F (Ma.mat F)).getD q false = true := by
  have e1 : lkL F = Ma.those (Ma.rL F (Ma.mat F)) true := by unfold lkL; rw [if_pos hg]
  have hm := lt_mem hj
  rw [e1] at hm ⊢
  obtain ⟨q, h1, h2, h3⟩ := Ma.mem_those.1 hm
  rw [Ma.rL_len] at h1
  exact ⟨q, h1, h3, h2⟩
theorem lk_8 (F : List (List Bool)) : (lkL F).length ≤ 8 := by
  unfold lkL
  cases hg : Ma.goodB F
  · simp
  · rw [if_pos rfl]; have := those_le (Ma.rL F (Ma.mat F)) true; rw [Ma.rL_len] at this; have := Ma.goodB_len hg; omega
theorem bn_end {F : List (List Bool)} (hg : Ma.goodB F = true) {bl : List Nat} (h : Ma.Bn F (Ma.mat F) bl) (hG : Gone F (lkL F) bl (lkL F).length) : bl.length = (cvB F).length := by
  have e1 : lkL F = Ma.those (Ma.rL F (Ma.mat F)) true := by unfold lkL; rw [if_pos hg]
  have e2 : cvB F = Ma.those (Ma.rB F (Ma.mat F)) true := by unfold cvB; rw [if_pos hg]
  rw [e2]
  refine h.fin fun q hq b hb hf => ?_
  rw [← e1] at hq
  obtain ⟨j, hj, e⟩ := List.getElem_of_mem hq
  refine hG j hj b hb ?_
  rw [Pf.getD_lt _ 0 hj, e, Int.toNat_natCast]
  exact hf
theorem cnt_bd (m : List Int) : 0 ≤ Ma.cntI m ∧ Ma.cntI m ≤ 8 := by
  unfold Ma.cntI
  cases h : Ma.cntB m
  · simp
  · rw [if_pos rfl]
    have h8 : m.length ≤ 8 := by simp only [Ma.cntB, Bool.and_eq_true, decide_eq_true_eq] at h; exact h.1
    have := Ma.cntTo_le m m.length
    rw [Ma.cntTo_all] at this
    omega
end Go.Proofs.Ytfmdahpldjkifaa
