/-
  Goods of the laws: toGoodS makes a list that can be written into; what markText and markGoodS answer.
-/
import Derived.Test.YtogkbidphdpjaaaDoorGt
namespace Go.Proofs.YtogkbidphdpjaaaDoor
open Go.RowKit

/-- Cells of a block that are there, and can be written. -/
def Loose (w : World) (B m : Nat) : Prop := ∀ j, j < m → (w.cell? ⟨B, j, none⟩).isSome = true ∧ w.frozen? ⟨B, j, none⟩ = false
theorem Loose.below {w w' : World} {B m : Nat} (h : Loose w B m) (hb : Below w.heap.size w w') : Loose w' B m := fun j hj => by
  obtain ⟨h1, h2⟩ := h j hj
  have hl : B < w.heap.size := by
    obtain ⟨v, hv⟩ := Option.isSome_iff_exists.1 h1
    exact World.block_lt_of_cell? w _ hv
  exact ⟨by rw [hb.cell (p := ⟨B, j, none⟩) hl]; exact h1, by rw [hb.frozen (p := ⟨B, j, none⟩) hl]; exact h2⟩
theorem Loose.set {w : World} {B m i : Nat} {v : Value} (h : Loose w B m) : Loose (w.setCell ⟨B, i, none⟩ v) B m := fun j hj => by
  obtain ⟨h1, h2⟩ := h j hj
  refine ⟨?_, by rw [World.frozen?_setCell]; exact h2⟩
  by_cases e : j = i
  · subst e
    obtain ⟨u, hu⟩ := Option.isSome_iff_exists.1 h1
    rw [World.cell?_setCell_same _ _ _ hu]; rfl
  · rw [World.cell?_setCell_other _ _ _ _ (fun e' => e (by injection e' with _ e2; exact e2.symm))]; exact h1
theorem Loose.lt {w : World} {B m : Nat} (h : Loose w B m) (hm : 0 < m) : B < w.heap.size := by
  obtain ⟨v, hv⟩ := Option.isSome_iff_exists.1 (h 0 hm).1
  exact World.block_lt_of_cell? w _ hv
theorem grown_set {a w : World} {B o : Nat} {v : Value} (h : a.grownBy w (some B)) : a.grownBy (w.setCell ⟨B, o, none⟩ v) (some B) :=
  ⟨h.os, h.tape, h.output, by simpa using h.size, fun k hk hne => (Below.heap_setCell _ _ _ k (by intro e; exact hne (by rw [e]))).trans (h.block k hk hne)⟩
theorem grown_of {a w w' : World} {B : Nat} (h : a.grownBy w (some B)) (hb : Below w.heap.size w w') : a.grownBy w' (some B) :=
  ⟨hb.os.trans h.os, hb.tape.trans h.tape, hb.output.trans h.output, Nat.le_trans h.size hb.size, fun k hk hne => (hb.block k (Nat.lt_of_lt_of_le hk h.size)).trans (h.block k hk hne)⟩
set_option maxHeartbeats 2000000 in
theorem toG_rowF (a : Option Addr) (cap n : Nat) (gs : List Gd) (w : World) (hn : gs.length = n) (hlen : n ≤ 1048576) (hr : GRow w a gs) :
    Calls Tryd.prog 18 #[.slice a n cap] w fun e w' => e = .returned (.slice (some ⟨w.heap.size, 0, none⟩) n n) ∧ Below w.heap.size w w' ∧ w.heap.size < w'.heap.size ∧ GRow w' (some ⟨w.heap.size, 0, none⟩) gs ∧ Loose w' w.heap.size (n * 2) := by
  have hmk := makeG_run n hlen
  have HR := hide hr
  have HN := hide hn
  clear hr hn
  go_enter Tryd.func18, Tryd.ntmps18
  go_wp2_with fail
  go_loopw [4] (fun s wr => ∃ (k : Nat), s = .int .i64 k ∧ k ≤ n ∧ Hid (GAt wr w.heap.size gs k) ∧ Hid (∀ j, j < n * 2 → (wr.cell? ⟨w.heap.size, j, none⟩).isSome = true ∧ wr.frozen? ⟨w.heap.size, j, none⟩ = false) ∧ Below w.heap.size w wr ∧ w.heap.size < wr.heap.size) (fun s _ => n - (intOf s).toNat)
  case atStart =>
    exact ⟨0, rfl, Nat.zero_le _, hide fun i hi => absurd hi (Nat.not_lt_zero _), hide fun j hj => ⟨madeG_cell _ _ _ _ hj, by simp [go_sem]⟩, (Below.refl _ _).alloc (Nat.le_refl _) _, by simp⟩
  case round =>
    obtain ⟨k, rfl, hk, HG, HJ, hB, hz⟩ := hrel
    by_cases hlt : k < n
    · obtain ⟨b, off, rfl, hb, r0', r1'⟩ := (HR.out.keep hB.size hB.block).at (i := k) (by rw [HN.out]; exact hlt)
      have i0 : (0 : Int) ≤ (k : Int) := by omega
      have i1 : (k : Int) < (n : Int) := by omega
      generalize hgx : (gs.getD k gd0).1 = x at r0'
      generalize hgz : (gs.getD k gd0).2 = z at r1'
      have HX := hide hgx
      have HZ := hide hgz
      clear hmk hgx hgz
      go_wp2_with fail
      refine (toGood_any x z _).mono ?_
      rintro e w2 ⟨rfl, hb2⟩
      obtain ⟨hc2, hf2⟩ := bcell hb2
      have q0 := HJ.out (k * 2) (by omega)
      have q1 := HJ.out (k * 2 + 1) (by omega)
      obtain ⟨v0, hv0⟩ := Option.isSome_iff_exists.1 q0.1
      obtain ⟨v1, hv1⟩ := Option.isSome_iff_exists.1 q1.1
      have p0 : w2.cell? ⟨w.heap.size, k * 2, none⟩ = some v0 := (hc2 _ _ hz).trans hv0
      have p1 : w2.cell? ⟨w.heap.size, k * 2 + 1, none⟩ = some v1 := (hc2 _ _ hz).trans hv1
      have p2 : w2.frozen? ⟨w.heap.size, k * 2, none⟩ = false := (hf2 _ _ hz).trans q0.2
      have p3 : w2.frozen? ⟨w.heap.size, k * 2 + 1, none⟩ = false := (hf2 _ _ hz).trans q1.2
      go_wp2_with fail
      obtain ⟨u0, u1, u2, u3⟩ := putG (W := w2) (B := w.heap.size) (i := k * 2) (x := .string x) (y := .int .i64 z) (by rw [p0]; rfl) (by rw [p1]; rfl)
      refine ⟨⟨k + 1, by go_num, by omega, ?_, ?_, ?_, ?_⟩, by simp only [intOf]; omega⟩
      · refine hide fun i hi => ?_
        by_cases e : i = k
        · subst e
          rw [HX.out, HZ.out, Nat.zero_add]
          exact ⟨u0, u1⟩
        · obtain ⟨g0, g1⟩ := HG.out i (by omega)
          rw [Nat.zero_add] at g0 g1 ⊢
          exact ⟨(u2 _ (by omega) (by omega)).trans ((hc2 _ _ hz).trans g0), (u2 _ (by omega) (by omega)).trans ((hc2 _ _ hz).trans g1)⟩
      · refine hide fun j hj => ⟨?_, (u3 _).trans ((hf2 _ _ hz).trans (HJ.out j hj).2)⟩
        by_cases e0 : j = k * 2
        · subst e0; rw [u0]; rfl
        · by_cases e1 : j = k * 2 + 1
          · subst e1; rw [u1]; rfl
          · rw [u2 j e0 e1, hc2 _ _ hz]; exact (HJ.out j hj).1
      · exact ((hB.trans (hb2.mono (by omega))).setCell (Nat.le_refl _) _).setCell (Nat.le_refl _) _
      · have := hb2.size; simp; omega
    · have hke : k = n := by omega
      subst hke
      have HG' := HG.out
      rw [← HN.out] at HG'
      have HGG := hide HG'
      clear hmk HG'
      go_wp2_with fail
      go_ret
      exact ⟨rfl, hB, hz, HGG.out.row hz, HJ.out⟩
end Go.Proofs.YtogkbidphdpjaaaDoor
