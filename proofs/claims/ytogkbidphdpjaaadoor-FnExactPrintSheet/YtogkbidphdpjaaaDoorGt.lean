/-
  What toGoodS and eqGoodS of the laws answer, over goods in memory.
-/
import Derived.Test.YtogkbidphdpjaaaDoorGs
import Derived.Deep.RegionHeld3
namespace Go.Proofs.YtogkbidphdpjaaaDoor
open Go.RowKit

theorem makeG_run (n : Nat) (hn : n ≤ 1048576) (w : World) : (Instr.makeSlice 29 (.int .i64 (n : Int)) (.int .i64 (n : Int))).run Tryd.prog w = .ok (.slice (some ⟨w.heap.size, 0, none⟩) n n) (w.alloc (.cells (madeCells #[.string ⟨#[]⟩, .int .i64 0] (n * 2)) 47)) := by
  have h : (Tryd.prog.info? 47).map (fun i => (i.zero, i.size, i.bytes)) = some (some (.agg #[.string ⟨#[]⟩, .int .i64 0]), 2, 24) := by kernel_rfl
  obtain ⟨i, hi, hzz⟩ := Option.map_eq_some_iff.1 h
  simp only [Prod.mk.injEq] at hzz
  obtain ⟨hz, hs, hb⟩ := hzz
  have := run_make (P := Tryd.prog) w 29 47 i _ Tryd.underlying29 hi hz .i64 .i64 (n : Int) (n : Int) (by omega) (by omega) (by rw [hb]; omega) (by omega)
  simpa [hs, Value.cells] using this
theorem madeG_cell (w : World) (n j : Nat) (t : TypeId) (hj : j < n * 2) : ((w.alloc (.cells (madeCells #[.string ⟨#[]⟩, .int .i64 0] (n * 2)) t)).cell? ⟨w.heap.size, j, none⟩).isSome = true := by
  have h2 : j % 2 = 0 ∨ j % 2 = 1 := by omega
  have h3 : ((madeCells #[.string ⟨#[]⟩, .int .i64 0] (n * 2))[j]?).isSome = true := by
    rcases h2 with h2 | h2 <;> simp [madeCells, hj, h2]
  simp only [World.cell?, (MapKept.heap_alloc w _).1]
  simpa using h3
theorem putG {W : World} {B i : Nat} {x y : Value} (h0 : (W.cell? ⟨B, i, none⟩).isSome = true) (h1 : (W.cell? ⟨B, i + 1, none⟩).isSome = true) :
    ((W.setCell ⟨B, i, none⟩ x).setCell ⟨B, i + 1, none⟩ y).cell? ⟨B, i, none⟩ = some x ∧ ((W.setCell ⟨B, i, none⟩ x).setCell ⟨B, i + 1, none⟩ y).cell? ⟨B, i + 1, none⟩ = some y ∧
    (∀ j, j ≠ i → j ≠ i + 1 → ((W.setCell ⟨B, i, none⟩ x).setCell ⟨B, i + 1, none⟩ y).cell? ⟨B, j, none⟩ = W.cell? ⟨B, j, none⟩) ∧ (∀ a, ((W.setCell ⟨B, i, none⟩ x).setCell ⟨B, i + 1, none⟩ y).frozen? a = W.frozen? a) := by
  obtain ⟨v0, e0⟩ := Option.isSome_iff_exists.1 h0
  obtain ⟨v1, e1⟩ := Option.isSome_iff_exists.1 h1
  refine ⟨?_, ?_, ?_, ?_⟩
  · rw [World.cell?_setCell_other _ _ _ _ (by simp)]; exact World.cell?_setCell_same _ _ _ e0
  · exact World.cell?_setCell_same _ _ _ (by rw [World.cell?_setCell_other _ _ _ _ (by simp)]; exact e1)
  · intro j hj hj'
    rw [World.cell?_setCell_other _ _ _ _ (fun e => hj' (by injection e with _ e2; exact e2.symm)), World.cell?_setCell_other _ _ _ _ (fun e => hj (by injection e with _ e2; exact e2.symm))]
  · intro a; rw [World.frozen?_setCell, World.frozen?_setCell]
/-- The first k goods, in their block. -/
def GAt (w : World) (B : Nat) (gs : List Gd) (k : Nat) : Prop := ∀ i, i < k → w.cell? ⟨B, 0 + i * 2, none⟩ = some (.string (gs.getD i gd0).1) ∧ w.cell? ⟨B, 0 + i * 2 + 1, none⟩ = some (.int .i64 (gs.getD i gd0).2)
theorem GAt.row {w : World} {B : Nat} {gs : List Gd} (h : GAt w B gs gs.length) (hB : B < w.heap.size) : GRow w (some ⟨B, 0, none⟩) gs := Or.inr ⟨B, 0, rfl, hB, h⟩

set_option maxHeartbeats 2000000 in
theorem toG_row (a : Option Addr) (cap n : Nat) (gs : List Gd) (w : World) (hn : gs.length = n) (hlen : n ≤ 1048576) (hr : GRow w a gs) :
    Calls Tryd.prog 18 #[.slice a n cap] w fun e w' => e = .returned (.slice (some ⟨w.heap.size, 0, none⟩) n n) ∧ Below w.heap.size w w' ∧ w.heap.size < w'.heap.size ∧ GRow w' (some ⟨w.heap.size, 0, none⟩) gs := by
  have hmk := makeG_run n hlen
  have HR := hide hr
  have HN := hide hn
  clear hr hn
  go_enter Tryd.func18, Tryd.ntmps18
  go_wp2_with fail
  go_loopw [4] (fun s wr => ∃ (k : Nat), s = .int .i64 k ∧ k ≤ n ∧ Hid (GAt wr w.heap.size gs k) ∧ Hid (∀ j, j < n * 2 → (wr.cell? ⟨w.heap.size, j, none⟩).isSome = true ∧ wr.frozen? ⟨w.heap.size, j, none⟩ = false) ∧ Below w.heap.size w wr ∧ w.heap.size < wr.heap.size) (fun s _ => n - (intOf s).toNat)
  case atStart =>
    exact ⟨0, rfl, Nat.zero_le _, hide fun i hi => absurd hi (Nat.not_lt_zero _), hide fun j hj => ⟨madeG_cell _ _ _ _ hj, by simp [go_sem]⟩, (Below.refl _ _).alloc (Nat.le_refl _) _, by simp⟩
  case round =>
    obtain ⟨k, rfl, hk, HG, HJ, hB, hz⟩ := hrel
    by_cases hlt : k < n
    · obtain ⟨b, off, rfl, hb, r0', r1'⟩ := (HR.out.keep hB.size hB.block).at (i := k) (by rw [HN.out]; exact hlt)
      have i0 : (0 : Int) ≤ (k : Int) := by omega
      have i1 : (k : Int) < (n : Int) := by omega
      generalize hgx : (gs.getD k gd0).1 = x at r0'
      generalize hgz : (gs.getD k gd0).2 = z at r1'
      have HX := hide hgx
      have HZ := hide hgz
      clear hmk hgx hgz
      go_wp2_with fail
      refine (toGood_any x z _).mono ?_
      rintro e w2 ⟨rfl, hb2⟩
      obtain ⟨hc2, hf2⟩ := bcell hb2
      have q0 := HJ.out (k * 2) (by omega)
      have q1 := HJ.out (k * 2 + 1) (by omega)
      obtain ⟨v0, hv0⟩ := Option.isSome_iff_exists.1 q0.1
      obtain ⟨v1, hv1⟩ := Option.isSome_iff_exists.1 q1.1
      have p0 : w2.cell? ⟨w.heap.size, k * 2, none⟩ = some v0 := (hc2 _ _ hz).trans hv0
      have p1 : w2.cell? ⟨w.heap.size, k * 2 + 1, none⟩ = some v1 := (hc2 _ _ hz).trans hv1
      have p2 : w2.frozen? ⟨w.heap.size, k * 2, none⟩ = false := (hf2 _ _ hz).trans q0.2
      have p3 : w2.frozen? ⟨w.heap.size, k * 2 + 1, none⟩ = false := (hf2 _ _ hz).trans q1.2
      go_wp2_with fail
      obtain ⟨u0, u1, u2, u3⟩ := putG (W := w2) (B := w.heap.size) (i := k * 2) (x := .string x) (y := .int .i64 z) (by rw [p0]; rfl) (by rw [p1]; rfl)
      refine ⟨⟨k + 1, by go_num, by omega, ?_, ?_, ?_, ?_⟩, by simp only [intOf]; omega⟩
      · refine hide fun i hi => ?_
        by_cases e : i = k
        · subst e
          rw [HX.out, HZ.out, Nat.zero_add]
          exact ⟨u0, u1⟩
        · obtain ⟨g0, g1⟩ := HG.out i (by omega)
          rw [Nat.zero_add] at g0 g1 ⊢
          exact ⟨(u2 _ (by omega) (by omega)).trans ((hc2 _ _ hz).trans g0), (u2 _ (by omega) (by omega)).trans ((hc2 _ _ hz).trans g1)⟩
      · refine hide fun j hj => ⟨?_, (u3 _).trans ((hf2 _ _ hz).trans (HJ.out j hj).2)⟩
        by_cases e0 : j = k * 2
        · subst e0; rw [u0]; rfl
        · by_cases e1 : j = k * 2 + 1
          · subst e1; rw [u1]; rfl
          · rw [u2 j e0 e1, hc2 _ _ hz]; exact (HJ.out j hj).1
      · exact ((hB.trans (hb2.mono (by omega))).setCell (Nat.le_refl _) _).setCell (Nat.le_refl _) _
      · have := hb2.size; simp; omega
    · have hke : k = n := by omega
      subst hke
      have HG' := HG.out
      rw [← HN.out] at HG'
      have HGG := hide HG'
      clear hmk HG'
      go_wp2_with fail
      go_ret
      exact ⟨rfl, hB, hz, HGG.out.row hz⟩

theorem heldG {w w1 w2 : World} {b c i o o' : Nat} {v0 v1 v2 v3 : Value} (hb : b < w.heap.size) (hc : c < w.heap.size)
    (s : w1.cell? ⟨b, o, none⟩ = some v0 ∧ w1.cell? ⟨b, o + 1, none⟩ = some v1 ∧ w1.cell? ⟨c, o', none⟩ = some v2 ∧ w1.cell? ⟨c, o' + 1, none⟩ = some v3 ∧ Below w.heap.size w w1 ∧ w.heap.size ≤ w1.heap.size) (hb2 : Below w1.heap.size w1 w2) (_ : i = i) :
    w2.cell? ⟨b, o, none⟩ = some v0 ∧ w2.cell? ⟨b, o + 1, none⟩ = some v1 ∧ w2.cell? ⟨c, o', none⟩ = some v2 ∧ w2.cell? ⟨c, o' + 1, none⟩ = some v3 ∧ Below w.heap.size w w2 ∧ w.heap.size ≤ w2.heap.size := by
  obtain ⟨s0, s1, s2, s3, s4, s5⟩ := s
  obtain ⟨h, _⟩ := bcell hb2
  exact ⟨(h _ _ (by omega)).trans s0, (h _ _ (by omega)).trans s1, (h _ _ (by omega)).trans s2, (h _ _ (by omega)).trans s3, s4.trans (hb2.mono s5), Nat.le_trans s5 hb2.size⟩

set_option maxHeartbeats 2000000 in
theorem eqG_same (b c cap cap' n : Nat) (gs : List Gd) (w : World) (hn : gs.length = n) (hlen : n ≤ 1048576) (h1 : GRow w (some ⟨b, 0, none⟩) gs) (h2 : GRow w (some ⟨c, 0, none⟩) gs) :
    Calls Tryd.prog 22 #[.slice (some ⟨b, 0, none⟩) n cap, .slice (some ⟨c, 0, none⟩) n cap'] w fun e w' => e = .returned (.bool true) ∧ Below w.heap.size w w' := by
  have hne : ((n : Int) != (n : Int)) = false := by simp
  have H1 := hide h1
  have H2 := hide h2
  have HN := hide hn
  clear h1 h2 hn
  go_enter Tryd.func22, Tryd.ntmps22
  go_wp2_with fail
  go_loopw [5] (fun s wr => ∃ (k : Nat), s = .int .i64 k ∧ k ≤ n ∧ Below w.heap.size w wr ∧ w.heap.size ≤ wr.heap.size) (fun s _ => n - (intOf s).toNat)
  case atStart => exact ⟨0, rfl, Nat.zero_le _, Below.refl _ _, Nat.le_refl _⟩
  case round =>
    obtain ⟨k, rfl, hk, hB, hz⟩ := hrel
    by_cases hlt : k < n
    · obtain ⟨b', o', e1, hb, r0, r1⟩ := H1.out.at (i := k) (by rw [HN.out]; exact hlt)
      cases e1
      obtain ⟨c', o'', e2, hc, s0, s1⟩ := H2.out.at (i := k) (by rw [HN.out]; exact hlt)
      cases e2
      have r0' := (hB.cell (p := ⟨b, 0 + k * 2, none⟩) hb).trans r0
      have r1' := (hB.cell (p := ⟨b, 0 + k * 2 + 1, none⟩) hb).trans r1
      have s0' := (hB.cell (p := ⟨c, 0 + k * 2, none⟩) hc).trans s0
      have s1' := (hB.cell (p := ⟨c, 0 + k * 2 + 1, none⟩) hc).trans s1
      simp only [Nat.zero_add] at r0' r1' s0' s1'
      generalize (gs.getD k gd0).1 = x at *
      generalize (gs.getD k gd0).2 = z at *
      clear r0 r1 s0 s1
      have i0 : (0 : Int) ≤ (k : Int) := by omega
      have i1 : (k : Int) < (n : Int) := by omega
      go_wp2_with fail
      go_region_held3 (fun w' => w'.cell? ⟨b, k * 2, none⟩ = some (.string x) ∧ w'.cell? ⟨b, k * 2 + 1, none⟩ = some (.int .i64 z) ∧ w'.cell? ⟨c, k * 2, none⟩ = some (.string x) ∧ w'.cell? ⟨c, k * 2 + 1, none⟩ = some (.int .i64 z) ∧ Below w.heap.size w w' ∧ w.heap.size ≤ w'.heap.size)
        (first | exact ⟨r0', r1', s0', s1', hB.drew, hz⟩ | assumption | exact heldG (i := k) hb hc ‹_› (by assumption) rfl)
        (first
        | (go_at_call 41; refine (eqGood_same _ _ _).mono ?_; rintro e w1 ⟨rfl, hb1⟩))
      go_wp2_with fail
      obtain ⟨_, _, _, _, hB2, hz2⟩ := ‹_ ∧ _ ∧ _ ∧ _ ∧ _ ∧ _›
      exact ⟨⟨k + 1, by go_num, by omega, hB2, hz2⟩, by simp only [intOf]; omega⟩
    · go_wp2_with fail
      go_ret
      exact ⟨rfl, hB⟩
end Go.Proofs.YtogkbidphdpjaaaDoor
