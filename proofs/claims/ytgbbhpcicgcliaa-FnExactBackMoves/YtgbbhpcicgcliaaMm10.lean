/-
  Lists of moves that are one's own, carried through the laws of chapter 10.
-/
import Derived.Test.YtgbbhpcicgcliaaHl10
import Derived.Test.YtgbbhpcicgcliaaJm10
import Derived.Test.YtgbbhpcicgcliaaSk
namespace Go.Proofs.Ytgbbhpcicgcliaa
open Go.RowKit

/-- A list of moves in a block from lo on and below hi, or none. -/
def MO (w : World) (lo hi : Nat) (v : Value) (n : Nat) (L : List (Int × Int)) : Prop :=
  hi ≤ w.heap.size ∧ L.length = n ∧ ((n = 0 ∧ ∃ a c, v = .slice a 0 c) ∨ ∃ g cap, v = .slice (some ⟨g, 0, none⟩) n cap ∧ lo ≤ g ∧ g < hi ∧ FAt w g 0 L ∧ LooseF w g (n * 2))
theorem MO.below {w w' : World} {lo hi n : Nat} {v : Value} {L : List (Int × Int)} (h : MO w lo hi v n L) (hb : Below w.heap.size w w') : MO w' lo hi v n L := by
  obtain ⟨h1, h2, h3⟩ := h
  refine ⟨Nat.le_trans h1 hb.size, h2, ?_⟩
  rcases h3 with h3 | ⟨g, cap, e, a1, a2, a3, a4⟩
  · exact Or.inl h3
  · exact Or.inr ⟨g, cap, e, a1, a2, a3.below hb (by omega), a4.below hb⟩
theorem FAt.keep {w w' : World} {b off : Nat} {xs : List (Int × Int)} (h : FAt w b off xs) (hb : w'.heap[b]? = w.heap[b]?) : FAt w' b off xs :=
  fun i hi => ⟨(World.cell?_of_block (w := w) (a := ⟨b, off + i * 2, none⟩) hb).trans (h i hi).1, (World.cell?_of_block (w := w) (a := ⟨b, off + i * 2 + 1, none⟩) hb).trans (h i hi).2⟩
theorem LooseF.keep {w w' : World} {B m : Nat} (h : LooseF w B m) (hb : w'.heap[B]? = w.heap[B]?) : LooseF w' B m := fun j hj =>
  ⟨by rw [World.cell?_of_block (w := w) (a := ⟨B, j, none⟩) hb]; exact (h j hj).1, (World.frozen?_of_block (w := w) (a := ⟨B, j, none⟩) hb).trans (h j hj).2⟩
/-- Another one's block has been written. -/
theorem MO.grown {w w' : World} {lo hi n : Nat} {v : Value} {L : List (Int × Int)} {q : Option Nat} (h : MO w lo hi v n L) (hg : w.grownBy w' q) (hq : ∀ b, q = some b → hi ≤ b ∨ b < lo) : MO w' lo hi v n L := by
  obtain ⟨h1, h2, h3⟩ := h
  refine ⟨Nat.le_trans h1 hg.size, h2, ?_⟩
  rcases h3 with h3 | ⟨g, cap, e, a1, a2, a3, a4⟩
  · exact Or.inl h3
  · have hb : w'.heap[g]? = w.heap[g]? := hg.block g (by omega) (fun e => by have := hq g e.symm; omega)
    exact Or.inr ⟨g, cap, e, a1, a2, a3.keep hb, a4.keep hb⟩
theorem MO.row {w : World} {lo hi n : Nat} {v : Value} {L : List (Int × Int)} (h : MO w lo hi v n L) : ∃ a c, v = .slice a n c ∧ FRow w a L := by
  obtain ⟨h1, h2, h3⟩ := h
  rcases h3 with ⟨h0, a, c, rfl⟩ | ⟨g, cap, rfl, a1, a2, a3, _⟩
  · subst h0; exact ⟨a, c, rfl, Or.inl (List.length_eq_zero_iff.1 h2)⟩
  · exact ⟨_, cap, rfl, a3.row (by omega)⟩
theorem AV.grownQ {w w' : World} {lo hi n : Nat} {v : Value} {xs : List Int} {q : Option Nat} (h : AV w lo hi v n xs) (hg : w.grownBy w' q) (hq : ∀ b, q = some b → hi ≤ b ∨ b < lo) : AV w' lo hi v n xs :=
  ⟨own_keep h.1 fun g hv hl => hg.block g hl fun e => by have h1 := h.1.lt g hv; have h2 := h.2.1 g hv; have := hq g e.symm; omega, h.2.1, Nat.le_trans h.2.2 hg.size⟩
theorem AV.at_ {w : World} {lo hi n : Nat} {v : Value} {xs : List Int} (h : AV w lo hi v n xs) : ∀ b, v.ownBlock = some b → lo ≤ b ∧ b < hi := fun b e => ⟨(h.1.lt b e).1, h.2.1 b e⟩
theorem AV.row {w : World} {lo hi n : Nat} {v : Value} {xs : List Int} (hx : xs.length = n) (h : AV w lo hi v n xs) : ∃ a c, v = .slice a n c ∧ ARow w a xs := own_row hx h.1
/-- Where a list of moves may be written. -/
def moB (v : Value) (n : Nat) : Option Nat := if n = 0 then none else v.ownBlock
theorem MO.at_ {w : World} {lo hi n : Nat} {v : Value} {L : List (Int × Int)} (h : MO w lo hi v n L) : ∀ b, moB v n = some b → lo ≤ b ∧ b < hi := fun b e => by
  unfold moB at e
  split at e
  · cases e
  · rename_i h0
    rcases h.2.2 with ⟨h3, _⟩ | ⟨g, cap, rfl, a1, a2, _⟩
    · exact absurd h3 h0
    · simp [Value.ownBlock] at e; omega
theorem grown_under10 {w w' : World} {q : Option Nat} {k : Nat} (hg : w.grownBy w' q) (hq : ∀ b, q = some b → k ≤ b) (hs : k ≤ w.heap.size) : Below k w w' :=
  ⟨hg.os, hg.tape, hg.output, hg.size, fun b hb => hg.block b (by omega) fun e => by have := hq b e.symm; omega⟩
/-- What is held: it counts on from k. -/
def MH (w : World) (v : Value) (n : Nat) (k : Int) : Prop := (n = 0 ∧ ∃ a c, v = .slice a 0 c) ∨ ∃ g cap, v = .slice (some ⟨g, 0, none⟩) n cap ∧ g < w.heap.size ∧ ∀ j : Nat, j < n * 2 → w.cell? ⟨g, j, none⟩ = some (.int .i64 (k + (j : Int)))
theorem MH.below {w w' : World} {v : Value} {n : Nat} {k : Int} (h : MH w v n k) (hb : Below w.heap.size w w') : MH w' v n k := by
  rcases h with h | ⟨g, cap, e, hl, hc⟩
  · exact Or.inl h
  · exact Or.inr ⟨g, cap, e, Nat.lt_of_lt_of_le hl hb.size, fun j hj => (hb.cell (p := ⟨g, j, none⟩) hl).trans (hc j hj)⟩
set_option maxHeartbeats 400000 in
theorem markM_zero (a : Option Addr) (c : Nat) (k : Int) (w : World) :
    Calls Try.prog 9 #[.slice a 0 c, .int .i64 k] w fun e w' => e = .returned (.int .i64 k) ∧ w' = w := by
  go_enter Try.func9, Try.ntmps9
  go_wp2_with fail
  go_loop [1, 5] (fun s t => s = .int .i64 k ∧ t = .int .i64 0) (fun s t => 0)
  case atStart => exact ⟨rfl, rfl⟩
  case round =>
    obtain ⟨rfl, rfl⟩ := hrel
    go_wp2_with fail
    go_ret
    exact ⟨rfl, rfl⟩
theorem mark_cells {W : World} {B i : Nat} {k z : Int} (h : ∀ j : Nat, j < i → W.cell? ⟨B, j, none⟩ = some (.int .i64 (k + (j : Int)))) (hi : (W.cell? ⟨B, i, none⟩).isSome = true) (hz : z = k + (i : Int)) : ∀ j : Nat, j < i + 1 → (W.setCell ⟨B, i, none⟩ (.int .i64 z)).cell? ⟨B, j, none⟩ = some (.int .i64 (k + (j : Int))) := fun j hj => by
  by_cases e : j = i
  · subst e; subst hz; exact setF1 hi
  · rw [World.cell?_setCell_other _ _ _ _ (fun e' => e (by injection e' with _ e2; exact e2.symm))]; exact h j (by omega)
set_option maxHeartbeats 1000000 in
theorem markM_some (B n cap : Nat) (k : Int) (w : World) (hn : n ≤ 1048576) (k0 : 0 < k) (k1 : k ≤ 900000000) (hl : LooseF w B (n * 2)) :
    Calls Try.prog 9 #[.slice (some ⟨B, 0, none⟩) n cap, .int .i64 k] w fun e w' => e = .returned (.int .i64 (k + n * 2)) ∧ w.grownBy w' (some B) ∧ ∀ j : Nat, j < n * 2 → w'.cell? ⟨B, j, none⟩ = some (.int .i64 (k + (j : Int))) := by
  have HL := hide hl
  clear hl
  go_enter Try.func9, Try.ntmps9
  go_wp2_with fail
  go_loopw [1, 5] (fun s t wr => ∃ (i : Nat), t = .int .i64 i ∧ s = .int .i64 (k + i * 2) ∧ i ≤ n ∧ Hid (LooseF wr B (n * 2)) ∧ Hid (w.grownBy wr (some B)) ∧ Hid (∀ j : Nat, j < i * 2 → wr.cell? ⟨B, j, none⟩ = some (.int .i64 (k + (j : Int))))) (fun _ t _ => n - (intOf t).toNat)
  case atStart => exact ⟨0, rfl, by simp, Nat.zero_le _, HL, hide (World.grownBy.refl _ _), hide fun j hj => absurd hj (by omega)⟩
  case round =>
    obtain ⟨i, rfl, rfl, hi, HJ, hg, HC⟩ := hrel
    by_cases hlt : i < n
    · have i0 : (0 : Int) ≤ (i : Int) := by omega
      have i1 : (i : Int) < (n : Int) := by omega
      obtain ⟨q0, f0⟩ := HJ.out (i * 2) (by omega)
      obtain ⟨q1, f1⟩ := HJ.out (i * 2 + 1) (by omega)
      have HC1 := hide (mark_cells (z := k + (i : Int) * 2) HC.out q0 (by omega))
      have q1' := ((HJ.out.set (i := i * 2) (v := .int .i64 (k + (i : Int) * 2))) (i * 2 + 1) (by omega)).1
      have HC2 := hide (mark_cells (z := k + (i : Int) * 2 + 1) HC1.out q1' (by omega))
      obtain ⟨v0, c0⟩ := Option.isSome_iff_exists.1 q0
      obtain ⟨v1, c1⟩ := Option.isSome_iff_exists.1 q1
      clear q0 q1 q1' HC1
      go_wp2_with fail
      refine ⟨⟨i + 1, by go_num, by go_num, by omega, ?_, ?_, ?_⟩, by simp only [intOf]; omega⟩
      · exact hide (HJ.out.set.set)
      · exact hide (grownF_set (grownF_set hg.out))
      · exact hide fun j hj => HC2.out j (by omega)
    · have hin : i = n := by omega
      subst hin
      go_wp2_with fail
      go_ret
      exact ⟨rfl, hg.out, HC.out⟩
theorem mark_mo {w : World} {lo hi n : Nat} {v : Value} {L : List (Int × Int)} {k : Int} (hn : n ≤ 1048576) (k0 : 0 < k) (k1 : k ≤ 900000000) (h : MO w lo hi v n L) :
    Calls Try.prog 9 #[v, .int .i64 k] w fun e w' => e = .returned (.int .i64 (k + n * 2)) ∧ MH w' v n k ∧ w.grownBy w' (moB v n) := by
  rcases h.2.2 with ⟨h0, a, c, rfl⟩ | ⟨g, cap, rfl, a1, a2, a3, a4⟩
  · subst h0
    exact (markM_zero a c k w).mono fun e w' ⟨he, hw⟩ => ⟨by rw [he]; simp, Or.inl ⟨rfl, a, c, rfl⟩, hw ▸ World.grownBy.refl _ _⟩
  · by_cases h0 : n = 0
    · subst h0
      exact (markM_zero _ cap k w).mono fun e w' ⟨he, hw⟩ => ⟨by rw [he]; simp, Or.inl ⟨rfl, _, cap, rfl⟩, hw ▸ World.grownBy.refl _ _⟩
    · refine (markM_some g n cap k w hn k0 k1 a4).mono fun e w' ⟨he, hg, hc⟩ => ⟨he, Or.inr ⟨g, cap, rfl, ?_, hc⟩, ?_⟩
      · have := hg.size; have := h.1; omega
      · unfold moB; rw [if_neg h0]; exact hg
set_option maxHeartbeats 400000 in
theorem heldM_zero (a : Option Addr) (c : Nat) (k : Int) (w : World) :
    Calls Try.prog 10 #[.slice a 0 c, .int .i64 k] w fun e w' => e = .returned (.int .i64 k) ∧ w' = w := by
  go_enter Try.func10, Try.ntmps10
  go_wp2_with fail
  go_loop [1, 4, 5] (fun s _ t => s = .int .i64 k ∧ t = .int .i64 0) (fun s _ t => 0)
  case atStart => exact ⟨rfl, rfl⟩
  case round =>
    obtain ⟨rfl, rfl⟩ := hrel
    go_wp2_with fail
    go_ret
    exact ⟨rfl, rfl⟩
set_option maxHeartbeats 1000000 in
theorem heldM_some (B n cap : Nat) (k : Int) (w : World) (hn : n ≤ 1048576) (k0 : 0 < k) (k1 : k ≤ 900000000) (hl : ∀ j : Nat, j < n * 2 → w.cell? ⟨B, j, none⟩ = some (.int .i64 (k + (j : Int)))) :
    Calls Try.prog 10 #[.slice (some ⟨B, 0, none⟩) n cap, .int .i64 k] w fun e w' => e = .returned (.int .i64 (k + n * 2)) ∧ w' = w := by
  have HL := hide hl
  clear hl
  go_enter Try.func10, Try.ntmps10
  go_wp2_with fail
  go_loop [1, 4, 5] (fun s _ t => ∃ (i : Nat), t = .int .i64 i ∧ s = .int .i64 (k + i * 2) ∧ i ≤ n) (fun _ _ t => n - (intOf t).toNat)
  case atStart => exact ⟨0, rfl, by simp, Nat.zero_le _⟩
  case round =>
    obtain ⟨i, rfl, rfl, hi⟩ := hrel
    by_cases hlt : i < n
    · have i0 : (0 : Int) ≤ (i : Int) := by omega
      have i1 : (i : Int) < (n : Int) := by omega
      have c0 : w.cell? ⟨B, i * 2, none⟩ = some (.int .i64 (k + (i : Int) * 2)) := (HL.out (i * 2) (by omega)).trans (congrArg (fun z => some (Value.int .i64 z)) (by omega))
      have c1 : w.cell? ⟨B, i * 2 + 1, none⟩ = some (.int .i64 (k + (i : Int) * 2 + 1)) := (HL.out (i * 2 + 1) (by omega)).trans (congrArg (fun z => some (Value.int .i64 z)) (by omega))
      have n0 : (k + (i : Int) * 2 != k + (i : Int) * 2) = false := by simp
      have n1 : (k + (i : Int) * 2 + 1 != k + (i : Int) * 2 + 1) = false := by simp
      go_wp2_with fail
      go_round
      case rel => exact ⟨i + 1, by go_num, by go_num, by omega⟩
      case measure => simp only [intOf]; omega
    · have hin : i = n := by omega
      subst hin
      go_wp2_with fail
      go_ret
      exact ⟨rfl, rfl⟩
theorem held_mo {w : World} {n : Nat} {v : Value} {k : Int} (hn : n ≤ 1048576) (k0 : 0 < k) (k1 : k ≤ 900000000) (h : MH w v n k) :
    Calls Try.prog 10 #[v, .int .i64 k] w fun e w' => e = .returned (.int .i64 (k + n * 2)) ∧ w' = w := by
  rcases h with ⟨h0, a, c, rfl⟩ | ⟨g, cap, rfl, _, hc⟩
  · subst h0
    exact (heldM_zero a c k w).mono fun e w' ⟨he, hw⟩ => ⟨by rw [he]; simp, hw⟩
  · exact heldM_some g n cap k w hn k0 k1 hc
set_option maxHeartbeats 400000 in
theorem eqM_zero (a b : Option Addr) (c d : Nat) (w : World) :
    Calls Try.prog 8 #[.slice a 0 c, .slice b 0 d] w fun e w' => e = .returned (.bool true) ∧ w' = w := by
  go_enter Try.func8, Try.ntmps8
  go_wp2_with fail
  go_loop [4, 5] (fun _ t => t = .int .i64 0) (fun s t => 0)
  case atStart => rfl
  case round =>
    subst hrel
    go_wp2_with fail
    go_ret
    exact ⟨rfl, rfl⟩
theorem eq_mo {w : World} {lo hi lo' hi' n : Nat} {v v' : Value} {L : List (Int × Int)} (hn : n ≤ 1048576) (h : MO w lo hi v n L) (h' : MO w lo' hi' v' n L) :
    Calls Try.prog 8 #[v, v'] w fun e w' => e = .returned (.bool true) ∧ Below w.heap.size w w' := by
  by_cases h0 : n = 0
  · subst h0
    obtain ⟨a, c, rfl, _⟩ := h.row
    obtain ⟨a', c', rfl, _⟩ := h'.row
    exact (eqM_zero a a' c c' w).mono fun e w' ⟨he, hw⟩ => ⟨he, hw ▸ Below.refl _ _⟩
  · rcases h.2.2 with ⟨h1, _⟩ | ⟨g, cap, rfl, _, a2, a3, _⟩
    · exact absurd h1 h0
    · rcases h'.2.2 with ⟨h1, _⟩ | ⟨g', cap', rfl, _, b2, b3, _⟩
      · exact absurd h1 h0
      · have e := h.2.1
        subst e
        have := h.1
        have := h'.1
        exact eqF_same g g' cap cap' L w hn (by omega) (by omega) a3 b3
theorem to_mo {a : Option Addr} {n c : Nat} {L : List (Int × Int)} {w : World} (hx : L.length = n) (hn : n ≤ 1048576) (ha : FRow w a L) :
    Calls Try.prog 6 #[.slice a n c] w fun e w' => ∃ b, e = .returned (.slice (some ⟨b, 0, none⟩) n n) ∧ Below w.heap.size w w' ∧ MO w' w.heap.size w'.heap.size (.slice (some ⟨b, 0, none⟩) n n) n L := by
  subst hx
  exact (toF_row a c L w hn ha).mono fun e w' ⟨he, hb, hl, h1, h2⟩ => ⟨_, he, hb, Nat.le_refl _, rfl, Or.inr ⟨w.heap.size, L.length, rfl, Nat.le_refl _, hl, h1, h2⟩⟩
theorem mo_at {w : World} {lo hi n b c : Nat} {L : List (Int × Int)} (h : MO w lo hi (.slice (some ⟨b, 0, none⟩) n c) n L) : FRow w (some ⟨b, 0, none⟩) L := by
  obtain ⟨a, c', e, r⟩ := h.row
  cases e
  exact r
end Go.Proofs.Ytgbbhpcicgcliaa
