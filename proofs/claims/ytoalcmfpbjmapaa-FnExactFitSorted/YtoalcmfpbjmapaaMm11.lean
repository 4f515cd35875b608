/-
  Lists of spots that are one's own, carried through the laws of chapter 10.
-/
import Derived.Test.YtoalcmfpbjmapaaHl11
import Derived.Test.YtoalcmfpbjmapaaJm10
import Derived.Test.YtoalcmfpbjmapaaSk
namespace Go.Proofs.Ytoalcmfpbjmapaa
open Go.RowKit

/-- A list of spots in a block from lo on and below hi, or none. -/
def MO (w : World) (lo hi : Nat) (v : Value) (n : Nat) (L : List (Int × Int)) : Prop :=
  hi ≤ w.heap.size ∧ L.length = n ∧ ((n = 0 ∧ ∃ a c, v = .slice a 0 c) ∨ ∃ g cap, v = .slice (some ⟨g, 0, none⟩) n cap ∧ lo ≤ g ∧ g < hi ∧ FAt w g 0 L ∧ LooseF w g (n * 2))
theorem MO.below {w w' : World} {lo hi n : Nat} {v : Value} {L : List (Int × Int)} (h : MO w lo hi v n L) (hb : Below w.heap.size w w') : MO w' lo hi v n L := by
  obtain ⟨h1, h2, h3⟩ := h
  refine ⟨Nat.le_trans h1 hb.size, h2, ?_⟩
  rcases h3 with h3 | ⟨g, cap, e, a1, a2, a3, a4⟩
  · exact Or.inl h3
  · exact Or.inr ⟨g, cap, e, a1, a2, a3.below hb (by omega), a4.below hb⟩
theorem FAt.keep {w w' : World} {b off : Nat} {xs : List (Int × Int)} (h : FAt w b off xs) (hb : w'.heap[b]? = w.heap[b]?) : FAt w' b off xs :=
  fun i hi => ⟨(World.cell?_of_block (w := w) (a := ⟨b, off + i * 2, none⟩) hb).trans (h i hi).1, (World.cell?_of_block (w := w) (a := ⟨b, off + i * 2 + 1, none⟩) hb).trans (h i hi).2⟩
theorem LooseF.keep {w w' : World} {B m : Nat} (h : LooseF w B m) (hb : w'.heap[B]? = w.heap[B]?) : LooseF w' B m := fun j hj =>
  ⟨by rw [World.cell?_of_block (w := w) (a := ⟨B, j, none⟩) hb]; exact (h j hj).1, (World.frozen?_of_block (w := w) (a := ⟨B, j, none⟩) hb).trans (h j hj).2⟩
/-- Another one's block has been written. -/
theorem MO.grown {w w' : World} {lo hi n : Nat} {v : Value} {L : List (Int × Int)} {q : Option Nat} (h : MO w lo hi v n L) (hg : w.grownBy w' q) (hq : ∀ b, q = some b → hi ≤ b ∨ b < lo) : MO w' lo hi v n L := by
  obtain ⟨h1, h2, h3⟩ := h
  refine ⟨Nat.le_trans h1 hg.size, h2, ?_⟩
  rcases h3 with h3 | ⟨g, cap, e, a1, a2, a3, a4⟩
  · exact Or.inl h3
  · have hb : w'.heap[g]? = w.heap[g]? := hg.block g (by omega) (fun e => by have := hq g e.symm; omega)
    exact Or.inr ⟨g, cap, e, a1, a2, a3.keep hb, a4.keep hb⟩
theorem MO.row {w : World} {lo hi n : Nat} {v : Value} {L : List (Int × Int)} (h : MO w lo hi v n L) : ∃ a c, v = .slice a n c ∧ FRow w a L := by
  obtain ⟨h1, h2, h3⟩ := h
  rcases h3 with ⟨h0, a, c, rfl⟩ | ⟨g, cap, rfl, a1, a2, a3, _⟩
  · subst h0; exact ⟨a, c, rfl, Or.inl (List.length_eq_zero_iff.1 h2)⟩
  · exact ⟨_, cap, rfl, a3.row (by omega)⟩
theorem AV.grownQ {w w' : World} {lo hi n : Nat} {v : Value} {xs : List Int} {q : Option Nat} (h : AV w lo hi v n xs) (hg : w.grownBy w' q) (hq : ∀ b, q = some b → hi ≤ b ∨ b < lo) : AV w' lo hi v n xs :=
  ⟨own_keep h.1 fun g hv hl => hg.block g hl fun e => by have h1 := h.1.lt g hv; have h2 := h.2.1 g hv; have := hq g e.symm; omega, h.2.1, Nat.le_trans h.2.2 hg.size⟩
theorem AV.at_ {w : World} {lo hi n : Nat} {v : Value} {xs : List Int} (h : AV w lo hi v n xs) : ∀ b, v.ownBlock = some b → lo ≤ b ∧ b < hi := fun b e => ⟨(h.1.lt b e).1, h.2.1 b e⟩
theorem AV.row {w : World} {lo hi n : Nat} {v : Value} {xs : List Int} (hx : xs.length = n) (h : AV w lo hi v n xs) : ∃ a c, v = .slice a n c ∧ ARow w a xs := own_row hx h.1
/-- Where a list of spots may be written. -/
def moB (v : Value) (n : Nat) : Option Nat := if n = 0 then none else v.ownBlock
theorem MO.at_ {w : World} {lo hi n : Nat} {v : Value} {L : List (Int × Int)} (h : MO w lo hi v n L) : ∀ b, moB v n = some b → lo ≤ b ∧ b < hi := fun b e => by
  unfold moB at e
  split at e
  · cases e
  · rename_i h0
    rcases h.2.2 with ⟨h3, _⟩ | ⟨g, cap, rfl, a1, a2, _⟩
    · exact absurd h3 h0
    · simp [Value.ownBlock] at e; omega
theorem grown_under10 {w w' : World} {q : Option Nat} {k : Nat} (hg : w.grownBy w' q) (hq : ∀ b, q = some b → k ≤ b) (hs : k ≤ w.heap.size) : Below k w w' :=
  ⟨hg.os, hg.tape, hg.output, hg.size, fun b hb => hg.block b (by omega) fun e => by have := hq b e.symm; omega⟩
/-- What is held: it counts on from k. -/
def MH (w : World) (v : Value) (n : Nat) (k : Int) : Prop := (n = 0 ∧ ∃ a c, v = .slice a 0 c) ∨ ∃ g cap, v = .slice (some ⟨g, 0, none⟩) n cap ∧ g < w.heap.size ∧ ∀ j : Nat, j < n * 2 → w.cell? ⟨g, j, none⟩ = some (.int .i64 (k + (j : Int)))
theorem MH.below {w w' : World} {v : Value} {n : Nat} {k : Int} (h : MH w v n k) (hb : Below w.heap.size w w') : MH w' v n k := by
  rcases h with h | ⟨g, cap, e, hl, hc⟩
  · exact Or.inl h
  · exact Or.inr ⟨g, cap, e, Nat.lt_of_lt_of_le hl hb.size, fun j hj => (hb.cell (p := ⟨g, j, none⟩) hl).trans (hc j hj)⟩
theorem to_av {a : Option Addr} {n c : Nat} {xs : List Int} {w : World} (hx : xs.length = n) (hn : n ≤ 1048576) (ha : ARow w a xs) :
    Calls Try.prog 10 #[.slice a n c] w fun e w' => ∃ b, e = .returned (.slice (some ⟨b, 0, none⟩) n n) ∧ Below w.heap.size w w' ∧ AV w' w.heap.size w'.heap.size (.slice (some ⟨b, 0, none⟩) n n) n xs :=
  (toI_own a c n xs w hx hn ha).mono fun _ _ ⟨he, hb, _, ho⟩ => ⟨_, he, hb, AV.new ho⟩
theorem av_at {w : World} {lo hi n b c : Nat} {xs : List Int} (hx : xs.length = n) (h : AV w lo hi (.slice (some ⟨b, 0, none⟩) n c) n xs) : ARow w (some ⟨b, 0, none⟩) xs := arow_owns hx.symm h.1
end Go.Proofs.Ytoalcmfpbjmapaa
