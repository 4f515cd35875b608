/-
  Lists carried through the laws of chapter 14.
-/
import Derived.Test.YticekgjgknfloaaJm10
namespace Go.Proofs.Yticekgjgknfloaa
open Go.RowKit

theorem AV.grownQ {w w' : World} {lo hi n : Nat} {v : Value} {xs : List Int} {q : Option Nat} (h : AV w lo hi v n xs) (hg : w.grownBy w' q) (hq : ∀ b, q = some b → hi ≤ b ∨ b < lo) : AV w' lo hi v n xs :=
  ⟨own_keep h.1 fun g hv hl => hg.block g hl fun e => by have h1 := h.1.lt g hv; have h2 := h.2.1 g hv; have := hq g e.symm; omega, h.2.1, Nat.le_trans h.2.2 hg.size⟩
theorem AV.at_ {w : World} {lo hi n : Nat} {v : Value} {xs : List Int} (h : AV w lo hi v n xs) : ∀ b, v.ownBlock = some b → lo ≤ b ∧ b < hi := fun b e => ⟨(h.1.lt b e).1, h.2.1 b e⟩
theorem AV.row {w : World} {lo hi n : Nat} {v : Value} {xs : List Int} (hx : xs.length = n) (h : AV w lo hi v n xs) : ∃ a c, v = .slice a n c ∧ ARow w a xs := own_row hx h.1
theorem grown_under10 {w w' : World} {q : Option Nat} {k : Nat} (hg : w.grownBy w' q) (hq : ∀ b, q = some b → k ≤ b) (hs : k ≤ w.heap.size) : Below k w w' :=
  ⟨hg.os, hg.tape, hg.output, hg.size, fun b hb => hg.block b (by omega) fun e => by have := hq b e.symm; omega⟩
theorem to_av {a : Option Addr} {n c : Nat} {xs : List Int} {w : World} (hx : xs.length = n) (hn : n ≤ 1048576) (ha : ARow w a xs) :
    Calls Try.prog 15 #[.slice a n c] w fun e w' => ∃ b, e = .returned (.slice (some ⟨b, 0, none⟩) n n) ∧ Below w.heap.size w w' ∧ AV w' w.heap.size w'.heap.size (.slice (some ⟨b, 0, none⟩) n n) n xs :=
  (toI_own a c n xs w hx hn ha).mono fun _ _ ⟨he, hb, _, ho⟩ => ⟨_, he, hb, AV.new ho⟩
theorem av_at {w : World} {lo hi n b c : Nat} {xs : List Int} (hx : xs.length = n) (h : AV w lo hi (.slice (some ⟨b, 0, none⟩) n c) n xs) : ARow w (some ⟨b, 0, none⟩) xs := arow_owns hx.symm h.1
end Go.Proofs.Yticekgjgknfloaa
