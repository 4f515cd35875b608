/-
  At any goods and lines ProfileOf answers as the model does: the law's walk, at every length.
-/
import Derived.Test.YtogkbidphdpjaaaLPo
import Derived.Test.YtogkbidphdpjaaaNf
namespace Go.Proofs.Ytogkbidphdpjaaa
open Go.RowKit

theorem poans_none {f n n' : Nat} {gs : List Gd} {ls : List (Int × Int)} (h : ∀ (W : World) (b b' : Nat), Short gs → GRow W (some ⟨b, 0, none⟩) gs → LRow W (some ⟨b', 0, none⟩) ls →
    Calls Try.prog f #[.slice (some ⟨b, 0, none⟩) n n, .slice (some ⟨b', 0, none⟩) n' n'] W fun e w' => e = .returned (.tuple #[.agg #[.slice none 0 0, .slice none 0 0], .bool false]) ∧ Below W.heap.size W w') : PoAns f n n' 0 false gs ls [] [] := fun W b b' h1 h2 h3 =>
  (h W b b' h1 h2 h3).mono fun _ _ ⟨he, hb⟩ => ⟨_, _, he, hb, ⟨rfl, Or.inl ⟨rfl, rfl⟩⟩, ⟨rfl, Or.inl ⟨rfl, rfl⟩⟩, fun g hg => by cases hg⟩
theorem poans_some {f n n' : Nat} {gs : List Gd} {ls : List (Int × Int)} {R1 R2 : List Int} (h : ∀ (W : World) (b b' : Nat), Short gs → GRow W (some ⟨b, 0, none⟩) gs → LRow W (some ⟨b', 0, none⟩) ls →
    Calls Try.prog f #[.slice (some ⟨b, 0, none⟩) n n, .slice (some ⟨b', 0, none⟩) n' n'] W fun e w' => Below W.heap.size W w' ∧ ∃ x y, e = .returned (.tuple #[.agg #[.slice (some ⟨x, 0, none⟩) n n, .slice (some ⟨y, 0, none⟩) n n], .bool true]) ∧ x ≠ y ∧ w'.ownsRow W.heap.size 3 1 (.slice (some ⟨x, 0, none⟩) n n) n (ints R1) ∧ w'.ownsRow W.heap.size 3 1 (.slice (some ⟨y, 0, none⟩) n n) n (ints R2)) : PoAns f n n' n true gs ls R1 R2 := fun W b b' h1 h2 h3 =>
  (h W b b' h1 h2 h3).mono fun _ _ ⟨hb, x, y, he, hne, o1, o2⟩ => ⟨_, _, he, hb, o1, o2, fun g hg hg' => by
    simp [Value.ownBlock] at hg hg'
    omega⟩
end Go.Proofs.Ytogkbidphdpjaaa
