/-
  At any goods and lines ProfileOf answers as the model does: the law's walk, at every length.
-/
import Derived.Test.YtkmdoifinobdkaaLPo
import Derived.Test.YtkmdoifinobdkaaNf
namespace Go.Proofs.Ytkmdoifinobdkaa
open Go.RowKit

theorem poans_none {f n n' : Nat} {gs : List Gd} {ls : List (Int × Int)} (h : ∀ (W : World) (b b' : Nat), Short gs → GRow W (some ⟨b, 0, none⟩) gs → LRow W (some ⟨b', 0, none⟩) ls →
    Calls Try.prog f #[.slice (some ⟨b, 0, none⟩) n n, .slice (some ⟨b', 0, none⟩) n' n'] W fun e w' => e = .returned (.tuple #[.agg #[.slice none 0 0, .slice none 0 0], .bool false]) ∧ Below W.heap.size W w') : PoAns f n n' 0 false gs ls [] [] := fun W b b' h1 h2 h3 =>
  (h W b b' h1 h2 h3).mono fun _ _ ⟨he, hb⟩ => ⟨_, _, he, hb, ⟨rfl, Or.inl ⟨rfl, rfl⟩⟩, ⟨rfl, Or.inl ⟨rfl, rfl⟩⟩, fun g hg => by cases hg⟩
theorem poans_some {f n n' : Nat} {gs : List Gd} {ls : List (Int × Int)} {R1 R2 : List Int} (h : ∀ (W : World) (b b' : Nat), Short gs → GRow W (some ⟨b, 0, none⟩) gs → LRow W (some ⟨b', 0, none⟩) ls →
    Calls Try.prog f #[.slice (some ⟨b, 0, none⟩) n n, .slice (some ⟨b', 0, none⟩) n' n'] W fun e w' => Below W.heap.size W w' ∧ ∃ x y, e = .returned (.tuple #[.agg #[.slice (some ⟨x, 0, none⟩) n n, .slice (some ⟨y, 0, none⟩) n n], .bool true]) ∧ x ≠ y ∧ w'.ownsRow W.heap.size 3 1 (.slice (some ⟨x, 0, none⟩) n n) n (ints R1) ∧ w'.ownsRow W.heap.size 3 1 (.slice (some ⟨y, 0, none⟩) n n) n (ints R2)) : PoAns f n n' n true gs ls R1 R2 := fun W b b' h1 h2 h3 =>
  (h W b b' h1 h2 h3).mono fun _ _ ⟨hb, x, y, he, hne, o1, o2⟩ => ⟨_, _, he, hb, o1, o2, fun g hg hg' => by
    simp [Value.ownBlock] at hg hg'
    omega⟩
set_option maxHeartbeats 1000000 in
theorem lPo_long {a a' : Option Addr} {n c n' c' : Nat} {w : World} (hm : n ≤ maxLen) (h : 1048576 < n) :
    Calls Try.prog 4 #[.slice a n c, .slice a' n' c'] w fun e w' => e = .returned (.bool true) ∧ Below w.heap.size w w' := by
  go_enter Try.func4, Try.ntmps4
  go_wp2_with fail
  refine (szG_long (by omega) (by omega) hm (by omega)).mono ?_
  rintro e w1 ⟨rfl, rfl⟩
  go_wp2_with fail
  go_ret
  exact ⟨rfl, Below.refl _ _⟩
theorem lPo_walk {a a' : Option Addr} {c c' : Nat} {gs : List Gd} {ls : List (Int × Int)} {w : World} (hm : gs.length ≤ maxLen) (hm' : ls.length ≤ maxLen) (hf : Fits gs) (hr : GRow w a gs) (hl : LRow w a' ls) :
    Calls Try.prog 4 #[.slice a gs.length c, .slice a' ls.length c'] w fun e w' => e = .returned (.bool true) ∧ Below w.heap.size w w' := by
  by_cases h : gs.length ≤ 1048576
  · cases hg : goodsB gs with
    | false =>
      exact lPo_short (r := 0) (ok := false) (R1 := []) (R2 := []) rfl rfl h hm' rfl rfl (by omega) hf hr hl
        (hide (poans_none fun W b b' h1 h2 h3 => spo_bad1 rfl h (Nat.le_refl _) h1 h2 hg)) (hide (poans_none fun W b b' h1 h2 h3 => po_bad1 rfl (Nat.le_refl _) h1 h2 hg))
    | true =>
      cases hlb : linesB gs.length ls with
      | false =>
      exact lPo_short (r := 0) (ok := false) (R1 := []) (R2 := []) rfl rfl h hm' rfl rfl (by omega) hf hr hl
          (hide (poans_none fun W b b' h1 h2 h3 => spo_bad2 rfl h (Nat.le_refl _) h1 h2 hg rfl h3 hlb)) (hide (poans_none fun W b b' h1 h2 h3 => po_bad2 rfl (Nat.le_refl _) h1 h2 hg rfl h3 hlb))
      | true =>
        have h12 := goodsB_len hg
        exact lPo_short (r := gs.length) (ok := true) rfl rfl h hm' (picks_len _ _) (flow_len _ _) (by omega) hf hr hl
          (hide (poans_some fun W b b' h1 h2 h3 => spo_good rfl h (Nat.le_refl _) h1 h2 hg rfl h3 hlb)) (hide (poans_some fun W b b' h1 h2 h3 => po_good rfl (Nat.le_refl _) h1 h2 hg rfl h3 hlb))
  · exact lPo_long hm (by omega)
end Go.Proofs.Ytkmdoifinobdkaa
