/-
  At any list of goods GoodGoods answers as the model does: the law's own walk.
-/
import Derived.Test.YtkmdoifinobdkaaGt
namespace Go.Proofs.Ytkmdoifinobdkaa
open Go.RowKit

theorem short_of {gs : List Gd} {n : Nat} (hn : gs.length = n) (h : ∀ i, i < n → (gs.getD i gd0).1.size ≤ 1048576) : Short gs := fun i => by
  by_cases hi : i < n
  · exact h i hi
  · have : gs.getD i gd0 = gd0 := by simp [show gs.length ≤ i by omega]
    rw [this]; decide

set_option maxHeartbeats 400000 in
theorem lGoods_long {a : Option Addr} {n c : Nat} {w : World} (hm : n ≤ maxLen) (h : 1048576 < n) :
    Calls Try.prog 3 #[.slice a n c] w fun e w' => e = .returned (.bool true) ∧ Below w.heap.size w w' := by
  go_enter Try.func3, Try.ntmps3
  go_wp2_with fail
  refine (szG_long (by omega) (by omega) hm (by omega)).mono ?_
  rintro e w1 ⟨rfl, rfl⟩
  go_wp2_with fail
  go_ret
  exact ⟨rfl, Below.refl _ _⟩

set_option maxHeartbeats 4000000 in
theorem lGoods_short {a : Option Addr} {n c : Nat} {gs : List Gd} {w : World} (hn : gs.length = n) (h : n ≤ 1048576) (hf : Fits gs) (hr : GRow w a gs) :
    Calls Try.prog 3 #[.slice a n c] w fun e w' => e = .returned (.bool true) ∧ Below w.heap.size w w' := by
  have HR := hide hr
  have HN := hide hn
  have HF := hide hf
  have hne : (goodsB gs != goodsB gs) = false := by simp
  have HG : Hid (∀ W b c, n ≤ c → Short gs → GRow W (some ⟨b, 0, none⟩) gs → Calls Try.prog 8 #[.slice (some ⟨b, 0, none⟩) n c] W fun e w' => e = .returned (.bool (goodsB gs)) ∧ Below W.heap.size W w') := hide fun W b c h1 h2 h3 => gg_any hn h1 h2 h3
  have HS : Hid (∀ W b c, n ≤ c → Short gs → GRow W (some ⟨b, 0, none⟩) gs → Calls Try.prog 6 #[.slice (some ⟨b, 0, none⟩) n c] W fun e w' => e = .returned (.bool (goodsB gs)) ∧ Below W.heap.size W w') := hide fun W b c h1 h2 h3 => sgg_any hn h h1 h2 h3
  generalize goodsB gs = G at hne HG HS
  clear hr hn hf
  go_enter Try.func3, Try.ntmps3
  go_wp2_with fail
  refine (szG_any HN.out (by omega) (by omega) (by omega) HF.out HR.out).mono ?_
  rintro e w1 ⟨r, rfl, hr1, hr2, hb1⟩
  rcases hr2 with rfl | ⟨hr0, hsh⟩
  · go_wp2_with fail
    go_ret
    exact ⟨rfl, hb1⟩
  · have HSh := hide (short_of HN.out hsh)
    have hr3 : ¬ r < 0 := by omega
    clear hsh
    go_wp2_with fail
    refine (toG_row a c n gs _ HN.out h (HR.out.below hb1)).mono ?_
    rintro e w2 ⟨rfl, hb2, z2, row2⟩
    have R2 := hide row2
    have hB2 := hb1.trans (hb2.mono hb1.size)
    clear row2
    go_wp2_with fail
    refine (HS.out _ _ _ (Nat.le_refl _) HSh.out R2.out).mono ?_
    rintro e w3 ⟨rfl, hb3⟩
    have hB3 := hB2.trans (hb3.mono hB2.size)
    clear R2
    go_wp2_with fail
    refine (toG_row a c n gs _ HN.out h (HR.out.below hB3)).mono ?_
    rintro e w4 ⟨rfl, hb4, z4, row4⟩
    have R4 := hide row4
    have hB4 := hB3.trans (hb4.mono hB3.size)
    clear row4
    go_wp2_with fail
    refine (HG.out _ _ _ (Nat.le_refl _) HSh.out R4.out).mono ?_
    rintro e w5 ⟨rfl, hb5⟩
    have R5 := hide (R4.out.below hb5)
    have hB5 := hB4.trans (hb5.mono hB4.size)
    clear R4
    go_wp2_with fail
    refine (toG_row a c n gs _ HN.out h (HR.out.below hB5)).mono ?_
    rintro e w6 ⟨rfl, hb6, z6, row6⟩
    have R6 := hide row6
    have R6' := hide (R5.out.below hb6)
    have hB6 := hB5.trans (hb6.mono hB5.size)
    clear row6 R5
    go_wp2_with fail
    refine (eqG_same _ _ _ _ n gs _ HN.out h R6'.out R6.out).mono ?_
    rintro e w7 ⟨rfl, hb7⟩
    go_wp2_with fail
    go_ret
    exact ⟨rfl, hB6.trans (hb7.mono hB6.size)⟩
theorem lGoods_walk {a : Option Addr} {c : Nat} {gs : List Gd} {w : World} (hm : gs.length ≤ maxLen) (hf : Fits gs) (hr : GRow w a gs) :
    Calls Try.prog 3 #[.slice a gs.length c] w fun e w' => e = .returned (.bool true) ∧ Below w.heap.size w w' := by
  by_cases h : gs.length ≤ 1048576
  · exact lGoods_short rfl h hf hr
  · exact lGoods_long hm (by omega)
end Go.Proofs.Ytkmdoifinobdkaa
