/-
  At any list FirstFit answers as the model does, in memory of its own: the law's own walk.
-/
import Derived.Test.YtoalcmfpbjmapaaIz12
import Derived.Test.YtoalcmfpbjmapaaMm11
import Derived.Test.YtoalcmfpbjmapaaSk
namespace Go.Proofs.Ytoalcmfpbjmapaa
open Go.RowKit

theorem ffL_bd (l : List Int) : (It.ffL l).length ≤ 9 ∧ ∀ i, i < (It.ffL l).length → ((It.ffL l).getD i []).length ≤ 9 := by
  unfold It.ffL
  cases hg : It.goodB l
  · exact ⟨by simp, fun i hi => absurd hi (by simp)⟩
  · have h9 := It.good_len hg
    obtain ⟨h1, h2⟩ := fill_len (its_sz hg)
    rw [its_len] at h1 h2
    rw [if_pos rfl]
    refine ⟨by rw [It.nums_len]; omega, fun i hi => ?_⟩
    rw [It.nums_len] at hi
    rw [It.nums_at, List.length_map]
    have := h2 i hi; omega
set_option maxHeartbeats 400000 in
theorem lFf12_long {a0 : Option Addr} {n0 c0 : Nat} {w : World} (h : 1048576 < n0) :
    Calls Try.prog 4 #[.slice a0 n0 c0] w fun e w' => e = .returned (.bool true) ∧ Below w.heap.size w w' := by
  have g0 : (1048576 : Int) < n0 := by omega
  go_enter Try.func4, Try.ntmps4
  go_wp2_with fail
  go_ret
  exact ⟨rfl, Below.refl _ _⟩
set_option maxRecDepth 100000 in
set_option maxHeartbeats 4000000 in
theorem lFf12_main {a0 : Option Addr} {n0 c0 : Nat} {xs0 : List Int} {w : World} (hx0 : Hid (xs0.length = n0)) (hn0 : n0 ≤ 1048576) (HA0 : Hid (ARow w a0 xs0)) :
    Calls Try.prog 4 #[.slice a0 n0 c0] w fun e w' => e = .returned (.bool true) ∧ Below w.heap.size w w' := by
  have g0 : ¬ (1048576 : Int) < n0 := by omega
  have HS := hide fun (W : World) (b0 : Nat) (r0 : ARow W (some ⟨b0, 0, none⟩) xs0) => sff_w (w := W) (c := n0) hx0.out r0
  have HI := hide fun (W : World) (b0 : Nat) (r0 : ARow W (some ⟨b0, 0, none⟩) xs0) => ff_w (w := W) (c := n0) hx0.out r0
  obtain ⟨y1, y2⟩ := ffL_bd xs0
  have HY2 := hide fun i hi => Nat.le_trans (y2 i hi) (show 9 ≤ 1000 by omega)
  clear y2
  generalize It.ffL xs0 = R at HS HI HY2 y1
  generalize It.goodB xs0 = G at HS HI
  have HT := hide (totTo_bd HY2.out R.length (Nat.le_refl _))
  obtain ⟨T, hT⟩ : ∃ T, totTo R R.length = T := ⟨_, rfl⟩
  have hTb : T ≤ 9000 := by have := HT.out; rw [hT] at this; omega
  have HTT := hide hT
  clear hT HT
  have hneG : (G != G) = false := by simp
  have hnn : ¬ (1 : Int) + (T : Int) < 0 := by omega
  have hnm : ((1 : Int) + (T : Int) != (1 : Int) + (T : Int)) = false := by simp
  have hk0 : ¬ (1 : Int) + (n0 : Int) < 0 := by omega
  have HMK := hide fun (W : World) (lo hi : Nat) (v : Value) (us : List Value) (h : LLh W lo hi v us R) => mark_ll (k := 1) (by omega) HY2.out (by omega) (by omega) h
  have HHD := hide fun (W : World) (v : Value) (us : List Value) (h : HLL W v us R 1) => held_ll (k := 1) (by omega) HY2.out (by omega) (by omega) h
  have HEQ := hide fun (W : World) (lo lo' : Nat) (v v' : Value) (us us' : List Value) (h : LL W lo 22 3 1 ints v us R) (h' : LL W lo' 22 3 1 ints v' us' R) => eq_ll (by omega) HY2.out h h'
  rw [HTT.out] at HMK HHD
  clear HTT
  go_enter Try.func4, Try.ntmps4
  go_wp2_with fail
  refine (to_av (c := c0) hx0.out hn0 HA0.out).mono ?_
  rintro e w1 ⟨B1, rfl, hb1, o1⟩
  have HB1 := hide hb1
  have O1 := hide o1
  clear hb1 o1
  go_wp2_with fail
  refine (HS.out _ _ (av_at hx0.out O1.out)).mono ?_
  rintro e w2 ⟨v2, us2, rfl, l2, hb2⟩
  have L2 := hide l2.top
  have HB2 := hide (HB1.out.trans (hb2.mono HB1.out.size))
  clear l2 hb2 HB1 O1 HS
  go_wp2_with fail
  refine (to_av (c := c0) hx0.out hn0 (HA0.out.below HB2.out)).mono ?_
  rintro e w3 ⟨B3, rfl, hb3, o3⟩
  have L3 := hide (L2.out.below hb3)
  have O3 := hide o3
  have HB3 := hide (HB2.out.trans (hb3.mono HB2.out.size))
  have z3 := hb3.size
  clear hb3 o3 L2
  go_wp2_with fail
  refine (HI.out _ _ (av_at hx0.out O3.out)).mono ?_
  rintro e w4 ⟨v4, us4, rfl, l4, hb4⟩
  have M4 := hide l4.top
  have L4 := hide (L3.out.below hb4)
  have O4 := hide (O3.out.below hb4)
  have HB4 := hide (HB3.out.trans (hb4.mono HB3.out.size))
  have z4 := hb4.size
  clear l4 hb4 L3 O3 HB3
  go_wp2_with fail
  refine (HEQ.out _ _ _ _ _ _ _ M4.out.1 L4.out.1).mono ?_
  rintro e w5 ⟨rfl, hb5⟩
  have M5 := hide (M4.out.below hb5)
  have L5 := hide (L4.out.below hb5)
  have O5 := hide (O4.out.below hb5)
  have HB5 := hide (HB4.out.trans (hb5.mono HB4.out.size))
  have z5 := hb5.size
  clear hb5 M4 L4 O4 HB4
  go_wp2_with fail
  refine (to_av (c := c0) hx0.out hn0 (HA0.out.below HB5.out)).mono ?_
  rintro e w6 ⟨B6, rfl, hb6, o6⟩
  have M6 := hide (M5.out.below hb6)
  have L6 := hide (L5.out.below hb6)
  have O6 := hide (O5.out.below hb6)
  have P6 := hide o6
  have HB6 := hide (HB5.out.trans (hb6.mono HB5.out.size))
  clear hb6 o6 M5 L5 O5 HB5
  go_wp2_with fail
  refine (eq_av hx0 hn0 O6.out P6.out).mono ?_
  rintro e w7 ⟨rfl, hb7⟩
  have M7 := hide (M6.out.below hb7)
  have L7 := hide (L6.out.below hb7)
  have O7 := hide (O6.out.below hb7)
  have HB7 := hide (HB6.out.trans (hb7.mono HB6.out.size))
  clear hb7 M6 L6 O6 P6 HB6
  go_wp2_with fail
  refine (mark_av hx0 hn0 (by omega) (by omega) O7.out).mono ?_
  rintro e w8 ⟨rfl, _, hg8⟩
  have hB3 : w2.heap.size ≤ B3 ∧ B3 < w3.heap.size := O7.out.at_ B3 rfl
  have blk : ∀ g, g < w7.heap.size → g ≠ B3 → w8.heap[g]? = w7.heap[g]? := fun g hl hne => hg8.block g hl (by simp [Value.ownBlock]; exact hne)
  have M8 := hide (M7.out.keep hg8.size fun g h1 h2 => blk g (by have := M7.out.2.1; omega) (by omega))
  have L8 := hide (L7.out.keep hg8.size fun g h1 h2 => blk g (by have := L7.out.2.1; omega) (by omega))
  have HB8 : Hid (Below w.heap.size w w8) := hide (HB7.out.trans ⟨hg8.os, hg8.tape, hg8.output, hg8.size, fun b hb => blk b (by have := HB7.out.size; omega) (by have := HB2.out.size; omega)⟩)
  clear hg8 blk M7 L7 O7 HB7 hB3
  go_wp2_with fail
  refine (HEQ.out _ _ _ _ _ _ _ M8.out.1 L8.out.1).mono ?_
  rintro e w9 ⟨rfl, hb9⟩
  have M9 := hide (M8.out.below hb9)
  have L9 := hide (L8.out.below hb9)
  have HB9 := hide (HB8.out.trans (hb9.mono HB8.out.size))
  clear hb9 M8 L8 HB8
  go_wp2_with fail
  refine (HMK.out _ _ _ _ _ M9.out).mono ?_
  rintro e w10 ⟨rfl, h10, r10⟩
  have L10 := hide (L9.out.rng r10 (Or.inl z3))
  have H10 := hide h10
  have HB10 : Hid (Below w.heap.size w w10) := hide (HB9.out.trans (r10.below (by have := HB2.out.size; omega) HB9.out.size))
  clear h10 r10 L9 M9 HB9
  go_wp2_with fail
  refine (HHD.out _ _ _ H10.out).mono ?_
  rintro e wz ⟨rfl, hwz⟩
  obtain rfl : w10 = wz := hwz.symm
  go_wp2_with fail
  refine (to_av (c := c0) hx0.out hn0 (HA0.out.below HB10.out)).mono ?_
  rintro e w11 ⟨B11, rfl, hb11, o11⟩
  have L11 := hide (L10.out.below hb11)
  have H11 := hide (H10.out.below hb11)
  have O11 := hide o11
  have HB11 := hide (HB10.out.trans (hb11.mono HB10.out.size))
  clear hb11 o11 L10 H10 HB10
  go_wp2_with fail
  refine (HI.out _ _ (av_at hx0.out O11.out)).mono ?_
  rintro e w12 ⟨v12, us12, rfl, l12, hb12⟩
  have M12 := hide l12
  have L12 := hide (L11.out.below hb12)
  have H12 := hide (H11.out.below hb12)
  have HB12 := hide (HB11.out.trans (hb12.mono HB11.out.size))
  clear l12 hb12 L11 H11 O11 HB11
  go_wp2_with fail
  refine (HEQ.out _ _ _ _ _ _ _ M12.out L12.out.1).mono ?_
  rintro e w13 ⟨rfl, hb13⟩
  have H13 := hide (H12.out.below hb13)
  have HB13 := hide (HB12.out.trans (hb13.mono HB12.out.size))
  clear hb13 M12 L12 H12 HB12
  go_wp2_with fail
  refine (HHD.out _ _ _ H13.out).mono ?_
  rintro e wz ⟨rfl, hwz⟩
  obtain rfl : w13 = wz := hwz.symm
  go_wp2_with fail
  go_ret
  exact ⟨rfl, HB13.out⟩
theorem lFf12_walk {a0 : Option Addr} {c0 : Nat} {xs0 : List Int} {w : World} (ha0 : ARow w a0 xs0) :
    Calls Try.prog 4 #[.slice a0 xs0.length c0] w fun e w' => e = .returned (.bool true) ∧ Below w.heap.size w w' := by
  by_cases h0 : xs0.length ≤ 1048576
  rotate_left
  · exact lFf12_long (by omega)
  exact lFf12_main (hide rfl) h0 (hide ha0)
end Go.Proofs.Ytoalcmfpbjmapaa
