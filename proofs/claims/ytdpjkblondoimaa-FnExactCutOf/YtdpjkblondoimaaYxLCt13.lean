/-
  At any rows CutOf answers as the model does, in memory of its own: the law's own walk.
-/
import Derived.Test.YtdpjkblondoimaaY3
import Derived.Test.YtdpjkblondoimaaY4
namespace Go.Proofs.Ytdpjkblondoimaa
open Go.RowKit

theorem coL_bd (W : List (List Int)) : (Nt.coL W).length ≤ 8 := by
  unfold Nt.coL
  cases hg : Nt.netB W
  · simp
  · rw [if_pos rfl]
    have hl := Nt.rowsB_len (Nt.netB_rows hg)
    have hc := Nt.come_len (Nt.rooms W (Nt.mostL W)) (n := W.length) (by omega)
    unfold Nt.sideL
    rw [List.length_map]
    exact Nat.le_trans (List.length_filter_le _ _) (by rw [List.length_range, hc]; exact hl.2)
set_option maxHeartbeats 400000 in
theorem lCt13_long {a0 : Option Addr} {n0 c0 : Nat} {w : World} (hm : n0 ≤ maxLen) (h : 1048576 < n0) :
    Calls Try.prog 7 #[.slice a0 n0 c0] w fun e w' => e = .returned (.bool true) ∧ Below w.heap.size w w' := by
  go_enter Try.func7, Try.ntmps7
  go_wp2_with fail
  refine (szC_long (by omega) (by omega) hm (by omega)).mono ?_
  rintro e w1 ⟨rfl, rfl⟩
  go_wp2_with fail
  go_ret
  exact ⟨rfl, Below.refl _ _⟩
set_option maxRecDepth 100000 in
set_option maxHeartbeats 4000000 in
theorem lCt13_main {a0 : Option Addr} {n0 c0 : Nat} {xs0 : List (List Int)} {w : World} (HX0 : Hid (xs0.length = n0)) (hn0 : n0 ≤ 1048576) (HF0 : Hid (CFits xs0)) (HA0 : Hid (CRow w a0 xs0)) :
    Calls Try.prog 7 #[.slice a0 n0 c0] w fun e w' => e = .returned (.bool true) ∧ Below w.heap.size w w' := by
  have HS := hide fun (W : World) (b0 : Nat) (r0 : CRow W (some ⟨b0, 0, none⟩) xs0) => sco_w (w := W) (c := n0) HX0 hn0 (hide r0)
  have HI := hide fun (W : World) (b0 : Nat) (r0 : CRow W (some ⟨b0, 0, none⟩) xs0) => co_w (w := W) (c := n0) HX0 (hide r0)
  have y1 := coL_bd xs0
  generalize Nt.coL xs0 = R at HS HI y1
  generalize Nt.netB xs0 = G at HS HI
  obtain ⟨T, hT⟩ : ∃ T, R.length = T := ⟨_, rfl⟩
  rw [hT] at HS HI y1
  have HT := hide hT
  have hneG : (G != G) = false := by simp
  have hnn : ¬ (1 : Int) + (T : Int) < 0 := by omega
  have hnm : ((1 : Int) + (T : Int) != (1 : Int) + (T : Int)) = false := by simp
  clear hT
  go_enter Try.func7, Try.ntmps7
  go_wp2_with fail
  refine (szC_any HX0.out (by omega) (by omega) (by omega) HF0.out HA0.out).mono ?_
  rintro e w0 ⟨r, rfl, hr1, hr2, hw0⟩
  obtain rfl : w = w0 := hw0.symm
  rcases hr2 with rfl | ⟨hr0, hsh⟩
  · go_wp2_with fail
    go_ret
    exact ⟨rfl, Below.refl _ _⟩
  have HSh0 := hide hsh
  have hr3 : ¬ r < 0 := by omega
  clear hsh
  go_wp2_with fail
  refine (toC_own HX0.out hn0 HSh0.out HA0.out).mono ?_
  rintro e w1 ⟨rfl, hb1, o1⟩
  have HB1 := hide hb1
  have O1 := hide o1
  clear hb1 o1
  go_wp2_with fail
  refine (HS.out _ _ O1.out.row).mono ?_
  rintro e w2 ⟨v2, rfl, l2, hb2⟩
  have L2 := hide (AV.new l2)
  have HB2 := hide (HB1.out.trans (hb2.mono HB1.out.size))
  clear l2 hb2 HB1 O1 HS
  go_wp2_with fail
  refine (toC_own HX0.out hn0 HSh0.out (HA0.out.below HB2.out)).mono ?_
  rintro e w3 ⟨rfl, hb3, o3⟩
  have L3 := hide (L2.out.below hb3)
  have O3 := hide o3
  have HB3 := hide (HB2.out.trans (hb3.mono HB2.out.size))
  have z3 := hb3.size
  clear hb3 o3 L2
  go_wp2_with fail
  refine (HI.out _ _ O3.out.row).mono ?_
  rintro e w4 ⟨v4, rfl, l4, hb4⟩
  have M4 := hide (AV.new l4)
  have L4 := hide (L3.out.below hb4)
  have O4 := hide (O3.out.below hb4)
  have HB4 := hide (HB3.out.trans (hb4.mono HB3.out.size))
  have z4 := hb4.size
  clear l4 hb4 L3 O3 HB3
  go_wp2_with fail
  refine (eq_av HT (by omega) M4.out L4.out).mono ?_
  rintro e w5 ⟨rfl, hb5⟩
  have M5 := hide (M4.out.below hb5)
  have L5 := hide (L4.out.below hb5)
  have O5 := hide (O4.out.below hb5)
  have HB5 := hide (HB4.out.trans (hb5.mono HB4.out.size))
  have z5 := hb5.size
  clear hb5 M4 L4 O4 HB4
  go_wp2_with fail
  refine (toC_own HX0.out hn0 HSh0.out (HA0.out.below HB5.out)).mono ?_
  rintro e w6 ⟨rfl, hb6, o6⟩
  have M6 := hide (M5.out.below hb6)
  have L6 := hide (L5.out.below hb6)
  have O6 := hide (O5.out.below hb6)
  have P6 := hide o6
  have HB6 := hide (HB5.out.trans (hb6.mono HB5.out.size))
  clear hb6 o6 M5 L5 O5 HB5
  go_wp2_with fail
  refine (eqC_ow HX0 hn0 HSh0 O6.out P6.out).mono ?_
  rintro e w7 ⟨rfl, hb7⟩
  have M7 := hide (M6.out.below hb7)
  have L7 := hide (L6.out.below hb7)
  have O7 := hide (O6.out.below hb7)
  have HB7 := hide (HB6.out.trans (hb7.mono HB6.out.size))
  clear hb7 M6 L6 O6 P6 HB6
  go_wp2_with fail
  refine (markC_any HX0 hn0 HSh0 O7.out).mono ?_
  rintro e w8 ⟨k8, rfl, hk8, r8⟩
  have hk8' : ¬ k8 < 0 := by omega
  have M8 := hide (M7.out.rng r8 (Or.inr (Nat.le_refl _)))
  have L8 := hide (L7.out.rng r8 (Or.inl (Nat.le_refl _)))
  have HB8 : Hid (Below w.heap.size w w8) := hide (HB7.out.trans (r8.below HB2.out.size HB7.out.size))
  clear r8 M7 L7 O7 HB7
  go_wp2_with fail
  refine (eq_av HT (by omega) M8.out L8.out).mono ?_
  rintro e w9 ⟨rfl, hb9⟩
  have M9 := hide (M8.out.below hb9)
  have L9 := hide (L8.out.below hb9)
  have HB9 := hide (HB8.out.trans (hb9.mono HB8.out.size))
  clear hb9 M8 L8 HB8
  go_wp2_with fail
  refine (mark_av HT (by omega) (by omega) (by omega) M9.out).mono ?_
  rintro e w10 ⟨rfl, h10, g10⟩
  have L10 := hide (L9.out.grown M9.out g10 (Or.inl z3))
  have H10 := hide h10
  have HB10 : Hid (Below w.heap.size w w10) := hide (HB9.out.trans (M9.out.under g10 (by have := HB2.out.size; omega) HB9.out.size))
  clear h10 g10 L9 M9 HB9
  go_wp2_with fail
  refine (held_hv (by omega) (by omega) (by omega) H10.out).mono ?_
  rintro e wz ⟨rfl, hwz⟩
  obtain rfl : w10 = wz := hwz.symm
  go_wp2_with fail
  refine (toC_own HX0.out hn0 HSh0.out (HA0.out.below HB10.out)).mono ?_
  rintro e w11 ⟨rfl, hb11, o11⟩
  have L11 := hide (L10.out.below hb11)
  have H11 := hide (H10.out.below hb11)
  have O11 := hide o11
  have HB11 := hide (HB10.out.trans (hb11.mono HB10.out.size))
  clear hb11 o11 L10 H10 HB10
  go_wp2_with fail
  refine (HI.out _ _ O11.out.row).mono ?_
  rintro e w12 ⟨v12, rfl, l12, hb12⟩
  have M12 := hide (AV.new l12)
  have L12 := hide (L11.out.below hb12)
  have H12 := hide (H11.out.below hb12)
  have HB12 := hide (HB11.out.trans (hb12.mono HB11.out.size))
  clear l12 hb12 L11 H11 O11 HB11
  go_wp2_with fail
  refine (eq_av HT (by omega) M12.out L12.out).mono ?_
  rintro e w13 ⟨rfl, hb13⟩
  have H13 := hide (H12.out.below hb13)
  have HB13 := hide (HB12.out.trans (hb13.mono HB12.out.size))
  clear hb13 M12 L12 H12 HB12
  go_wp2_with fail
  refine (held_hv (by omega) (by omega) (by omega) H13.out).mono ?_
  rintro e wz ⟨rfl, hwz⟩
  obtain rfl : w13 = wz := hwz.symm
  go_wp2_with fail
  go_ret
  exact ⟨rfl, HB13.out⟩
theorem lCt13_walk {a0 : Option Addr} {c0 : Nat} {xs0 : List (List Int)} {w : World} (hm0 : xs0.length ≤ maxLen) (hf0 : CFits xs0) (ha0 : CRow w a0 xs0) :
    Calls Try.prog 7 #[.slice a0 xs0.length c0] w fun e w' => e = .returned (.bool true) ∧ Below w.heap.size w w' := by
  by_cases h0 : xs0.length ≤ 1048576
  rotate_left
  · exact lCt13_long hm0 (by omega)
  exact lCt13_main (hide rfl) h0 (hide hf0) (hide ha0)
end Go.Proofs.Ytdpjkblondoimaa
