/-
  At any rows NextWay answers as the model does, in memory of its own: the law's own walk.
-/
import Derived.Test.YtdpjkblondoimabV3
namespace Go.Proofs.Ytdpjkblondoimab
open Go.RowKit

theorem nwL_bd (W F : List (List Int)) : (Nt.nwL W F).length ≤ 8 := by
  unfold Nt.nwL
  cases hf : Nt.nfB W F
  · simp
  · rw [if_pos rfl]
    have h := Nt.nfB_iff.1 hf
    have hl := Nt.rowsB_len (Nt.netB_rows h.net)
    by_cases hn : Nt.wayOf W F = []
    · rw [hn]; simp
    · exact Nat.le_trans (Nt.wayOf_is hl.1 hn).few hl.2
set_option maxHeartbeats 400000 in
theorem lNw13_long {a0 a1 : Option Addr} {n0 c0 n1 c1 : Nat} {w : World} (hm : n0 ≤ maxLen) (h : 1048576 < n0) :
    Calls Try.prog 3 #[.slice a0 n0 c0, .slice a1 n1 c1] w fun e w' => e = .returned (.bool true) ∧ Below w.heap.size w w' := by
  go_enter Try.func3, Try.ntmps3
  go_wp2_with fail
  refine (szC_long (by omega) (by omega) hm (by omega)).mono ?_
  rintro e w1 ⟨rfl, rfl⟩
  go_wp2_with fail
  go_ret
  exact ⟨rfl, Below.refl _ _⟩
set_option maxRecDepth 100000 in
set_option maxHeartbeats 4000000 in
theorem lNw13_main {a0 a1 : Option Addr} {n0 c0 n1 c1 : Nat} {xs0 xs1 : List (List Int)} {w : World} (HX0 : Hid (xs0.length = n0)) (hn0 : n0 ≤ 1048576) (HF0 : Hid (CFits xs0)) (HA0 : Hid (CRow w a0 xs0)) (HX1 : Hid (xs1.length = n1)) (hm1 : n1 ≤ maxLen) (HF1 : Hid (CFits xs1)) (HA1 : Hid (CRow w a1 xs1)) :
    Calls Try.prog 3 #[.slice a0 n0 c0, .slice a1 n1 c1] w fun e w' => e = .returned (.bool true) ∧ Below w.heap.size w w' := by
  go_enter Try.func3, Try.ntmps3
  go_wp2_with fail
  refine (szC_any HX0.out (by omega) (by omega) (by omega) HF0.out HA0.out).mono ?_
  rintro e w0 ⟨r, rfl, hr1, hr2, hw0⟩
  obtain rfl : w = w0 := hw0.symm
  rcases hr2 with rfl | ⟨hr0, hsh⟩
  · go_wp2_with fail
    go_ret
    exact ⟨rfl, Below.refl _ _⟩
  have HSh0 := hide hsh
  have hr3 : ¬ r < 0 := by omega
  clear hsh
  by_cases hle : (n1 : Int) ≤ r
  rotate_left
  · go_wp2_with fail
    refine (szC_long hr0 hr1 hm1 (by omega)).mono ?_
    rintro e w1 ⟨rfl, hw1⟩
    obtain rfl : w = w1 := hw1.symm
    go_wp2_with fail
    go_ret
    exact ⟨rfl, Below.refl _ _⟩
  have hn1 : n1 ≤ 1048576 := by omega
  go_wp2_with fail
  refine (szC_any HX1.out hr0 hr1 hle HF1.out HA1.out).mono ?_
  rintro e w0 ⟨s, rfl, hs1, hs2, hw0⟩
  obtain rfl : w = w0 := hw0.symm
  rcases hs2 with rfl | ⟨hs0, hsh⟩
  · go_wp2_with fail
    go_ret
    exact ⟨rfl, Below.refl _ _⟩
  have HSh1 := hide hsh
  have hs3 : ¬ s < 0 := by omega
  clear hsh
  have HS := hide fun (W : World) (b0 b1 : Nat) (r0 : CRow W (some ⟨b0, 0, none⟩) xs0) (r1 : CRow W (some ⟨b1, 0, none⟩) xs1) => snw_w (w := W) (c := n0) (d := n1) HX0 hn0 HX1 hn1 (hide r0) (hide r1)
  have HI := hide fun (W : World) (b0 b1 : Nat) (r0 : CRow W (some ⟨b0, 0, none⟩) xs0) (r1 : CRow W (some ⟨b1, 0, none⟩) xs1) => nw_w (w := W) (c := n0) (d := n1) HX0 HX1 (hide r0) (hide r1)
  have y1 := nwL_bd xs0 xs1
  generalize Nt.nwL xs0 xs1 = R at HS HI y1
  generalize Nt.nwB xs0 xs1 = X at HS HI
  generalize Nt.nfB xs0 xs1 = G at HS HI
  obtain ⟨T, hT⟩ : ∃ T, R.length = T := ⟨_, rfl⟩
  rw [hT] at HS HI y1
  have HT := hide hT
  have hneG : (G != G) = false := by simp
  have hneX : (X != X) = false := by simp
  have hnn : ¬ (1 : Int) + (T : Int) < 0 := by omega
  have hnm : ((1 : Int) + (T : Int) != (1 : Int) + (T : Int)) = false := by simp
  clear hT
  go_wp2_with fail
  refine (toC_own HX0.out hn0 HSh0.out HA0.out).mono ?_
  rintro e w1 ⟨rfl, hb1, o1⟩
  have HB1 := hide hb1
  have O1 := hide o1
  clear hb1 o1
  go_wp2_with fail
  refine (toC_own HX1.out hn1 HSh1.out (HA1.out.below HB1.out)).mono ?_
  rintro e w2 ⟨rfl, hb2, o2⟩
  have HB2 := hide (HB1.out.trans (hb2.mono HB1.out.size))
  have O2 := hide (O1.out.below hb2)
  have P2 := hide o2
  clear hb2 o2 HB1 O1
  go_wp2_with fail
  refine (HS.out _ _ _ O2.out.row P2.out.row).mono ?_
  rintro e w3 ⟨v3, rfl, l3, hb3⟩
  have L3 := hide (AV.new l3)
  have HB3 := hide (HB2.out.trans (hb3.mono HB2.out.size))
  clear l3 hb3 HB2 O2 P2 HS
  go_wp2_with fail
  refine (toC_own HX0.out hn0 HSh0.out (HA0.out.below HB3.out)).mono ?_
  rintro e w4 ⟨rfl, hb4, o4⟩
  have L4 := hide (L3.out.below hb4)
  have O4 := hide o4
  have HB4 := hide (HB3.out.trans (hb4.mono HB3.out.size))
  have z4 := hb4.size
  clear hb4 o4 L3
  go_wp2_with fail
  refine (toC_own HX1.out hn1 HSh1.out (HA1.out.below HB4.out)).mono ?_
  rintro e w5 ⟨rfl, hb5, o5⟩
  have L5 := hide (L4.out.below hb5)
  have O5 := hide (O4.out.below hb5)
  have P5 := hide o5
  have HB5 := hide (HB4.out.trans (hb5.mono HB4.out.size))
  have z5 := hb5.size
  clear hb5 o5 L4 O4
  go_wp2_with fail
  refine (HI.out _ _ _ O5.out.row P5.out.row).mono ?_
  rintro e w6 ⟨v6, rfl, l6, hb6⟩
  have M6 := hide (AV.new l6)
  have L6 := hide (L5.out.below hb6)
  have O6 := hide (O5.out.below hb6)
  have P6 := hide (P5.out.below hb6)
  have HB6 := hide (HB5.out.trans (hb6.mono HB5.out.size))
  clear l6 hb6 L5 O5 P5 HB5
  go_wp2_with fail
  refine (eq_av HT (by omega) M6.out L6.out).mono ?_
  rintro e w7 ⟨rfl, hb7⟩
  have M7 := hide (M6.out.below hb7)
  have L7 := hide (L6.out.below hb7)
  have O7 := hide (O6.out.below hb7)
  have P7 := hide (P6.out.below hb7)
  have HB7 := hide (HB6.out.trans (hb7.mono HB6.out.size))
  clear hb7 M6 L6 O6 P6 HB6
  go_wp2_with fail
  refine (toC_own HX0.out hn0 HSh0.out (HA0.out.below HB7.out)).mono ?_
  rintro e w8 ⟨rfl, hb8, o8⟩
  have M8 := hide (M7.out.below hb8)
  have L8 := hide (L7.out.below hb8)
  have O8 := hide (O7.out.below hb8)
  have P8 := hide (P7.out.below hb8)
  have HB8 := hide (HB7.out.trans (hb8.mono HB7.out.size))
  clear hb8 M7 L7 O7 P7 HB7
  go_wp2_with fail
  refine (eqC_ow HX0 hn0 HSh0 O8.out o8).mono ?_
  rintro e w9 ⟨rfl, hb9⟩
  have M9 := hide (M8.out.below hb9)
  have L9 := hide (L8.out.below hb9)
  have O9 := hide (O8.out.below hb9)
  have P9 := hide (P8.out.below hb9)
  have HB9 := hide (HB8.out.trans (hb9.mono HB8.out.size))
  clear hb9 o8 M8 L8 O8 P8 HB8
  go_wp2_with fail
  refine (toC_own HX1.out hn1 HSh1.out (HA1.out.below HB9.out)).mono ?_
  rintro e w10 ⟨rfl, hb10, o10⟩
  have M10 := hide (M9.out.below hb10)
  have L10 := hide (L9.out.below hb10)
  have O10 := hide (O9.out.below hb10)
  have P10 := hide (P9.out.below hb10)
  have HB10 := hide (HB9.out.trans (hb10.mono HB9.out.size))
  clear hb10 M9 L9 O9 P9 HB9
  go_wp2_with fail
  refine (eqC_ow HX1 hn1 HSh1 P10.out o10).mono ?_
  rintro e w11 ⟨rfl, hb11⟩
  have M11 := hide (M10.out.below hb11)
  have L11 := hide (L10.out.below hb11)
  have O11 := hide (O10.out.below hb11)
  have P11 := hide (P10.out.below hb11)
  have HB11 := hide (HB10.out.trans (hb11.mono HB10.out.size))
  clear hb11 o10 M10 L10 O10 P10 HB10
  go_wp2_with fail
  refine (markC_k (by omega) (by omega) HX0 hn0 HSh0 O11.out).mono ?_
  rintro e w12 ⟨k12, rfl, hk12, hl12, r12⟩
  have M12 := hide (M11.out.rng r12 (Or.inr z5))
  have L12 := hide (L11.out.rng r12 (Or.inl (Nat.le_refl _)))
  have P12 := hide (P11.out.rng r12 (Or.inr (Nat.le_refl _)))
  have HB12 : Hid (Below w.heap.size w w12) := hide (HB11.out.trans (r12.below HB3.out.size HB11.out.size))
  clear r12 M11 L11 O11 P11 HB11
  go_wp2_with fail
  refine (markC_k hk12 (by omega) HX1 hn1 HSh1 P12.out).mono ?_
  rintro e w13 ⟨k13, rfl, hk13, hl13, r13⟩
  have hk13' : ¬ k13 < 0 := by omega
  have M13 := hide (M12.out.rng r13 (Or.inr (Nat.le_refl _)))
  have L13 := hide (L12.out.rng r13 (Or.inl z4))
  have HB13 : Hid (Below w.heap.size w w13) := hide (HB12.out.trans (r13.below HB4.out.size HB12.out.size))
  clear r13 M12 L12 P12 HB12
  go_wp2_with fail
  refine (eq_av HT (by omega) M13.out L13.out).mono ?_
  rintro e w14 ⟨rfl, hb14⟩
  have M14 := hide (M13.out.below hb14)
  have L14 := hide (L13.out.below hb14)
  have HB14 := hide (HB13.out.trans (hb14.mono HB13.out.size))
  clear hb14 M13 L13 HB13
  go_wp2_with fail
  refine (mark_av HT (by omega) (by omega) (by omega) M14.out).mono ?_
  rintro e w15 ⟨rfl, h15, g15⟩
  have L15 := hide (L14.out.grown M14.out g15 (Or.inl (Nat.le_trans z4 z5)))
  have H15 := hide h15
  have HB15 : Hid (Below w.heap.size w w15) := hide (HB14.out.trans (M14.out.under g15 (by have := HB4.out.size; omega) HB14.out.size))
  clear h15 g15 L14 M14 HB14
  go_wp2_with fail
  refine (held_hv (by omega) (by omega) (by omega) H15.out).mono ?_
  rintro e wz ⟨rfl, hwz⟩
  obtain rfl : w15 = wz := hwz.symm
  go_wp2_with fail
  refine (toC_own HX0.out hn0 HSh0.out (HA0.out.below HB15.out)).mono ?_
  rintro e w16 ⟨rfl, hb16, o16⟩
  have L16 := hide (L15.out.below hb16)
  have H16 := hide (H15.out.below hb16)
  have O16 := hide o16
  have HB16 := hide (HB15.out.trans (hb16.mono HB15.out.size))
  clear hb16 o16 L15 H15 HB15
  go_wp2_with fail
  refine (toC_own HX1.out hn1 HSh1.out (HA1.out.below HB16.out)).mono ?_
  rintro e w17 ⟨rfl, hb17, o17⟩
  have L17 := hide (L16.out.below hb17)
  have H17 := hide (H16.out.below hb17)
  have O17 := hide (O16.out.below hb17)
  have P17 := hide o17
  have HB17 := hide (HB16.out.trans (hb17.mono HB16.out.size))
  clear hb17 o17 L16 H16 O16 HB16
  go_wp2_with fail
  refine (HI.out _ _ _ O17.out.row P17.out.row).mono ?_
  rintro e w18 ⟨v18, rfl, l18, hb18⟩
  have M18 := hide (AV.new l18)
  have L18 := hide (L17.out.below hb18)
  have H18 := hide (H17.out.below hb18)
  have HB18 := hide (HB17.out.trans (hb18.mono HB17.out.size))
  clear l18 hb18 L17 H17 O17 P17 HB17
  go_wp2_with fail
  refine (eq_av HT (by omega) M18.out L18.out).mono ?_
  rintro e w19 ⟨rfl, hb19⟩
  have H19 := hide (H18.out.below hb19)
  have HB19 := hide (HB18.out.trans (hb19.mono HB18.out.size))
  clear hb19 M18 L18 H18 HB18
  go_wp2_with fail
  refine (held_hv (by omega) (by omega) (by omega) H19.out).mono ?_
  rintro e wz ⟨rfl, hwz⟩
  obtain rfl : w19 = wz := hwz.symm
  go_wp2_with fail
  go_ret
  exact ⟨rfl, HB19.out⟩
theorem lNw13_walk {a0 a1 : Option Addr} {c0 c1 : Nat} {xs0 xs1 : List (List Int)} {w : World} (hm0 : xs0.length ≤ maxLen) (hf0 : CFits xs0) (ha0 : CRow w a0 xs0) (hm1 : xs1.length ≤ maxLen) (hf1 : CFits xs1) (ha1 : CRow w a1 xs1) :
    Calls Try.prog 3 #[.slice a0 xs0.length c0, .slice a1 xs1.length c1] w fun e w' => e = .returned (.bool true) ∧ Below w.heap.size w w' := by
  by_cases h0 : xs0.length ≤ 1048576
  rotate_left
  · exact lNw13_long hm0 (by omega)
  exact lNw13_main (hide rfl) h0 (hide hf0) (hide ha0) (hide rfl) hm1 (hide hf1) (hide ha1)
end Go.Proofs.Ytdpjkblondoimab
