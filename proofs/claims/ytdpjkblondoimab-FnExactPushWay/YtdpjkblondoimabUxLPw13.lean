/-
  At any rows and ways PushWay answers as the model does, in memory of its own: the law's own walk.
-/
import Derived.Test.YtdpjkblondoimabU3
namespace Go.Proofs.Ytdpjkblondoimab
open Go.RowKit

theorem pwL_bd (W F : List (List Int)) (P : List Int) : (Nt.pwL W F P).length ≤ 8 ∧ ∀ i, i < (Nt.pwL W F P).length → ((Nt.pwL W F P).getD i []).length ≤ 8 := by
  unfold Nt.pwL
  cases hg : Nt.pwB W F P
  · exact ⟨by simp, fun i hi => absurd hi (by simp)⟩
  · rw [if_pos rfl]
    rw [Nt.pwB, Bool.and_eq_true] at hg
    have hf := Nt.nfB_iff.1 hg.1
    have hw := Nt.pw_way hf hg.2
    obtain ⟨b1, _, b3⟩ := Nt.by_facts hf hw
    have h := (Nt.push_nf hf hw (by omega) b3).1
    have hl := Nt.rowsB_len h.rows
    exact ⟨hl.2, fun i hi => by rw [Nt.rowsB_row h.rows hi]; exact hl.2⟩
set_option maxHeartbeats 400000 in
theorem lPw13_long2 {a0 a1 a2 : Option Addr} {n0 c0 n1 c1 n2 c2 : Nat} {w : World} (h : 1048576 < n2) :
    Calls Try.prog 4 #[.slice a0 n0 c0, .slice a1 n1 c1, .slice a2 n2 c2] w fun e w' => e = .returned (.bool true) ∧ Below w.heap.size w w' := by
  have g0 : (1048576 : Int) < n2 := by omega
  go_enter Try.func4, Try.ntmps4
  go_wp2_with fail
  go_ret
  exact ⟨rfl, Below.refl _ _⟩
set_option maxHeartbeats 400000 in
theorem lPw13_long {a0 a1 a2 : Option Addr} {n0 c0 n1 c1 n2 c2 : Nat} {w : World} (h2 : n2 ≤ 1048576) (hm : n0 ≤ maxLen) (h : 1048576 < n0) :
    Calls Try.prog 4 #[.slice a0 n0 c0, .slice a1 n1 c1, .slice a2 n2 c2] w fun e w' => e = .returned (.bool true) ∧ Below w.heap.size w w' := by
  have g2 : ¬ (1048576 : Int) < n2 := by omega
  go_enter Try.func4, Try.ntmps4
  go_wp2_with fail
  refine (szC_long (by omega) (by omega) hm (by omega)).mono ?_
  rintro e w1 ⟨rfl, rfl⟩
  go_wp2_with fail
  go_ret
  exact ⟨rfl, Below.refl _ _⟩
set_option maxRecDepth 100000 in
set_option maxHeartbeats 4000000 in
theorem lPw13_main {a0 a1 a2 : Option Addr} {n0 c0 n1 c1 n2 c2 : Nat} {xs0 xs1 : List (List Int)} {xs2 : List Int} {w : World} (HX0 : Hid (xs0.length = n0)) (hn0 : n0 ≤ 1048576) (HF0 : Hid (CFits xs0)) (HA0 : Hid (CRow w a0 xs0)) (HX1 : Hid (xs1.length = n1)) (hm1 : n1 ≤ maxLen) (HF1 : Hid (CFits xs1)) (HA1 : Hid (CRow w a1 xs1)) (HX2 : Hid (xs2.length = n2)) (hn2 : n2 ≤ 1048576) (HA2 : Hid (ARow w a2 xs2)) :
    Calls Try.prog 4 #[.slice a0 n0 c0, .slice a1 n1 c1, .slice a2 n2 c2] w fun e w' => e = .returned (.bool true) ∧ Below w.heap.size w w' := by
  have g2 : ¬ (1048576 : Int) < n2 := by omega
  go_enter Try.func4, Try.ntmps4
  go_wp2_with fail
  refine (szC_any HX0.out (by omega) (by omega) (by omega) HF0.out HA0.out).mono ?_
  rintro e w0 ⟨r, rfl, hr1, hr2, hw0⟩
  obtain rfl : w = w0 := hw0.symm
  rcases hr2 with rfl | ⟨hr0, hsh⟩
  · go_wp2_with fail
    go_ret
    exact ⟨rfl, Below.refl _ _⟩
  have HSh0 := hide hsh
  have hr3 : ¬ r < 0 := by omega
  clear hsh
  by_cases hle : (n1 : Int) ≤ r
  rotate_left
  · go_wp2_with fail
    refine (szC_long hr0 hr1 hm1 (by omega)).mono ?_
    rintro e w1 ⟨rfl, hw1⟩
    obtain rfl : w = w1 := hw1.symm
    go_wp2_with fail
    go_ret
    exact ⟨rfl, Below.refl _ _⟩
  have hn1 : n1 ≤ 1048576 := by omega
  go_wp2_with fail
  refine (szC_any HX1.out hr0 hr1 hle HF1.out HA1.out).mono ?_
  rintro e w0 ⟨s, rfl, hs1, hs2, hw0⟩
  obtain rfl : w = w0 := hw0.symm
  rcases hs2 with rfl | ⟨hs0, hsh⟩
  · go_wp2_with fail
    go_ret
    exact ⟨rfl, Below.refl _ _⟩
  have HSh1 := hide hsh
  have hs3 : ¬ s < 0 := by omega
  clear hsh
  have HS := hide fun (W : World) (b0 b1 b2 : Nat) (r0 : CRow W (some ⟨b0, 0, none⟩) xs0) (r1 : CRow W (some ⟨b1, 0, none⟩) xs1) (r2 : ARow W (some ⟨b2, 0, none⟩) xs2) => spw_w (w := W) (c := n0) (d := n1) (e' := n2) HX0 hn0 HX1 hn1 HX2 hn2 (Nat.le_refl _) (hide r0) (hide r1) (hide r2)
  have HI := hide fun (W : World) (b0 b1 b2 : Nat) (r0 : CRow W (some ⟨b0, 0, none⟩) xs0) (r1 : CRow W (some ⟨b1, 0, none⟩) xs1) (r2 : ARow W (some ⟨b2, 0, none⟩) xs2) => pw_w (w := W) (c := n0) (d := n1) (e' := n2) HX0 HX1 HX2 hn2 (Nat.le_refl _) (hide r0) (hide r1) (hide r2)
  obtain ⟨y1, y2⟩ := pwL_bd xs0 xs1 xs2
  have HY2 := hide fun i hi => Nat.le_trans (y2 i hi) (show 8 ≤ 1000 by omega)
  clear y2
  generalize Nt.pwL xs0 xs1 xs2 = R at HS HI HY2 y1
  generalize Nt.pwI xs0 xs1 xs2 = X at HS HI
  generalize Nt.pwB xs0 xs1 xs2 = G at HS HI
  have HT := hide (totTo_bd HY2.out R.length (Nat.le_refl _))
  obtain ⟨T, hT⟩ : ∃ T, totTo R R.length = T := ⟨_, rfl⟩
  have hTb : T ≤ 9000 := by have := HT.out; rw [hT] at this; omega
  have HTT := hide hT
  clear hT HT
  have hneG : (G != G) = false := by simp
  have hneX : (X != X) = false := by simp
  have hnn : ¬ (1 : Int) + (T : Int) < 0 := by omega
  have hnm : ((1 : Int) + (T : Int) != (1 : Int) + (T : Int)) = false := by simp
  have HMK := hide fun (W : World) (lo hi : Nat) (v : Value) (us : List Value) (h : LLh W lo hi v us R) => mark_ll (k := 1) (by omega) HY2.out (by omega) (by omega) h
  have HHD := hide fun (W : World) (v : Value) (us : List Value) (h : HLL W v us R 1) => held_ll (k := 1) (by omega) HY2.out (by omega) (by omega) h
  have HEQ := hide fun (W : World) (lo lo' : Nat) (v v' : Value) (us us' : List Value) (h : LL W lo 24 3 1 ints v us R) (h' : LL W lo' 24 3 1 ints v' us' R) => eq_ll (by omega) HY2.out h h'
  rw [HTT.out] at HMK HHD
  clear HTT
  go_wp2_with fail
  refine (toC_own HX0.out hn0 HSh0.out HA0.out).mono ?_
  rintro e w1 ⟨rfl, hb1, o1⟩
  have HB1 := hide (hb1)
  have A1 := hide o1
  clear hb1 o1
  go_wp2_with fail
  refine (toC_own HX1.out hn1 HSh1.out (HA1.out.below HB1.out)).mono ?_
  rintro e w2 ⟨rfl, hb2, o2⟩
  have A2 := hide (A1.out.below hb2)
  have HB2 := hide (HB1.out.trans (hb2.mono HB1.out.size))
  clear A1
  have B2 := hide o2
  clear hb2 o2
  go_wp2_with fail
  refine (toI_own _ _ _ _ _ HX2.out hn2 (HA2.out.below HB2.out)).mono ?_
  rintro e w3 ⟨rfl, hb3, _, o3⟩
  have A3 := hide (A2.out.below hb3)
  have B3 := hide (B2.out.below hb3)
  have HB3 := hide (HB2.out.trans (hb3.mono HB2.out.size))
  clear A2 B2
  have C3 := hide (AV.new o3)
  clear hb3 o3
  go_wp2_with fail
  refine (HS.out _ _ _ _ A3.out.row B3.out.row (arow_owns HX2.out.symm C3.out.1)).mono ?_
  rintro e w4 ⟨v4, us4, rfl, l4, hb4⟩
  have A4 := hide (A3.out.below hb4)
  have B4 := hide (B3.out.below hb4)
  have C4 := hide (C3.out.below hb4)
  have HB4 := hide (HB3.out.trans (hb4.mono HB3.out.size))
  clear A3 B3 C3
  have L4 := hide l4.top
  clear hb4 l4
  clear A4 B4 C4
  go_wp2_with fail
  refine (toC_own HX0.out hn0 HSh0.out (HA0.out.below HB4.out)).mono ?_
  rintro e w5 ⟨rfl, hb5, o5⟩
  have L5 := hide (L4.out.below hb5)
  have HB5 := hide (HB4.out.trans (hb5.mono HB4.out.size))
  clear L4
  have z5 := hb5.size
  have X5 := hide o5
  clear hb5 o5
  go_wp2_with fail
  refine (toC_own HX1.out hn1 HSh1.out (HA1.out.below HB5.out)).mono ?_
  rintro e w6 ⟨rfl, hb6, o6⟩
  have L6 := hide (L5.out.below hb6)
  have X6 := hide (X5.out.below hb6)
  have HB6 := hide (HB5.out.trans (hb6.mono HB5.out.size))
  clear L5 X5
  have z6 := hb6.size
  have Y6 := hide o6
  clear hb6 o6
  go_wp2_with fail
  refine (toI_own _ _ _ _ _ HX2.out hn2 (HA2.out.below HB6.out)).mono ?_
  rintro e w7 ⟨rfl, hb7, _, o7⟩
  have L7 := hide (L6.out.below hb7)
  have X7 := hide (X6.out.below hb7)
  have Y7 := hide (Y6.out.below hb7)
  have HB7 := hide (HB6.out.trans (hb7.mono HB6.out.size))
  clear L6 X6 Y6
  have z7 := hb7.size
  have Z7 := hide (AV.new o7)
  clear hb7 o7
  go_wp2_with fail
  refine (HI.out _ _ _ _ X7.out.row Y7.out.row (arow_owns HX2.out.symm Z7.out.1)).mono ?_
  rintro e w8 ⟨v8, us8, rfl, l8, hb8⟩
  have L8 := hide (L7.out.below hb8)
  have X8 := hide (X7.out.below hb8)
  have Y8 := hide (Y7.out.below hb8)
  have Z8 := hide (Z7.out.below hb8)
  have HB8 := hide (HB7.out.trans (hb8.mono HB7.out.size))
  clear L7 X7 Y7 Z7
  have M8 := hide l8.top
  clear hb8 l8
  go_wp2_with fail
  refine (HEQ.out _ _ _ _ _ _ _ M8.out.1 L8.out.1).mono ?_
  rintro e w9 ⟨rfl, hb9⟩
  have L9 := hide (L8.out.below hb9)
  have X9 := hide (X8.out.below hb9)
  have Y9 := hide (Y8.out.below hb9)
  have Z9 := hide (Z8.out.below hb9)
  have M9 := hide (M8.out.below hb9)
  have HB9 := hide (HB8.out.trans (hb9.mono HB8.out.size))
  clear L8 X8 Y8 Z8 M8
  clear hb9
  go_wp2_with fail
  refine (toC_own HX0.out hn0 HSh0.out (HA0.out.below HB9.out)).mono ?_
  rintro e w10 ⟨rfl, hb10, o10⟩
  have L10 := hide (L9.out.below hb10)
  have X10 := hide (X9.out.below hb10)
  have Y10 := hide (Y9.out.below hb10)
  have Z10 := hide (Z9.out.below hb10)
  have M10 := hide (M9.out.below hb10)
  have HB10 := hide (HB9.out.trans (hb10.mono HB9.out.size))
  clear L9 X9 Y9 Z9 M9
  have A10 := hide o10
  clear hb10 o10
  go_wp2_with fail
  refine (eqC_ow HX0 hn0 HSh0 X10.out A10.out).mono ?_
  rintro e w11 ⟨rfl, hb11⟩
  have L11 := hide (L10.out.below hb11)
  have X11 := hide (X10.out.below hb11)
  have Y11 := hide (Y10.out.below hb11)
  have Z11 := hide (Z10.out.below hb11)
  have M11 := hide (M10.out.below hb11)
  have A11 := hide (A10.out.below hb11)
  have HB11 := hide (HB10.out.trans (hb11.mono HB10.out.size))
  clear L10 X10 Y10 Z10 M10 A10
  clear hb11
  clear A11
  go_wp2_with fail
  refine (toC_own HX1.out hn1 HSh1.out (HA1.out.below HB11.out)).mono ?_
  rintro e w12 ⟨rfl, hb12, o12⟩
  have L12 := hide (L11.out.below hb12)
  have X12 := hide (X11.out.below hb12)
  have Y12 := hide (Y11.out.below hb12)
  have Z12 := hide (Z11.out.below hb12)
  have M12 := hide (M11.out.below hb12)
  have HB12 := hide (HB11.out.trans (hb12.mono HB11.out.size))
  clear L11 X11 Y11 Z11 M11
  have B12 := hide o12
  clear hb12 o12
  go_wp2_with fail
  refine (eqC_ow HX1 hn1 HSh1 Y12.out B12.out).mono ?_
  rintro e w13 ⟨rfl, hb13⟩
  have L13 := hide (L12.out.below hb13)
  have X13 := hide (X12.out.below hb13)
  have Y13 := hide (Y12.out.below hb13)
  have Z13 := hide (Z12.out.below hb13)
  have M13 := hide (M12.out.below hb13)
  have B13 := hide (B12.out.below hb13)
  have HB13 := hide (HB12.out.trans (hb13.mono HB12.out.size))
  clear L12 X12 Y12 Z12 M12 B12
  clear hb13
  clear B13
  go_wp2_with fail
  refine (toI_own _ _ _ _ _ HX2.out hn2 (HA2.out.below HB13.out)).mono ?_
  rintro e w14 ⟨rfl, hb14, _, o14⟩
  have L14 := hide (L13.out.below hb14)
  have X14 := hide (X13.out.below hb14)
  have Y14 := hide (Y13.out.below hb14)
  have Z14 := hide (Z13.out.below hb14)
  have M14 := hide (M13.out.below hb14)
  have HB14 := hide (HB13.out.trans (hb14.mono HB13.out.size))
  clear L13 X13 Y13 Z13 M13
  have C14 := hide (AV.new o14)
  clear hb14 o14
  go_wp2_with fail
  refine (eq_av HX2 hn2 Z14.out C14.out).mono ?_
  rintro e w15 ⟨rfl, hb15⟩
  have L15 := hide (L14.out.below hb15)
  have X15 := hide (X14.out.below hb15)
  have Y15 := hide (Y14.out.below hb15)
  have Z15 := hide (Z14.out.below hb15)
  have M15 := hide (M14.out.below hb15)
  have C15 := hide (C14.out.below hb15)
  have HB15 := hide (HB14.out.trans (hb15.mono HB14.out.size))
  clear L14 X14 Y14 Z14 M14 C14
  clear hb15
  clear C15
  go_wp2_with fail
  refine (markC_k (by omega) (by omega) HX0 hn0 HSh0 X15.out).mono ?_
  rintro e w16 ⟨k16, rfl, hk16, hl16, r16⟩
  have L16 := hide (L15.out.rng r16 (Or.inl (Nat.le_refl _)))
  have Y16 := hide (Y15.out.rng r16 (Or.inr (Nat.le_refl _)))
  have Z16 := hide (Z15.out.rng r16 (Or.inr z6))
  have M16 := hide (M15.out.rng r16 (Or.inr (Nat.le_trans z6 z7)))
  have HB16 : Hid (Below w.heap.size w w16) := hide (HB15.out.trans (r16.below HB4.out.size HB15.out.size))
  clear r16 L15 Y15 Z15 M15 X15
  go_wp2_with fail
  refine (markC_k hk16 (by omega) HX1 hn1 HSh1 Y16.out).mono ?_
  rintro e w17 ⟨k17, rfl, hk17, hl17, r17⟩
  have L17 := hide (L16.out.rng r17 (Or.inl z5))
  have Z17 := hide (Z16.out.rng r17 (Or.inr (Nat.le_refl _)))
  have M17 := hide (M16.out.rng r17 (Or.inr z7))
  have HB17 : Hid (Below w.heap.size w w17) := hide (HB16.out.trans (r17.below HB5.out.size HB16.out.size))
  clear r17 L16 Z16 M16 Y16
  have zz := (Z17.out.1.lt _ rfl).2
  have z67 : w6.heap.size < w7.heap.size := Z17.out.2.1 _ rfl
  go_wp2_with fail
  refine (mark_any _ _ _ _ _ _ _ HX2.out (by omega) hk17 (by omega) Z17.out.1).mono ?_
  rintro e w18 ⟨rfl, _, g18⟩
  have hq18 : ¬ k17 + (n2 : Int) < 0 := by omega
  have L18 := hide (L17.out.keep g18.size fun g h1 h2 => g18.block g (by have := L17.out.2.1; omega) (by simp; omega))
  have M18 := hide (M17.out.keep g18.size fun g h1 h2 => g18.block g (by have := M17.out.2.1; omega) (by simp; omega))
  have HB18 : Hid (Below w.heap.size w w18) := hide (HB17.out.trans ⟨g18.os, g18.tape, g18.output, g18.size, fun b hb => g18.block b (by have := HB17.out.size; omega) (by have := HB6.out.size; simp; omega)⟩)
  clear g18 zz L17 M17 Z17
  go_wp2_with fail
  refine (HEQ.out _ _ _ _ _ _ _ M18.out.1 L18.out.1).mono ?_
  rintro e w19 ⟨rfl, hb19⟩
  have L19 := hide (L18.out.below hb19)
  have M19 := hide (M18.out.below hb19)
  have HB19 := hide (HB18.out.trans (hb19.mono HB18.out.size))
  clear L18 M18
  clear hb19
  go_wp2_with fail
  refine (HMK.out _ _ _ _ _ M19.out).mono ?_
  rintro e w20 ⟨rfl, h20, r20⟩
  have L20 := hide (L19.out.rng r20 (Or.inl (Nat.le_trans z5 (Nat.le_trans z6 z7))))
  have H20 := hide h20
  have HB20 : Hid (Below w.heap.size w w20) := hide (HB19.out.trans (r20.below HB7.out.size HB19.out.size))
  clear h20 r20 L19 M19
  go_wp2_with fail
  refine (HHD.out _ _ _ H20.out).mono ?_
  rintro e wz ⟨rfl, hwz⟩
  obtain rfl : w20 = wz := hwz.symm
  go_wp2_with fail
  refine (toC_own HX0.out hn0 HSh0.out (HA0.out.below HB20.out)).mono ?_
  rintro e w21 ⟨rfl, hb21, o21⟩
  have L21 := hide (L20.out.below hb21)
  have H21 := hide (H20.out.below hb21)
  have HB21 := hide (HB20.out.trans (hb21.mono HB20.out.size))
  clear L20 H20
  have A21 := hide o21
  clear hb21 o21
  go_wp2_with fail
  refine (toC_own HX1.out hn1 HSh1.out (HA1.out.below HB21.out)).mono ?_
  rintro e w22 ⟨rfl, hb22, o22⟩
  have L22 := hide (L21.out.below hb22)
  have H22 := hide (H21.out.below hb22)
  have A22 := hide (A21.out.below hb22)
  have HB22 := hide (HB21.out.trans (hb22.mono HB21.out.size))
  clear L21 H21 A21
  have B22 := hide o22
  clear hb22 o22
  go_wp2_with fail
  refine (toI_own _ _ _ _ _ HX2.out hn2 (HA2.out.below HB22.out)).mono ?_
  rintro e w23 ⟨rfl, hb23, _, o23⟩
  have L23 := hide (L22.out.below hb23)
  have H23 := hide (H22.out.below hb23)
  have A23 := hide (A22.out.below hb23)
  have B23 := hide (B22.out.below hb23)
  have HB23 := hide (HB22.out.trans (hb23.mono HB22.out.size))
  clear L22 H22 A22 B22
  have C23 := hide (AV.new o23)
  clear hb23 o23
  go_wp2_with fail
  refine (HI.out _ _ _ _ A23.out.row B23.out.row (arow_owns HX2.out.symm C23.out.1)).mono ?_
  rintro e w24 ⟨v24, us24, rfl, l24, hb24⟩
  have L24 := hide (L23.out.below hb24)
  have H24 := hide (H23.out.below hb24)
  have A24 := hide (A23.out.below hb24)
  have B24 := hide (B23.out.below hb24)
  have C24 := hide (C23.out.below hb24)
  have HB24 := hide (HB23.out.trans (hb24.mono HB23.out.size))
  clear L23 H23 A23 B23 C23
  have N24 := hide l24
  clear hb24 l24
  clear A24 B24 C24
  go_wp2_with fail
  refine (HEQ.out _ _ _ _ _ _ _ N24.out L24.out.1).mono ?_
  rintro e w25 ⟨rfl, hb25⟩
  have H25 := hide (H24.out.below hb25)
  have HB25 := hide (HB24.out.trans (hb25.mono HB24.out.size))
  clear H24
  clear hb25 N24 L24
  go_wp2_with fail
  refine (HHD.out _ _ _ H25.out).mono ?_
  rintro e wz ⟨rfl, hwz⟩
  obtain rfl : w25 = wz := hwz.symm
  go_wp2_with fail
  go_ret
  exact ⟨rfl, HB25.out⟩
theorem lPw13_walk {a0 a1 a2 : Option Addr} {c0 c1 c2 : Nat} {xs0 xs1 : List (List Int)} {xs2 : List Int} {w : World} (hm0 : xs0.length ≤ maxLen) (hf0 : CFits xs0) (ha0 : CRow w a0 xs0) (hm1 : xs1.length ≤ maxLen) (hf1 : CFits xs1) (ha1 : CRow w a1 xs1) (ha2 : ARow w a2 xs2) :
    Calls Try.prog 4 #[.slice a0 xs0.length c0, .slice a1 xs1.length c1, .slice a2 xs2.length c2] w fun e w' => e = .returned (.bool true) ∧ Below w.heap.size w w' := by
  by_cases h2 : xs2.length ≤ 1048576
  rotate_left
  · exact lPw13_long2 (by omega)
  by_cases h0 : xs0.length ≤ 1048576
  rotate_left
  · exact lPw13_long h2 hm0 (by omega)
  exact lPw13_main (hide rfl) h0 (hide hf0) (hide ha0) (hide rfl) hm1 (hide hf1) (hide ha1) (hide rfl) h2 (hide ha2)
end Go.Proofs.Ytdpjkblondoimab
