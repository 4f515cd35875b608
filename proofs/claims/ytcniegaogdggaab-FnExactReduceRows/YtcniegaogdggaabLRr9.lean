/-
  At any costs ReduceRows answers as the model does, in memory of its own: the law's own walk.
-/
import Derived.Test.YtcniegaogdggaabQy
import Derived.Test.YtcniegaogdggaabSk
namespace Go.Proofs.Ytcniegaogdggaab
open Go.RowKit

set_option maxHeartbeats 2000000 in
theorem rr_no {a : Option Addr} {l c : Nat} {C : List (List Int)} {w : World} (hg : Hu.costB C = false) (hl : C.length = l) (hc : CRow w a C) :
    Calls Try.prog 7 #[.slice a l c] w fun e w' => e = .returned (.tuple #[.slice none 0 0, .bool false]) ∧ w' = w := by
  have HC := hide hc
  have HL := hide hl
  have HG := hide hg
  clear hc hl hg
  go_enter Try.func7, Try.ntmps7
  go_wp2_with fail
  refine (gc_eq HL HC HG).mono ?_
  rintro e w1 ⟨rfl, hw1⟩
  obtain rfl : w = w1 := hw1.symm
  go_wp2_with fail
  go_ret2
  exact ⟨rfl, rfl⟩
set_option maxHeartbeats 2000000 in
theorem srr_no {a : Option Addr} {l c : Nat} {C : List (List Int)} {w : World} (hg : Hu.costB C = false) (hl : C.length = l) (hl1 : l ≤ 1048576) (hc : CRow w a C) :
    Calls Try.prog 5 #[.slice a l c] w fun e w' => e = .returned (.tuple #[.slice none 0 0, .bool false]) ∧ w' = w := by
  have HC := hide hc
  have HL := hide hl
  have HG := hide hg
  clear hc hl hg
  go_enter Try.func5, Try.ntmps5
  go_wp2_with fail
  refine (sgc_eq HL hl1 HC HG).mono ?_
  rintro e w1 ⟨rfl, hw1⟩
  obtain rfl : w = w1 := hw1.symm
  go_wp2_with fail
  go_ret2
  exact ⟨rfl, rfl⟩
set_option maxHeartbeats 400000 in
theorem lRr9_long {a0 : Option Addr} {n0 c0 : Nat} {w : World} (hm : n0 ≤ maxLen) (h : 1048576 < n0) :
    Calls Try.prog 3 #[.slice a0 n0 c0] w fun e w' => e = .returned (.bool true) ∧ Below w.heap.size w w' := by
  go_enter Try.func3, Try.ntmps3
  go_wp2_with fail
  refine (szC_long (by omega) (by omega) hm (by omega)).mono ?_
  rintro e w1 ⟨rfl, rfl⟩
  go_wp2_with fail
  go_ret
  exact ⟨rfl, Below.refl _ _⟩
set_option maxRecDepth 20000 in
set_option maxHeartbeats 8000000 in
theorem lRr9_no {a0 : Option Addr} {l c0 : Nat} {C : List (List Int)} {w : World} (HG : Hid (Hu.costB C = false)) (HL : Hid (C.length = l)) (hl : l ≤ 1048576) (HF : Hid (CFits C)) (HC : Hid (CRow w a0 C)) :
    Calls Try.prog 3 #[.slice a0 l c0] w fun e w' => e = .returned (.bool true) ∧ Below w.heap.size w w' := by
  go_enter Try.func3, Try.ntmps3
  go_wp2_with fail
  refine (szC_any HL.out (by omega) (by omega) (by omega) HF.out HC.out).mono ?_
  rintro e w0 ⟨r, rfl, hr1, hr2, hw0⟩
  obtain rfl : w = w0 := hw0.symm
  rcases hr2 with rfl | ⟨hr0, hsh⟩
  · go_wp2_with fail
    go_ret
    exact ⟨rfl, Below.refl _ _⟩
  have HSh := hide hsh
  have hr3 : ¬ r < 0 := by omega
  clear hsh
  go_wp2_with fail
  refine (toC_own HL.out hl HSh.out HC.out).mono ?_
  rintro e w1 ⟨rfl, hb1, o1⟩
  have R1 := hide o1.row
  have HC1 := hide (HC.out.below hb1)
  have HB1 := hide hb1
  clear o1 hb1
  go_wp2_with fail
  refine (srr_no HG.out HL.out hl R1.out).mono ?_
  rintro e w2 ⟨rfl, hw2⟩
  obtain rfl : w1 = w2 := hw2.symm
  go_wp2_with fail
  refine (toC_own HL.out hl HSh.out HC1.out).mono ?_
  rintro e w3 ⟨rfl, hb3, o3⟩
  have hq3 := hb3.size
  have O3 := hide o3
  have R3 := hide o3.row
  have HC3 := hide (HC1.out.below hb3)
  have HB3 := hide (HB1.out.trans (hb3.mono HB1.out.size))
  have hz1 := HB1.out.size
  clear o3 hb3 HC1 R1 HB1
  go_wp2_with fail
  refine (rr_no HG.out HL.out R3.out).mono ?_
  rintro e w4 ⟨rfl, hw4⟩
  obtain rfl : w3 = w4 := hw4.symm
  go_wp2_with fail
  refine (eqC9_zero _ _ _ _ _).mono ?_
  rintro e w4 ⟨rfl, hw4⟩
  obtain rfl : w3 = w4 := hw4.symm
  go_wp2_with fail
  refine (toC_own HL.out hl HSh.out HC3.out).mono ?_
  rintro e w6 ⟨rfl, hb6, o6⟩
  have O6 := hide (O3.out.below hb6)
  have R6 := hide (R3.out.below hb6)
  have S6 := hide o6.row
  have HB6 := hide (HB3.out.trans (hb6.mono HB3.out.size))
  clear hb6 o6 O3 R3 HB3
  go_wp2_with fail
  refine (eqC_b HL.out hl HSh.out R6.out S6.out).mono ?_
  rintro e w7 ⟨rfl, hb7⟩
  have O7 := hide (O6.out.below hb7)
  have HB7 := hide (HB6.out.trans (hb7.mono HB6.out.size))
  clear hb7 O6 R6 S6 HB6
  go_wp2_with fail
  refine (markC_any HL hl HSh O7.out).mono ?_
  rintro e w8 ⟨q, rfl, hq0, hr8⟩
  have hq1 : ¬ q < 0 := by omega
  have HB8 := hide (HB7.out.trans (hr8.below hz1 HB7.out.size))
  have HC8 := hide (HC.out.below HB8.out)
  clear hr8 O7 HB7
  go_wp2_with fail
  refine (eqC9_zero _ _ _ _ _).mono ?_
  rintro e wz ⟨rfl, hwz⟩
  obtain rfl : w8 = wz := hwz.symm
  go_wp2_with fail
  refine (markC9_zero _ _ _ _).mono ?_
  rintro e wz ⟨rfl, hwz⟩
  obtain rfl : w8 = wz := hwz.symm
  go_wp2_with fail
  refine (heldC9_zero _ _ _ _).mono ?_
  rintro e wz ⟨rfl, hwz⟩
  obtain rfl : w8 = wz := hwz.symm
  go_wp2_with fail
  refine (toC_own HL.out hl HSh.out HC8.out).mono ?_
  rintro e w11 ⟨rfl, hb11, o11⟩
  have R11 := hide o11.row
  have HB11 := hide (HB8.out.trans (hb11.mono HB8.out.size))
  clear hb11 o11 HB8 HC8
  go_wp2_with fail
  refine (rr_no HG.out HL.out R11.out).mono ?_
  rintro e wz ⟨rfl, hwz⟩
  obtain rfl : w11 = wz := hwz.symm
  go_wp2_with fail
  refine (eqC9_zero _ _ _ _ _).mono ?_
  rintro e wz ⟨rfl, hwz⟩
  obtain rfl : w11 = wz := hwz.symm
  go_wp2_with fail
  refine (heldC9_zero _ _ _ _).mono ?_
  rintro e wz ⟨rfl, hwz⟩
  obtain rfl : w11 = wz := hwz.symm
  go_wp2_with fail
  go_ret
  exact ⟨rfl, HB11.out⟩
set_option maxRecDepth 20000 in
set_option maxHeartbeats 8000000 in
theorem lRr9_yes {a0 : Option Addr} {l c0 : Nat} {C : List (List Int)} {w : World} (HG : Hid (Hu.costB C = true)) (HL : Hid (C.length = l)) (hl : l ≤ 10) (HF : Hid (CFits C)) (HC : Hid (CRow w a0 C)) :
    Calls Try.prog 3 #[.slice a0 l c0] w fun e w' => e = .returned (.bool true) ∧ Below w.heap.size w w' := by
  have HRL : Hid ((Hu.redL C).length = l) := hide (by rw [Hu.redL_len, HL.out])
  have HRR : Hid (∀ i, i < l → ((Hu.redL C).getD i []).length = l) := hide fun i hi => by
    have h : i < C.length := by rw [HL.out]; exact hi
    rw [Hu.redL_get C h, Hu.redR_len, (Hu.costB_row HG.out h).1, HL.out]
  have HRS : Hid (∀ i, i < l → ((Hu.redL C).getD i []).length ≤ 1048576) := hide fun i hi => by rw [HRR.out i hi]; omega
  have HRI := hide fun (W : World) (x : Nat) (r : CRow W (some ⟨x, 0, none⟩) C) => rr_yes (c := l) HG.out HL.out r
  have HRI' := hide fun (W : World) (x : Nat) (r : CRow W (some ⟨x, 0, none⟩) C) => srr_yes (c := l) HG.out HL.out r
  generalize Hu.redL C = F at *
  obtain ⟨TT, hTT⟩ : ∃ TT : Nat, TT = l * l := ⟨_, rfl⟩
  have HTT := hide hTT
  have hn1 : ¬ (1 : Int) + (TT : Int) < 0 := by omega
  have hnm : ((1 : Int) + (TT : Int) != (1 : Int) + (TT : Int)) = false := by simp
  clear hTT
  go_enter Try.func3, Try.ntmps3
  go_wp2_with fail
  refine (szC_any HL.out (by omega) (by omega) (by omega) HF.out HC.out).mono ?_
  rintro e w0 ⟨r, rfl, hr1, hr2, hw0⟩
  obtain rfl : w = w0 := hw0.symm
  rcases hr2 with rfl | ⟨hr0, hsh⟩
  · go_wp2_with fail
    go_ret
    exact ⟨rfl, Below.refl _ _⟩
  have HSh := hide hsh
  have hr3 : ¬ r < 0 := by omega
  clear hsh
  go_wp2_with fail
  refine (toC_own HL.out (by omega) HSh.out HC.out).mono ?_
  rintro e w1 ⟨rfl, hb1, o1⟩
  have R1 := hide o1.row
  have HC1 := hide (HC.out.below hb1)
  have HB1 := hide hb1
  have hz1 := hb1.size
  clear o1 hb1
  go_wp2_with fail
  refine (HRI'.out _ _ R1.out).mono ?_
  rintro e w2 ⟨G, D, rfl, hb2, row2⟩
  have hz2 := hb2.size
  have W2 := hide row2
  have HC2 := hide (HC1.out.below hb2)
  have HB2 := hide (HB1.out.trans (hb2.mono HB1.out.size))
  clear row2 hb2 HB1 HC1 R1
  go_wp2_with fail
  refine (toC_own HL.out (by omega) HSh.out HC2.out).mono ?_
  rintro e w3 ⟨rfl, hb3, o3⟩
  have hz3 := hb3.size
  have O3 := hide o3
  have R3 := hide o3.row
  have V3 := hide hb3
  have HB3 := hide (HB2.out.trans (hb3.mono HB2.out.size))
  clear o3 hb3 HC2 HB2
  go_wp2_with fail
  refine (HRI.out _ _ R3.out).mono ?_
  rintro e w4 ⟨rfl, hb4, o4⟩
  have hz4 := hb4.size
  have P4 := hide o4
  have O4 := hide (O3.out.below hb4)
  have V4 := hide (V3.out.trans (hb4.mono hz3))
  have HB4 := hide (HB3.out.trans (hb4.mono HB3.out.size))
  clear o4 hb4 O3 R3 V3 HB3
  go_wp2_with fail
  refine (eqC_b HRL.out (by omega) HRS.out P4.out.row (W2.out.below V4.out)).mono ?_
  rintro e w5 ⟨rfl, hb5⟩
  have P5 := hide (P4.out.below hb5)
  have O5 := hide (O4.out.below hb5)
  have V5 := hide (V4.out.trans (hb5.mono V4.out.size))
  have HB5 := hide (HB4.out.trans (hb5.mono HB4.out.size))
  clear hb5 P4 O4 V4 HB4
  go_wp2_with fail
  refine (toC_own HL.out (by omega) HSh.out (HC.out.below HB5.out)).mono ?_
  rintro e w6 ⟨rfl, hb6, o6⟩
  have S6 := hide o6.row
  have P6 := hide (P5.out.below hb6)
  have O6 := hide (O5.out.below hb6)
  have V6 := hide (V5.out.trans (hb6.mono V5.out.size))
  have HB6 := hide (HB5.out.trans (hb6.mono HB5.out.size))
  clear hb6 o6 P5 O5 V5 HB5
  go_wp2_with fail
  refine (eqC_b HL.out (by omega) HSh.out O6.out.row S6.out).mono ?_
  rintro e w7 ⟨rfl, hb7⟩
  have P7 := hide (P6.out.below hb7)
  have O7 := hide (O6.out.below hb7)
  have V7 := hide (V6.out.trans (hb7.mono V6.out.size))
  have HB7 := hide (HB6.out.trans (hb7.mono HB6.out.size))
  clear hb7 S6 P6 O6 V6 HB6
  go_wp2_with fail
  refine (markC_any HL (by omega) HSh O7.out).mono ?_
  rintro e w8 ⟨q, rfl, hq0, hr8⟩
  have hq1 : ¬ q < 0 := by omega
  have P8 := hide (P7.out.rng hr8 (Nat.le_refl _))
  have V8 := hide (V7.out.trans (hr8.below (Nat.le_refl _) V7.out.size))
  have HB8 := hide (HB7.out.trans (hr8.below (by omega) HB7.out.size))
  clear hr8 P7 O7 V7 HB7
  go_wp2_with fail
  refine (eqC_b HRL.out (by omega) HRS.out P8.out.row (W2.out.below V8.out)).mono ?_
  rintro e w9 ⟨rfl, hb9⟩
  have P9 := hide (P8.out.below hb9)
  have V9 := hide (V8.out.trans (hb9.mono V8.out.size))
  have HB9 := hide (HB8.out.trans (hb9.mono HB8.out.size))
  clear hb9 P8 V8 HB8
  obtain ⟨gs, hnow⟩ := P9.out.now HRL.out HRR.out
  have HNW := hide hnow
  clear hnow P9
  go_wp2_with fail
  refine (markC9_any HNW (by omega) (by omega) (by omega) (by omega)).mono ?_
  rintro e w10 ⟨rfl, hh10, hb10, _⟩
  have H10 := hide hh10
  have V10 := hide (V9.out.trans (hb10.mono (by omega)))
  have HB10 := hide (HB9.out.trans (hb10.mono (by omega)))
  clear hh10 hb10 V9 HB9 HNW
  rw [← HTT.out]
  go_wp2_with fail
  refine (heldC9_any H10 (by omega) (by omega) (by omega) (by omega)).mono ?_
  rintro e wz ⟨rfl, hwz⟩
  obtain rfl : w10 = wz := hwz.symm
  rw [← HTT.out]
  go_wp2_with fail
  refine (toC_own HL.out (by omega) HSh.out (HC.out.below HB10.out)).mono ?_
  rintro e w11 ⟨rfl, hb11, o11⟩
  have R11 := hide o11.row
  have H11 := hide (H10.out.below hb11)
  have V11 := hide (V10.out.trans (hb11.mono V10.out.size))
  have HB11 := hide (HB10.out.trans (hb11.mono HB10.out.size))
  clear hb11 o11 H10 V10 HB10
  go_wp2_with fail
  refine (HRI.out _ _ R11.out).mono ?_
  rintro e w12 ⟨rfl, hb12, o12⟩
  have P12 := hide o12.row
  have H12 := hide (H11.out.below hb12)
  have V12 := hide (V11.out.trans (hb12.mono V11.out.size))
  have HB12 := hide (HB11.out.trans (hb12.mono HB11.out.size))
  clear hb12 o12 R11 H11 V11 HB11
  go_wp2_with fail
  refine (eqC_b HRL.out (by omega) HRS.out P12.out (W2.out.below V12.out)).mono ?_
  rintro e w13 ⟨rfl, hb13⟩
  have H13 := hide (H12.out.below hb13)
  have HB13 := hide (HB12.out.trans (hb13.mono HB12.out.size))
  clear hb13 P12 H12 V12 HB12
  go_wp2_with fail
  refine (heldC9_any H13 (by omega) (by omega) (by omega) (by omega)).mono ?_
  rintro e wz ⟨rfl, hwz⟩
  obtain rfl : w13 = wz := hwz.symm
  rw [← HTT.out]
  go_wp2_with fail
  go_ret
  exact ⟨rfl, HB13.out⟩
theorem lRr9_walk {a0 : Option Addr} {c0 : Nat} {C : List (List Int)} {w : World} (hm0 : C.length ≤ maxLen) (hf0 : CFits C) (ha0 : CRow w a0 C) :
    Calls Try.prog 3 #[.slice a0 C.length c0] w fun e w' => e = .returned (.bool true) ∧ Below w.heap.size w w' := by
  by_cases h0 : C.length ≤ 1048576
  rotate_left
  · exact lRr9_long hm0 (by omega)
  cases hg : Hu.costB C
  · exact lRr9_no (hide hg) (hide rfl) h0 (hide hf0) (hide ha0)
  · exact lRr9_yes (hide hg) (hide rfl) (Hu.costB_len hg).2 (hide hf0) (hide ha0)
end Go.Proofs.Ytcniegaogdggaab
