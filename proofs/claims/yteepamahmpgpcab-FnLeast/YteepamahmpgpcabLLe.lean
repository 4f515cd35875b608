/-
  FnLeast: the law's own walk.
-/
import Derived.Test.YteepamahmpgpcabDm
import Derived.Test.YteepamahmpgpcabFp
import Derived.Test.YteepamahmpgpcabSk
namespace Go.Proofs.Yteepamahmpgpcab
open Go.RowKit

set_option maxRecDepth 100000 in
set_option maxHeartbeats 1000000 in
theorem lLe_long {a1 a2 : Option Addr} {len1 cap1 len2 cap2 : Nat} {w : World} (h1 : (1048576 : Int) < wrap64 ((len1 : Int) + (len2 : Int))) :
    Calls Try.prog 6 #[.slice a1 len1 cap1, .slice a2 len2 cap2] w fun e w' => e = .returned (.bool true) ∧ Below w.heap.size w w' := by
  go_enter Try.func6, Try.ntmps6
  go_wp2_with fail
  go_ret
  exact ⟨rfl, Below.refl _ _⟩
set_option maxRecDepth 100000 in
set_option maxHeartbeats 8000000 in
theorem lLe_main {a1 a2 : Option Addr} {len1 cap1 len2 cap2 : Nat} {w : World} (hs1 : Hid (Src w a1 len1)) (hs2 : Hid (Src w a2 len2)) (h1 : ¬ (1048576 : Int) < wrap64 ((len1 : Int) + (len2 : Int))) :
    Calls Try.prog 6 #[.slice a1 len1 cap1, .slice a2 len2 cap2] w fun e w' => e = .returned (.bool true) ∧ Below w.heap.size w w' := by
  go_enter Try.func6, Try.ntmps6
  go_wp2_with fail
  refine (drawLC_any hs1).mono ?_
  rintro e w1 ⟨b1, e1, fs, r, f, rfl, hf9, f0, f1, r1, hb1⟩
  have C1 : Hid (Car w w1 b1 b1 fs fs) := hide ⟨r1, r1, hb1⟩
  have I1 := hide (fun (w' : World) (ha : ARow w' b1 fs) => lc_any (c := e1) (r := r) (f := f) (hide ha) (hide rfl))
  have S1 := hide (fun (w' : World) (ha : ARow w' b1 fs) => slc_any (c := e1) (r := r) (f := f) (hide ha) (hide rfl))
  have I2 := hide (fun (w' : World) (ha : ARow w' b1 fs) => lc_any (c := e1) (r := r) (f := 2 * f) (hide ha) (hide rfl))
  have HBD := hide (@least_bd fs r f)
  have HWI := hide (@least_within fs r f)
  have m2 : wrap64 (2 * f) = 2 * f := wrap_id _ (by omega) (by omega)
  simp only [bv_eq] at I1 S1 I2
  generalize leastLo fs r (2 * f) = p' at *
  generalize leastHi fs r (2 * f) = q' at *
  generalize leastB fs r (2 * f) = ok2 at *
  generalize leastLo fs r f = p at *
  generalize leastHi fs r f = q at *
  generalize leastB fs r f = ok1 at *
  obtain ⟨p1, p2⟩ := p
  obtain ⟨q1, q2⟩ := q
  obtain ⟨P1, P2⟩ := p'
  obtain ⟨Q1, Q2⟩ := q'
  dsimp only at I1 S1 I2 HBD HWI
  have hob : (ok1 != ok1) = false := by simp
  have tq := fun w => bounds_neq p1 p2 q1 q2 w
  have vq := fun x y w => bounds_neqg x y #[.int .i64 p1, .int .i64 p2, .int .i64 q1, .int .i64 q2] #[.int .i64 p1, .int .i64 p2, .int .i64 q1, .int .i64 q2] w
  clear r1 hb1
  go_wp2_with fail
  refine (I1.out _ C1.out.1).mono ?_
  rintro e w2 ⟨rfl, hb2⟩
  have C2 := hide ((C1.out.step hb2).alloc (.cells #[.int .i64 p1, .int .i64 p2, .int .i64 q1, .int .i64 q2] 51))
  have V2 := hide (Four.new w2 p1 p2 q1 q2 51)
  clear C1 hb2 I1
  go_wp2_with fail
  generalize w2.alloc (.cells #[.int .i64 p1, .int .i64 p2, .int .i64 q1, .int .i64 q2] 51) = W2 at *
  generalize w2.heap.size = B2 at *
  refine (S1.out _ C2.out.1).mono ?_
  rintro e w3 ⟨rfl, hb3⟩
  have C3 := hide ((C2.out.step hb3).alloc (.cells #[.int .i64 p1, .int .i64 p2, .int .i64 q1, .int .i64 q2] 51))
  have V3 := hide ((V2.out.below hb3 V2.out.2.2.2.2.2.2.2.2).below (below_alloc w3 (.cells #[.int .i64 p1, .int .i64 p2, .int .i64 q1, .int .i64 q2] 51)) (V2.out.below hb3 V2.out.2.2.2.2.2.2.2.2).2.2.2.2.2.2.2.2)
  obtain ⟨v0, v1, v2, v3, _, _, _, _, v8⟩ := V2.out.below hb3 V2.out.2.2.2.2.2.2.2.2
  clear C2 hb3 V2 S1
  cases ok1
  · go_wp2_with fail
    clear v0 v1 v2 v3 v8 V3 tq vq
    generalize w3.alloc (.cells #[.int .i64 p1, .int .i64 p2, .int .i64 q1, .int .i64 q2] 51) = W3 at *
    refine (drawIW_any (hide (hs2.out.below C3.out.2.2))).mono ?_
    rintro e x1 ⟨g1, g2, ga, gb, gc, gd, rfl, hbx⟩
    have X1 := hide (Six.start x1 g1 g2 ga gb gc gd 35 51)
    have BX1 := hide ((C3.out.2.2).trans (hbx.mono (C3.out.2.2).size))
    have HIW := hide (fun w => iw_any g1 g2 ga gb gc gd w)
    have HSW := hide (fun w => siw_any g1 g2 ga gb gc gd w)
    generalize withR g1 g2 ga gb gc gd = RR at *
    generalize withB g1 g2 ga gb gc gd = RB at *
    have hRR : (RR == RR) = true := by simp
    have hRB : (RB == RB) = true := by simp
    clear hbx
    go_wp2_with fail
    generalize (x1.alloc (.cells #[.int .i64 g1, .int .i64 g2] 35)).alloc (.cells #[.int .i64 ga, .int .i64 gb, .int .i64 gc, .int .i64 gd] 51) = XX at *
    refine (HIW.out _).mono ?_
    rintro e x2 ⟨rfl, hb2⟩
    have X2 := hide (X1.out.below hb2)
    obtain ⟨y0, y1, y2, y3, y4, y5, _, _⟩ := X2.out
    clear X1 hb2
    go_wp2_with fail
    refine (HSW.out _).mono ?_
    rintro e x3 ⟨rfl, hb3⟩
    have BX3 := hide (BX1.out.trans ((X2.out.below hb3).2.2.2.2.2.2.1.mono BX1.out.size))
    clear y0 y1 y2 y3 y4 y5 X2 hb3
    go_wp2_with fail
    go_ret
    exact ⟨rfl, BX3.out⟩
  · have HG := hide (HBD.out rfl)
    have HW := hide (HWI.out rfl)
    clear HBD HWI
    go_wp2_with fail
    clear v0 v1 v2 v3 v8 tq vq
    generalize w3.alloc (.cells #[.int .i64 p1, .int .i64 p2, .int .i64 q1, .int .i64 q2] 51) = W3 at *
    refine (gb_eq HG.out).mono ?_
    rintro e w4 ⟨rfl, hb4⟩
    have C4 := hide (C3.out.step hb4)
    have V4 := hide (V3.out.below hb4 V3.out.2.2.2.2.2.2.2.2)
    clear C3 V3 hb4
    go_wp2_with fail
    refine (I2.out _ C4.out.1).mono ?_
    rintro e w5 ⟨rfl, hb5⟩
    have C5 := hide ((C4.out.step hb5).alloc (.cells #[.int .i64 P1, .int .i64 P2, .int .i64 Q1, .int .i64 Q2] 51))
    have V5 := hide ((V4.out.below hb5 V4.out.2.2.2.2.2.2.2.2).below (below_alloc w5 (.cells #[.int .i64 P1, .int .i64 P2, .int .i64 Q1, .int .i64 Q2] 51)) (V4.out.below hb5 V4.out.2.2.2.2.2.2.2.2).2.2.2.2.2.2.2.2)
    have U5 := hide (Four.new w5 P1 P2 Q1 Q2 51)
    clear C4 V4 hb5 I2
    cases ok2
    · go_wp2_with fail
      clear V5 U5
      generalize w5.alloc (.cells #[.int .i64 P1, .int .i64 P2, .int .i64 Q1, .int .i64 Q2] 51) = W5 at *
      refine (drawIW_any (hide (hs2.out.below C5.out.2.2))).mono ?_
      rintro e x1 ⟨g1, g2, ga, gb, gc, gd, rfl, hbx⟩
      have X1 := hide (Six.start x1 g1 g2 ga gb gc gd 35 51)
      have BX1 := hide ((C5.out.2.2).trans (hbx.mono (C5.out.2.2).size))
      have HIW := hide (fun w => iw_any g1 g2 ga gb gc gd w)
      have HSW := hide (fun w => siw_any g1 g2 ga gb gc gd w)
      generalize withR g1 g2 ga gb gc gd = RR at *
      generalize withB g1 g2 ga gb gc gd = RB at *
      have hRR : (RR == RR) = true := by simp
      have hRB : (RB == RB) = true := by simp
      clear hbx
      go_wp2_with fail
      generalize (x1.alloc (.cells #[.int .i64 g1, .int .i64 g2] 35)).alloc (.cells #[.int .i64 ga, .int .i64 gb, .int .i64 gc, .int .i64 gd] 51) = XX at *
      refine (HIW.out _).mono ?_
      rintro e x2 ⟨rfl, hb2⟩
      have X2 := hide (X1.out.below hb2)
      obtain ⟨y0, y1, y2, y3, y4, y5, _, _⟩ := X2.out
      clear X1 hb2
      go_wp2_with fail
      refine (HSW.out _).mono ?_
      rintro e x3 ⟨rfl, hb3⟩
      have BX3 := hide (BX1.out.trans ((X2.out.below hb3).2.2.2.2.2.2.1.mono BX1.out.size))
      clear y0 y1 y2 y3 y4 y5 X2 hb3
      go_wp2_with fail
      go_ret
      exact ⟨rfl, BX3.out⟩
    · obtain ⟨⟨h11, h12⟩, ⟨h21, h22⟩⟩ := HW.out rfl
      have A1 := hide (fun w => iw_any P1 P2 p1 p2 q1 q2 w)
      have A2 := hide (fun w => iw_any Q1 Q2 p1 p2 q1 q2 w)
      rw [h11, h12] at A1
      rw [h21, h22] at A2
      obtain ⟨s0, s1, s2, s3, _, _, _, _, s8⟩ := V5.out
      obtain ⟨u0, u1, u2, u3, _, _, _, _, u8⟩ := U5.out
      have hw5 : B2 < w5.heap.size ∨ True := Or.inr trivial
      clear h11 h12 h21 h22 hw5
      go_wp2_with fail
      generalize w5.alloc (.cells #[.int .i64 P1, .int .i64 P2, .int .i64 Q1, .int .i64 Q2] 51) = W5 at *
      generalize w5.heap.size = B5 at *
      refine (A1.out _).mono ?_
      rintro e w6 ⟨rfl, hb6⟩
      have C6 := hide (C5.out.step hb6)
      have V6 := hide (V5.out.below hb6 s8)
      have U6 := hide (U5.out.below hb6 u8)
      clear s0 s1 s2 s3 s8 u0 u1 u2 u3 u8 C5 V5 U5 hb6
      obtain ⟨s0, s1, s2, s3, _, _, _, _, s8⟩ := V6.out
      obtain ⟨u0, u1, u2, u3, _, _, _, _, u8⟩ := U6.out
      go_wp2_with fail
      refine (A2.out _).mono ?_
      rintro e w7 ⟨rfl, hb7⟩
      have C7 := hide (C6.out.step hb7)
      clear s0 s1 s2 s3 s8 u0 u1 u2 u3 u8 C6 V6 U6 hb7
      go_wp2_with fail
      refine (drawIW_any (hide (hs2.out.below C7.out.2.2))).mono ?_
      rintro e x1 ⟨g1, g2, ga, gb, gc, gd, rfl, hbx⟩
      have X1 := hide (Six.start x1 g1 g2 ga gb gc gd 35 51)
      have BX1 := hide ((C7.out.2.2).trans (hbx.mono (C7.out.2.2).size))
      have HIW := hide (fun w => iw_any g1 g2 ga gb gc gd w)
      have HSW := hide (fun w => siw_any g1 g2 ga gb gc gd w)
      generalize withR g1 g2 ga gb gc gd = RR at *
      generalize withB g1 g2 ga gb gc gd = RB at *
      have hRR : (RR == RR) = true := by simp
      have hRB : (RB == RB) = true := by simp
      clear hbx
      go_wp2_with fail
      generalize (x1.alloc (.cells #[.int .i64 g1, .int .i64 g2] 35)).alloc (.cells #[.int .i64 ga, .int .i64 gb, .int .i64 gc, .int .i64 gd] 51) = XX at *
      refine (HIW.out _).mono ?_
      rintro e x2 ⟨rfl, hb2⟩
      have X2 := hide (X1.out.below hb2)
      obtain ⟨y0, y1, y2, y3, y4, y5, _, _⟩ := X2.out
      clear X1 hb2
      go_wp2_with fail
      refine (HSW.out _).mono ?_
      rintro e x3 ⟨rfl, hb3⟩
      have BX3 := hide (BX1.out.trans ((X2.out.below hb3).2.2.2.2.2.2.1.mono BX1.out.size))
      clear y0 y1 y2 y3 y4 y5 X2 hb3
      go_wp2_with fail
      go_ret
      exact ⟨rfl, BX3.out⟩
theorem lLe_walk {a1 a2 : Option Addr} {len1 cap1 len2 cap2 : Nat} {w : World} (hs1 : Src w a1 len1) (hs2 : Src w a2 len2) :
    Calls Try.prog 6 #[.slice a1 len1 cap1, .slice a2 len2 cap2] w fun e w' => e = .returned (.bool true) ∧ Below w.heap.size w w' := by
  by_cases h1 : (1048576 : Int) < wrap64 ((len1 : Int) + (len2 : Int))
  · exact lLe_long h1
  · exact lLe_main (hide hs1) (hide hs2) h1
end Go.Proofs.Yteepamahmpgpcab
