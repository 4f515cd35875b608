/-
  What CompareRoots answers, the program's and the model's.
-/
import Derived.Test.YtdmdhmcnedmnbaaYd
import Derived.Deep.RegionHeld3
namespace Go.Proofs.Ytdmdhmcnedmnbaa
open Go.RowKit

set_option maxHeartbeats 400000 in
theorem scr_n1 (va vb : Value) (w : World) (Ha : Hid (Calls Try.prog 61 #[va] w fun e w' => e = .returned (.bool false) ∧ w' = w)) :
    Calls Try.prog 28 #[va, vb] w fun e w' => e = .returned (.tuple #[.int .i64 0, .bool false]) ∧ w' = w := by
  go_enter Try.func28, Try.ntmps28
  go_wp2_with fail
  refine Ha.out.mono ?_
  rintro e w1 ⟨rfl, hw⟩
  obtain rfl : w = w1 := hw.symm
  go_wp2_with fail
  go_ret2
  exact ⟨rfl, rfl⟩
set_option maxHeartbeats 400000 in
theorem scr_n2 (va vb : Value) (w : World) (Ha : Hid (Calls Try.prog 61 #[va] w fun e w' => e = .returned (.bool true) ∧ w' = w)) (Hb : Hid (Calls Try.prog 61 #[vb] w fun e w' => e = .returned (.bool false) ∧ w' = w)) :
    Calls Try.prog 28 #[va, vb] w fun e w' => e = .returned (.tuple #[.int .i64 0, .bool false]) ∧ w' = w := by
  go_enter Try.func28, Try.ntmps28
  go_wp2_with fail
  refine Ha.out.mono ?_
  rintro e w1 ⟨rfl, hw⟩
  obtain rfl : w = w1 := hw.symm
  go_wp2_with fail
  refine Hb.out.mono ?_
  rintro e w1 ⟨rfl, hw⟩
  obtain rfl : w = w1 := hw.symm
  go_wp2_with fail
  go_ret2
  exact ⟨rfl, rfl⟩
set_option maxHeartbeats 400000 in
theorem cr_n1 (va vb : Value) (w : World) (Ha : Hid (Calls Try.prog 57 #[va] w fun e w' => e = .returned (.bool false) ∧ w' = w)) :
    Calls Try.prog 27 #[va, vb] w fun e w' => e = .returned (.tuple #[.int .i64 0, .bool false]) ∧ w' = w := by
  go_enter Try.func27, Try.ntmps27
  go_wp2_with fail
  refine Ha.out.mono ?_
  rintro e w1 ⟨rfl, hw⟩
  obtain rfl : w = w1 := hw.symm
  go_wp2_with fail
  go_ret2
  exact ⟨rfl, rfl⟩
set_option maxHeartbeats 400000 in
theorem cr_n2 (va vb : Value) (w : World) (Ha : Hid (Calls Try.prog 57 #[va] w fun e w' => e = .returned (.bool true) ∧ w' = w)) (Hb : Hid (Calls Try.prog 57 #[vb] w fun e w' => e = .returned (.bool false) ∧ w' = w)) :
    Calls Try.prog 27 #[va, vb] w fun e w' => e = .returned (.tuple #[.int .i64 0, .bool false]) ∧ w' = w := by
  go_enter Try.func27, Try.ntmps27
  go_wp2_with fail
  refine Ha.out.mono ?_
  rintro e w1 ⟨rfl, hw⟩
  obtain rfl : w = w1 := hw.symm
  go_wp2_with fail
  refine Hb.out.mono ?_
  rintro e w1 ⟨rfl, hw⟩
  obtain rfl : w = w1 := hw.symm
  go_wp2_with fail
  go_ret2
  exact ⟨rfl, rfl⟩

theorem R32_int {n r : Nat} (h : Fz.R32 n r) : (r : Int) * r ≤ (n : Int) * 18446744073709551616 ∧ (n : Int) * 18446744073709551616 < ((r : Int) + 1) * ((r : Int) + 1) := by
  obtain ⟨h1, h2⟩ := h
  have a1 : ((r * r : Nat) : Int) ≤ ((n * 18446744073709551616 : Nat) : Int) := Int.ofNat_le.mpr h1
  have a2 : ((n * 18446744073709551616 : Nat) : Int) < (((r + 1) * (r + 1) : Nat) : Int) := Int.ofNat_lt.mpr h2
  simp only [Int.natCast_mul, Int.natCast_add, Int.natCast_one] at a1 a2
  exact ⟨a1, a2⟩

theorem sq_of {w : World} {va vb : Value} {a0 a1 b0 b1 : Int} (pa : Pair w va a0 a1) (pb : Pair w vb b0 b1) (w' : World) :
    Calls Try.prog 59 #[.agg #[.int .i64 (a0 + a1), .int .i64 (4 * a0 * a1)], .agg #[.int .i64 (b0 + b1), .int .i64 (4 * b0 * b1)]] w' fun e w'' => e = .returned (.int .i64 (Sq.sq (a0 + a1) (4 * a0 * a1) (b0 + b1) (4 * b0 * b1))) ∧ Below w'.heap.size w' w'' := by
  obtain ⟨⟨u0, u1⟩, _, _⟩ := ab_bd pa.x0 pa.x1 pa.y0 pa.y1
  obtain ⟨⟨v0, v1⟩, _, _⟩ := ab_bd pb.x0 pb.x1 pb.y0 pb.y1
  have := pa.x0; have := pa.x1; have := pa.y0; have := pa.y1; have := pb.x0; have := pb.x1; have := pb.y0; have := pb.y1
  exact sq_any _ _ _ _ w' (by omega) (by omega) u0 u1 (by omega) (by omega) v0 v1
set_option maxHeartbeats 1000000 in
theorem cr_yes {va vb : Value} {a0 a1 b0 b1 : Int} {w : World} (pa : Pair w va a0 a1) (pb : Pair w vb b0 b1)
    (Ha : Hid (Calls Try.prog 57 #[va] w fun e w' => e = .returned (.bool true) ∧ w' = w)) (Hb : Hid (Calls Try.prog 57 #[vb] w fun e w' => e = .returned (.bool true) ∧ w' = w)) :
    Calls Try.prog 27 #[va, vb] w fun e w' => e = .returned (.tuple #[.int .i64 (Sq.two a0 a1 b0 b1), .bool true]) ∧ Below w.heap.size w w' := by
  obtain ⟨sa0, sa1, sb0, sb1, d1, d2, g, q1, q2, q3, q4, q5, q6, q7, ra0, ra1, rb0, rb1, r1, r2, r3, r4, glt, ggt⟩ := Fz.gap_num a0.toNat a1.toNat b0.toNat b1.toNat (by have := pa.x1; omega) (by have := pa.y1; omega) (by have := pb.x1; omega) (by have := pb.y1; omega)
  have HG := hide (gap_any va vb sa0 sa1 sb0 sb1 d1 d2 g w (hide (pa.guess q1 q2)) (hide (pb.guess q3 q4)) q5 q6 q7)
  have ea0 : ((a0.toNat : Nat) : Int) = a0 := by have := pa.x0; omega
  have ea1 : ((a1.toNat : Nat) : Int) = a1 := by have := pa.y0; omega
  have eb0 : ((b0.toNat : Nat) : Int) = b0 := by have := pb.x0; omega
  have eb1 : ((b1.toNat : Nat) : Int) = b1 := by have := pb.y0; omega
  have R1 := R32_int r1
  have R2 := R32_int r2
  have R3 := R32_int r3
  have R4 := R32_int r4
  rw [ea0] at R1; rw [ea1] at R2; rw [eb0] at R3; rw [eb1] at R4
  have HLT := hide (show (FloatKind.f64.format.order g 13785626545772145148 == some .lt) = true → Sq.two a0 a1 b0 b1 = -1 from fun h => by
    have hh := glt h
    have := Sq.two_one b0 b1 a0 a1 18446744073709551616 rb0 rb1 ra0 ra1 pb.x0 pb.y0 pa.x0 pa.y0 (by omega) (by omega) (by omega) (by omega) (by omega) R3.1 R4.1 R1.2 R2.2 (by omega)
    rw [Sq.two_anti] at this; omega)
  have HGT := hide (show (FloatKind.f64.format.order g 4562254508917369340 == some .gt) = true → Sq.two a0 a1 b0 b1 = 1 from fun h => by
    have hh := ggt h
    exact Sq.two_one a0 a1 b0 b1 18446744073709551616 ra0 ra1 rb0 rb1 pa.x0 pa.y0 pb.x0 pb.y0 (by omega) (by omega) (by omega) (by omega) (by omega) R1.1 R2.1 R3.2 R4.2 (by omega))
  have HPA := hide pa
  have HPB := hide pb
  clear glt ggt R1 R2 R3 R4 r1 r2 r3 r4 q1 q2 q3 q4 q5 q6 q7 ea0 ea1 eb0 eb1 pa pb
  cases hlt : (FloatKind.f64.format.order g 13785626545772145148 == some .lt)
  · cases hgt : (FloatKind.f64.format.order g 4562254508917369340 == some .gt)
    · have HV := hide (Sq.sq_two a0 a1 b0 b1 HPA.out.x0 HPA.out.y0 HPB.out.x0 HPB.out.y0)
      go_enter Try.func27, Try.ntmps27
      go_wp2_with fail
      refine Ha.out.mono ?_
      rintro e w1 ⟨rfl, hw⟩
      obtain rfl : w = w1 := hw.symm
      go_wp2_with fail
      refine Hb.out.mono ?_
      rintro e w1 ⟨rfl, hw⟩
      obtain rfl : w = w1 := hw.symm
      go_wp2_with fail
      refine HG.out.mono ?_
      rintro e w1 ⟨rfl, hw⟩
      obtain rfl : w = w1 := hw.symm
      go_wp2_with fail
      refine (HPA.out.sum (Below.refl _ _)).mono ?_
      rintro e w1 ⟨rfl, hb1⟩
      go_wp2_with fail
      refine (HPB.out.sum hb1).mono ?_
      rintro e w2 ⟨rfl, hb2⟩
      have HQ := hide (sq_of HPA.out HPB.out w2)
      have hB2 : Below w.heap.size w w2 := hb1.trans (hb2.mono hb1.size)
      go_wp2_with fail
      refine HQ.out.mono ?_
      rintro e w3 ⟨rfl, hb3⟩
      go_wp2_with fail
      go_ret2
      exact ⟨by rw [← HV.out]; rfl, hB2.trans (hb3.mono hB2.size)⟩
    · have HV := hide (HGT.out hgt)
      go_enter Try.func27, Try.ntmps27
      go_wp2_with fail
      refine Ha.out.mono ?_
      rintro e w1 ⟨rfl, hw⟩
      obtain rfl : w = w1 := hw.symm
      go_wp2_with fail
      refine Hb.out.mono ?_
      rintro e w1 ⟨rfl, hw⟩
      obtain rfl : w = w1 := hw.symm
      go_wp2_with fail
      refine HG.out.mono ?_
      rintro e w1 ⟨rfl, hw⟩
      obtain rfl : w = w1 := hw.symm
      go_wp2_with fail
      go_ret2
      exact ⟨by rw [HV.out]; rfl, Below.refl _ _⟩
  · have HV := hide (HLT.out hlt)
    go_enter Try.func27, Try.ntmps27
    go_wp2_with fail
    refine Ha.out.mono ?_
    rintro e w1 ⟨rfl, hw⟩
    obtain rfl : w = w1 := hw.symm
    go_wp2_with fail
    refine Hb.out.mono ?_
    rintro e w1 ⟨rfl, hw⟩
    obtain rfl : w = w1 := hw.symm
    go_wp2_with fail
    refine HG.out.mono ?_
    rintro e w1 ⟨rfl, hw⟩
    obtain rfl : w = w1 := hw.symm
    go_wp2_with fail
    go_ret2
    exact ⟨by rw [HV.out]; rfl, Below.refl _ _⟩
theorem Pair.same {w w' : World} {v : Value} {x y : Int} (h : Pair w v x y) (hh : w'.heap = w.heap) : Pair w' v x y := by
  obtain ⟨⟨b, o, c, n, hv, hb, hx, hy⟩, x0, x1, y0, y1⟩ := h
  have e : ∀ a, w'.cell? a = w.cell? a := fun a => World.cell?_of_block (by rw [hh])
  refine ⟨⟨b, o, c, n, hv, by rw [hh]; exact hb, (e _).trans hx, ?_⟩, x0, x1, y0, y1⟩
  rcases hy with h | ⟨h, h'⟩
  · exact Or.inl h
  · exact Or.inr ⟨h, (e _).trans h'⟩
set_option maxHeartbeats 1000000 in
theorem scr_yes {va vb : Value} {a0 a1 b0 b1 : Int} {w : World} (pa : Pair w va a0 a1) (pb : Pair w vb b0 b1)
    (Ha : Hid (Calls Try.prog 61 #[va] w fun e w' => e = .returned (.bool true) ∧ w' = w)) (Hb : Hid (Calls Try.prog 61 #[vb] w fun e w' => e = .returned (.bool true) ∧ w' = w)) :
    Calls Try.prog 28 #[va, vb] w fun e w' => e = .returned (.tuple #[.int .i64 (Sq.two a0 a1 b0 b1), .bool true]) ∧ Below w.heap.size w w' := by
  have HTA := hide (fun (w' : World) (hh : w'.heap = w.heap) => (pa.same hh).term)
  have HTB := hide (fun (w' : World) (hh : w'.heap = w.heap) => (pb.same hh).term)
  have H2 := hide (fun w => two_any a0 a1 b0 b1 w pa.x0 pa.x1 pa.y0 pa.y1 pb.x0 pb.x1 pb.y0 pb.y1)
  obtain ⟨ba, oa, ca, na, rfl, ga, xa, ya⟩ := pa.shape
  obtain ⟨bb, ob, cb, nb, rfl, gb, xb, yb⟩ := pb.shape
  have ha : (0 : Int) < na := by rcases ya with ⟨h, _⟩ | ⟨h, _⟩ <;> omega
  have hb : (0 : Int) < nb := by rcases yb with ⟨h, _⟩ | ⟨h, _⟩ <;> omega
  clear ya yb pa pb
  go_enter Try.func28, Try.ntmps28
  go_wp2_with fail
  refine Ha.out.mono ?_
  rintro e w1 ⟨rfl, hw⟩
  obtain rfl : w = w1 := hw.symm
  go_wp2_with fail
  refine Hb.out.mono ?_
  rintro e w1 ⟨rfl, hw⟩
  obtain rfl : w = w1 := hw.symm
  go_wp2_with fail
  go_quiet ((first | (go_at_call_of 63 (Value.slice (some { block := ba, off := oa }) na ca); exact Calls.quiet_of_same (HTA.out _ rfl)) | (go_at_call_of 63 (Value.slice (some { block := bb, off := ob }) nb cb); exact Calls.quiet_of_same (HTB.out _ rfl)) | (go_at_call 62; exact Calls.quiet_of_same (H2.out _))))
  go_wp2_with fail
  go_ret2
  exact ⟨rfl, below_drewN (Below.refl _ _) _⟩
end Go.Proofs.Ytdmdhmcnedmnbaa
