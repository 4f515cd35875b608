/-
  What l2Two, squareOfSum and the guesses by floats answer.
-/
import Derived.Test.YtdmdhmcnedmnbaaYa
import Derived.Test.YtdmdhmcnedmnbaaWr
import Derived.Test.YtdmdhmcnedmnbaaFz
import Derived.Laws.ComplexArith
namespace Go.Proofs.Ytdmdhmcnedmnbaa
open Go.RowKit

theorem ab_bd {a b : Int} (a0 : 0 ≤ a) (a1 : a ≤ 1000) (b0 : 0 ≤ b) (b1 : b ≤ 1000) : (0 ≤ 4 * a * b ∧ 4 * a * b ≤ 4000000) ∧ wrap64 (4 * a) = 4 * a ∧ wrap64 (4 * a * b) = 4 * a * b := by
  have h0 : 0 ≤ 4 * a * b := Int.mul_nonneg (by omega) b0
  have h1 : 4 * a * b ≤ 4000 * 1000 := Int.mul_le_mul (by omega) b1 b0 (by omega)
  exact ⟨⟨h0, by omega⟩, wrap_id _ (by omega) (by omega), wrap_id _ (by omega) (by omega)⟩
theorem l_bd {l : Int} (h0 : -2000 ≤ l) (h1 : l ≤ 2000) : 0 ≤ l * l ∧ l * l ≤ 4000000 := by
  by_cases h : 0 ≤ l
  · exact m_bd h h1
  · have := m_bd (m := -l) (by omega) (by omega)
    rwa [Int.neg_mul_neg] at this
theorem l4_bd {l X : Int} (h0 : -2000 ≤ l) (h1 : l ≤ 2000) (x0 : 0 ≤ X) (x1 : X ≤ 4000000) : wrap64 (4 * l) = 4 * l ∧ wrap64 (4 * l * l) = 4 * l * l ∧ wrap64 (4 * l * l * X) = 4 * l * l * X ∧ 0 ≤ 4 * l * l * X ∧ 4 * l * l * X ≤ 64000000000000 := by
  have a0 := l_bd h0 h1
  have e : 4 * l * l = 4 * (l * l) := Int.mul_assoc 4 l l
  have b0 : 0 ≤ 4 * l * l * X := Int.mul_nonneg (by omega) x0
  have b1 : 4 * l * l * X ≤ 16000000 * 4000000 := Int.mul_le_mul (by omega) x1 x0 (by omega)
  exact ⟨wrap_id _ (by omega) (by omega), wrap_id _ (by omega) (by omega), wrap_id _ (by omega) (by omega), b0, by omega⟩
theorem mixed_bd (n s : Int) : -1 ≤ Sq.mixed n s ∧ Sq.mixed n s ≤ 1 := by
  unfold Sq.mixed Sq.sign
  split <;> split <;> (try split) <;> omega

set_option maxHeartbeats 1000000 in
theorem two_any (a b c d : Int) (w : World) (a0 : 0 ≤ a) (a1 : a ≤ 1000) (b0 : 0 ≤ b) (b1 : b ≤ 1000) (c0 : 0 ≤ c) (c1 : c ≤ 1000) (d0 : 0 ≤ d) (d1 : d ≤ 1000) :
    Calls Try.prog 62 #[.int .i64 a, .int .i64 b, .int .i64 c, .int .i64 d] w fun e w' => e = .returned (.int .i64 (Sq.two a b c d)) ∧ w' = w := by
  obtain ⟨⟨x0, x1⟩, k1, k2⟩ := ab_bd a0 a1 b0 b1
  obtain ⟨⟨y0, y1⟩, k3, k4⟩ := ab_bd c0 c1 d0 d1
  obtain ⟨s0, s1⟩ := l_bd (l := a + b - c - d) (by omega) (by omega)
  obtain ⟨m1, m2, m3, m4, m5⟩ := l4_bd (l := a + b - c - d) (by omega) (by omega) x0 x1
  obtain ⟨n1, n2, n3, n4, n5⟩ := l4_bd (l := a + b - c - d) (by omega) (by omega) y0 y1
  have g0 : wrap64 ((a + b - c - d) * (a + b - c - d)) = (a + b - c - d) * (a + b - c - d) := wrap_id _ (by omega) (by omega)
  by_cases h0 : a + b - c - d = 0
  · have hv : Sq.two a b c d = Sq.sign (4 * a * b - 4 * c * d) := by unfold Sq.two; rw [if_pos h0]
    rw [hv]; clear hv m1 m2 m3 m4 m5 n1 n2 n3 n4 n5 s0 s1 g0
    go_enter Try.func62, Try.ntmps62
    go_wp2_with fail
    refine (sign_any _ _).mono ?_
    rintro e w1 ⟨rfl, rfl⟩
    go_wp2_with fail
    go_ret
    exact ⟨rfl, rfl⟩
  · have hz : (a + b - c - d == 0) = false := by simpa using h0
    by_cases h1 : 0 < a + b - c - d
    · have hv : Sq.two a b c d = Sq.mixed ((a + b - c - d) * (a + b - c - d) + 4 * a * b - 4 * c * d) (4 * (a + b - c - d) * (a + b - c - d) * (4 * a * b)) := by unfold Sq.two; rw [if_neg h0, if_pos h1]
      rw [hv]
      have HM := hide (fun w => mixed_any ((a + b - c - d) * (a + b - c - d) + 4 * a * b - 4 * c * d) (4 * (a + b - c - d) * (a + b - c - d) * (4 * a * b)) w (by omega) (by omega) m4 m5)
      clear hv n1 n2 n3 n4 n5 m4 m5
      go_enter Try.func62, Try.ntmps62
      go_wp2_with fail
      refine (HM.out _).mono ?_
      rintro e w1 ⟨rfl, rfl⟩
      go_wp2_with fail
      go_ret
      exact ⟨rfl, rfl⟩
    · have hv : Sq.two a b c d = - Sq.mixed ((a + b - c - d) * (a + b - c - d) + 4 * c * d - 4 * a * b) (4 * (a + b - c - d) * (a + b - c - d) * (4 * c * d)) := by unfold Sq.two; rw [if_neg h0, if_neg h1]
      rw [hv]
      have HM := hide (fun w => mixed_any ((a + b - c - d) * (a + b - c - d) + 4 * c * d - 4 * a * b) (4 * (a + b - c - d) * (a + b - c - d) * (4 * c * d)) w (by omega) (by omega) n4 n5)
      obtain ⟨z0, z1⟩ := mixed_bd ((a + b - c - d) * (a + b - c - d) + 4 * c * d - 4 * a * b) (4 * (a + b - c - d) * (a + b - c - d) * (4 * c * d))
      have HN := hide (show wrap64 (- Sq.mixed ((a + b - c - d) * (a + b - c - d) + 4 * c * d - 4 * a * b) (4 * (a + b - c - d) * (a + b - c - d) * (4 * c * d))) = - Sq.mixed ((a + b - c - d) * (a + b - c - d) + 4 * c * d - 4 * a * b) (4 * (a + b - c - d) * (a + b - c - d) * (4 * c * d)) from wrap_id _ (by omega) (by omega))
      clear hv m1 m2 m3 m4 m5 n4 n5
      go_enter Try.func62, Try.ntmps62
      go_wp2_with fail
      refine (HM.out _).mono ?_
      rintro e w1 ⟨rfl, rfl⟩
      go_wp2_with fail
      go_ret
      exact ⟨ret_int (by first | rfl | omega), rfl⟩

set_option maxHeartbeats 400000 in
theorem sum1_any (b o c : Nat) (x : Int) (w : World) (hb : b < w.heap.size) (hc : w.cell? ⟨b, o, none⟩ = some (.int .i64 x)) :
    Calls Try.prog 60 #[.slice (some ⟨b, o, none⟩) 1 c] w fun e w' => e = .returned (.agg #[.int .i64 x, .int .i64 0]) ∧ Below w.heap.size w w' := by
  have c0 : (w.alloc (Obj.cells #[Value.int IntKind.i64 0, Value.int IntKind.i64 0] 79)).cell? ⟨b, o, none⟩ = some (.int .i64 x) := ((Below.alloc (Below.refl w.heap.size w) (Nat.le_refl _) _).cell (p := ⟨b, o, none⟩) hb).trans hc
  go_enter Try.func60, Try.ntmps60
  go_wp2_with fail
  exact bodyPost_ret (v := .agg #[.int .i64 x, .int .i64 0]) (by simp [results, Try.results60, go_sem]) rfl ⟨rfl, (Below.refl _ _).alloc (Nat.le_refl _) _⟩
set_option maxHeartbeats 400000 in
theorem sum2_any (b o c : Nat) (x y : Int) (w : World) (x0 : 0 ≤ x) (x1 : x ≤ 1000) (y0 : 0 ≤ y) (y1 : y ≤ 1000) (hb : b < w.heap.size) (hc : w.cell? ⟨b, o, none⟩ = some (.int .i64 x)) (hd : w.cell? ⟨b, o + 1, none⟩ = some (.int .i64 y)) :
    Calls Try.prog 60 #[.slice (some ⟨b, o, none⟩) 2 c] w fun e w' => e = .returned (.agg #[.int .i64 (x + y), .int .i64 (4 * x * y)]) ∧ Below w.heap.size w w' := by
  obtain ⟨⟨u0, u1⟩, k1, k2⟩ := ab_bd x0 x1 y0 y1
  have c0 : (w.alloc (Obj.cells #[Value.int IntKind.i64 0, Value.int IntKind.i64 0] 79)).cell? ⟨b, o, none⟩ = some (.int .i64 x) := ((Below.alloc (Below.refl w.heap.size w) (Nat.le_refl _) _).cell (p := ⟨b, o, none⟩) hb).trans hc
  have c1 : (w.alloc (Obj.cells #[Value.int IntKind.i64 0, Value.int IntKind.i64 0] 79)).cell? ⟨b, o + 1, none⟩ = some (.int .i64 y) := ((Below.alloc (Below.refl w.heap.size w) (Nat.le_refl _) _).cell (p := ⟨b, o + 1, none⟩) hb).trans hd
  go_enter Try.func60, Try.ntmps60
  go_wp2_with fail
  have k3 : IntKind.i64.wrap (4 * x) = 4 * x := by rw [IntKind.wrap_i64]; omega
  have k4 : IntKind.i64.wrap (4 * x * y) = 4 * x * y := by rw [IntKind.wrap_i64]; omega
  have k5 : IntKind.i64.wrap (x + y) = x + y := by rw [IntKind.wrap_i64]; omega
  go_region
  go_wp2_with fail
  exact bodyPost_ret (v := .agg #[.int .i64 (x + y), .int .i64 (4 * x * y)]) (by simp [results, Try.results60, go_sem]) rfl ⟨rfl, ((Below.refl _ _).alloc (Nat.le_refl _) _).drew⟩

set_option maxHeartbeats 400000 in
theorem guess1_any (b o c s t : Nat) (x : Int) (w : World) (hc : w.cell? ⟨b, o, none⟩ = some (.int .i64 x)) (hs : FloatKind.f64.format.sqrt (FloatKind.f64.nearest x) = some s) (ht : FloatKind.f64.format.sqrt (FloatKind.f64.nearest 0) = some t) :
    Calls Try.prog 76 #[.slice (some ⟨b, o, none⟩) 1 c] w fun e w' => e = .returned (.complex .f64 s t) ∧ w' = w := by
  have HS := hide hs
  have HT := hide ht
  clear hs ht
  go_enter Try.func76, Try.ntmps76
  go_wp2_with fail
  refine (Sqrt_any HS.out _).mono ?_
  rintro e w1 ⟨rfl, rfl⟩
  go_wp2_with fail
  refine (Sqrt_any HT.out _).mono ?_
  rintro e w1 ⟨rfl, rfl⟩
  go_wp2_with fail
  go_ret
  exact ⟨rfl, rfl⟩
set_option maxHeartbeats 400000 in
theorem guess2_any (b o c s t : Nat) (x y : Int) (w : World) (hc : w.cell? ⟨b, o, none⟩ = some (.int .i64 x)) (hd : w.cell? ⟨b, o + 1, none⟩ = some (.int .i64 y)) (hs : FloatKind.f64.format.sqrt (FloatKind.f64.nearest x) = some s) (ht : FloatKind.f64.format.sqrt (FloatKind.f64.nearest y) = some t) :
    Calls Try.prog 76 #[.slice (some ⟨b, o, none⟩) 2 c] w fun e w' => e = .returned (.complex .f64 s t) ∧ w' = w := by
  have HS := hide hs
  have HT := hide ht
  clear hs ht
  go_enter Try.func76, Try.ntmps76
  go_wp2_with fail
  refine (Sqrt_any HS.out _).mono ?_
  rintro e w1 ⟨rfl, rfl⟩
  go_wp2_with fail
  refine (Sqrt_any HT.out _).mono ?_
  rintro e w1 ⟨rfl, rfl⟩
  go_wp2_with fail
  go_ret
  exact ⟨rfl, rfl⟩

set_option maxHeartbeats 400000 in
theorem gap_any (va vb : Value) (s0 s1 t0 t1 d1 d2 g : Nat) (w : World)
    (Ha : Hid (Calls Try.prog 76 #[va] w fun e w' => e = .returned (.complex .f64 s0 s1) ∧ w' = w)) (Hb : Hid (Calls Try.prog 76 #[vb] w fun e w' => e = .returned (.complex .f64 t0 t1) ∧ w' = w))
    (h1 : FloatKind.f64.format.sub s0 t0 = some d1) (h2 : FloatKind.f64.format.sub s1 t1 = some d2) (h3 : FloatKind.f64.format.add d1 d2 = some g) :
    Calls Try.prog 58 #[va, vb] w fun e w' => e = .returned (.float .f64 g) ∧ w' = w := by
  have q1 := fun w => run_complex_sum (P := Try.prog) w .sub (Or.inr rfl) 88 .f64 s0 s1 t0 t1 d1 d2 (by simp [cSumBits, floatBits, h1, h2])
  have q2 := fun w => run_float_arith (P := Try.prog) w .add 75 .f64 d1 d2 g (by simp [floatBits, h3])
  clear h1 h2 h3
  go_enter Try.func58, Try.ntmps58
  go_wp2_with fail
  refine Ha.out.mono ?_
  rintro e w1 ⟨rfl, hw⟩
  obtain rfl : w = w1 := hw.symm
  go_wp2_with fail
  refine Hb.out.mono ?_
  rintro e w1 ⟨rfl, hw⟩
  obtain rfl : w = w1 := hw.symm
  go_wp2_with fail
  go_ret
  exact ⟨rfl, rfl⟩

def okN (x : Int) : Bool := decide (0 ≤ x ∧ x ≤ 1000)
set_option maxHeartbeats 400000 in
theorem are_len (a : Option Addr) (n c : Nat) (w : World) (h : n < 1 ∨ 2 < n) :
    Calls Try.prog 57 #[.slice a n c] w fun e w' => e = .returned (.bool false) ∧ w' = w := by
  by_cases h1 : n < 1
  · have : (n : Int) < 1 := by omega
    go_enter Try.func57, Try.ntmps57
    go_wp2_with fail
    go_ret
    exact ⟨rfl, rfl⟩
  · have k1 : ¬ (n : Int) < 1 := by omega
    have k2 : (2 : Int) < n := by omega
    go_enter Try.func57, Try.ntmps57
    go_wp2_with fail
    go_ret
    exact ⟨rfl, rfl⟩
set_option maxHeartbeats 400000 in
theorem are_any (xs : List Int) (b o c : Nat) (w : World) (h0 : 1 ≤ xs.length) (h1 : xs.length ≤ 2) (hc : ∀ i, i < xs.length → w.cell? ⟨b, o + i, none⟩ = some (.int .i64 (xs.getD i 0))) :
    Calls Try.prog 57 #[.slice (some ⟨b, o, none⟩) xs.length c] w fun e w' => e = .returned (.bool (xs.all okN)) ∧ w' = w := by
  have k1 : ¬ (xs.length : Int) < 1 := by omega
  have k2 : ¬ (2 : Int) < xs.length := by omega
  have HCC := hide hc
  clear hc
  go_enter Try.func57, Try.ntmps57
  go_wp2_with fail
  go_loop [15] (fun s => ∃ k : Nat, s = .int .i64 k ∧ k ≤ xs.length ∧ Hid ((xs.take k).all okN = true)) (fun s => xs.length - (intOf s).toNat)
  case atStart => exact ⟨0, rfl, Nat.zero_le _, hide (by simp)⟩
  case round =>
    obtain ⟨k, rfl, hk, HA⟩ := hrel
    by_cases hlt : k < xs.length
    · have r1 := HCC.out k hlt
      have i0 : (0 : Int) ≤ (k : Int) := by omega
      have i1 : (k : Int) < (xs.length : Int) := by omega
      have hx : xs[k]? = some (xs.getD k 0) := by simp [hlt]
      have HX := hide hx
      clear hx
      generalize xs.getD k 0 = x at *
      cases hok : okN x
      · have HV := hide (show xs.all okN = false by
          rw [List.all_eq_false]; exact ⟨x, List.mem_of_getElem? HX.out, by simp [hok]⟩)
        have hor : x < 0 ∨ 1000 < x := by simp [okN] at hok; omega
        by_cases hx0 : x < 0
        · clear hor hok
          go_wp2_with fail
          go_ret
          exact ⟨ret_bool HV.out.symm, rfl⟩
        · have hx1 : 1000 < x := by omega
          clear hor hok
          go_wp2_with fail
          go_ret
          exact ⟨ret_bool HV.out.symm, rfl⟩
      · have hx0 : ¬ x < 0 := by simp [okN] at hok; omega
        have hx1 : ¬ 1000 < x := by simp [okN] at hok; omega
        have HO := hide hok
        clear hok
        go_wp2_with fail
        go_round
        case rel => exact ⟨k + 1, by go_num, by omega, hide (by rw [List.take_add_one, HX.out, List.all_append, HA.out]; simp [HO.out])⟩
        case measure => simp only [intOf]; omega
    · have hke : k = xs.length := by omega
      subst hke
      have HV := hide (show xs.all okN = true by have := HA.out; rwa [List.take_length] at this)
      go_wp2_with fail
      go_ret
      exact ⟨ret_bool HV.out.symm, rfl⟩
end Go.Proofs.Ytdmdhmcnedmnbaa
