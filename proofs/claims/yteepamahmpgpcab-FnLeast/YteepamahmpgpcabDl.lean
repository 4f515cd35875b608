/-
  Draws of chapter 5: the cursor's bounds.
-/
import Derived.Test.YteepamahmpgpcabDk
namespace Go.Proofs.Yteepamahmpgpcab
open Go.RowKit

set_option maxRecDepth 100000 in
set_option maxHeartbeats 2000000 in
theorem cbounds_any {c len cap N : Nat} {a : Option Addr} {w : World} (hc : Cur w c a len cap N) (hN : N ≤ 700000000) :
    Calls Try.prog 96 #[.pointer (some ⟨c, 0, none⟩)] w fun e w' => ∃ p q r s : Int, e = .returned (.agg #[.int .i64 p, .int .i64 q, .int .i64 r, .int .i64 s]) ∧ Cur w' c a len cap (N + 30) ∧ Kp c w w' := by
  have hcs : c < w.heap.size := hc.1
  have hbb : ∀ b off, a = some ⟨b, off, none⟩ → 0 < len → b ≠ w.heap.size := fun b off e hl => by have := (hc.2.2.2.2.2.2.2 b off e hl).2; omega
  have HBB := hide hbb
  have HC := hide (hc.below (below_alloc w (.cells #[.int .i64 0, .int .i64 0, .int .i64 0, .int .i64 0] 51)))
  have HF0 := hide (Four.new w 0 0 0 0 51)
  clear hc hbb
  go_enter Try.func96, Try.ntmps96
  go_wp2_with fail
  refine (pick_any 200 (by omega) HC.out (by omega)).mono ?_
  rintro e w1 ⟨x, rfl, x0, x1, hc1, hk1⟩
  have HC1 := hide hc1
  have HK1 := hide (((Kp.refl c w).alloc _).trans hk1)
  have HF1 := hide (HF0.out.kp hk1 (by omega))
  clear hc1 hk1 HF0 HC
  go_wp2_with fail
  refine (pick_any 10 (by omega) HC1.out (by omega)).mono ?_
  rintro e w2 ⟨y, rfl, y0, y1, hc2, hk2⟩
  have HC2 := hide hc2
  have HK2 := hide (HK1.out.trans hk2)
  have HF2 := hide (HF1.out.kp hk2 (by omega))
  obtain ⟨p, q, r, s, ok, _, hrb⟩ := rb_both x (1 + y)
  have HRB := hide hrb
  clear hc2 hk2 HF1 HC1 HK1 hrb
  go_wp2_with fail
  refine (HRB.out _).mono ?_
  rintro e w3 ⟨rfl, hb3⟩
  have HC3 := hide ((HC2.out.below hb3).below (below_alloc w3 (.cells #[.int .i64 p, .int .i64 q, .int .i64 r, .int .i64 s] 51)))
  have HK3 := hide ((HK2.out.trans (Kp.of_below hb3)).alloc (.cells #[.int .i64 p, .int .i64 q, .int .i64 r, .int .i64 s] 51))
  have HF3 := hide ((HF2.out.below hb3 HF2.out.2.2.2.2.2.2.2.2).below (below_alloc w3 (.cells #[.int .i64 p, .int .i64 q, .int .i64 r, .int .i64 s] 51)) (HF2.out.below hb3 HF2.out.2.2.2.2.2.2.2.2).2.2.2.2.2.2.2.2)
  have HV3 := hide (Four.new w3 p q r s 51)
  have hVc : c < w3.heap.size := by have := HC2.out.1; have := hb3.size; omega
  have hV : w.heap.size < w3.heap.size := (HF2.out.below hb3 HF2.out.2.2.2.2.2.2.2.2).2.2.2.2.2.2.2.2
  clear HC2 HK2 HF2 HRB hb3
  cases ok
  · go_wp2_with fail
    generalize w3.alloc (.cells #[.int .i64 p, .int .i64 q, .int .i64 r, .int .i64 s] 51) = W3 at *
    generalize w3.heap.size = V at *
    refine (frac_any HC3.out (by omega)).mono ?_
    rintro e w4 ⟨g1, g2, rfl, hc4, hk4⟩
    have HC4 := hide hc4
    have HK4 := hide (HK3.out.trans hk4)
    have HF4 := hide (HF3.out.kp hk4 (by omega))
    clear hc4 hk4 HC3 HK3 HF3 HV3
    go_wp2_with fail
    refine (frac_any HC4.out (by omega)).mono ?_
    rintro e w5 ⟨g3, g4, rfl, hc5, hk5⟩
    have HC5 := hide hc5
    have HK5 := hide (HK4.out.trans hk5)
    have HF5 := hide (HF4.out.kp hk5 (by omega))
    clear hc5 hk5 HC4 HK4 HF4
    obtain ⟨z0, z1, z2, z3, u0, u1, u2, u3, z9⟩ := HF5.out
    go_wp2_with fail
    refine bodyPost_ret (v := .agg #[.int .i64 g1, .int .i64 g2, .int .i64 g3, .int .i64 g4]) (by simp [results, Try.results96, go_sem, *]) rfl ⟨_, _, _, _, rfl, ?_, ?_⟩
    · exact (((((HC5.out.le (by omega)).set (by omega) HBB.out).set (by omega) HBB.out).set (by omega) HBB.out).set (by omega) HBB.out)
    · exact (((HK5.out.setNew (Nat.le_refl _) _ _).setNew (Nat.le_refl _) _ _).setNew (Nat.le_refl _) _ _).setNew (Nat.le_refl _) _ _
  · go_wp2_with fail
    generalize w3.alloc (.cells #[.int .i64 p, .int .i64 q, .int .i64 r, .int .i64 s] 51) = W3 at *
    generalize w3.heap.size = V at *
    refine (one_any 12 (by omega) HC3.out (by omega)).mono ?_
    rintro e w3' ⟨o1, rfl, hc3, hk3⟩
    have HC3' := hide hc3
    have HK3' := hide (HK3.out.trans hk3)
    have HF3' := hide (HF3.out.kp hk3 (by omega))
    have HV3' := hide (HV3.out.kp hk3 (by omega))
    clear hc3 hk3 HC3 HK3 HF3 HV3
    cases o1
    · obtain ⟨z0, z1, z2, z3, u0, u1, u2, u3, z9⟩ := HF3'.out
      obtain ⟨v0, v1, v2, v3, _, _, _, _, v9⟩ := HV3'.out
      go_wp2_with fail
      refine bodyPost_ret (v := .agg #[.int .i64 p, .int .i64 q, .int .i64 r, .int .i64 s]) (by simp [results, Try.results96, go_sem, *]) rfl ⟨_, _, _, _, rfl, ?_, ?_⟩
      · exact (((((HC3'.out.le (by omega)).set (by omega) HBB.out).set (by omega) HBB.out).set (by omega) HBB.out).set (by omega) HBB.out)
      · exact (((HK3'.out.setNew (Nat.le_refl _) _ _).setNew (Nat.le_refl _) _ _).setNew (Nat.le_refl _) _ _).setNew (Nat.le_refl _) _ _
    · go_wp2_with fail
      refine (frac_any HC3'.out (by omega)).mono ?_
      rintro e w4 ⟨g1, g2, rfl, hc4, hk4⟩
      have HC4 := hide hc4
      have HK4 := hide (HK3'.out.trans hk4)
      have HF4 := hide (HF3'.out.kp hk4 (by omega))
      clear hc4 hk4 HC3' HK3' HF3' HV3'
      go_wp2_with fail
      refine (frac_any HC4.out (by omega)).mono ?_
      rintro e w5 ⟨g3, g4, rfl, hc5, hk5⟩
      have HC5 := hide hc5
      have HK5 := hide (HK4.out.trans hk5)
      have HF5 := hide (HF4.out.kp hk5 (by omega))
      clear hc5 hk5 HC4 HK4 HF4
      obtain ⟨z0, z1, z2, z3, u0, u1, u2, u3, z9⟩ := HF5.out
      go_wp2_with fail
      refine bodyPost_ret (v := .agg #[.int .i64 g1, .int .i64 g2, .int .i64 g3, .int .i64 g4]) (by simp [results, Try.results96, go_sem, *]) rfl ⟨_, _, _, _, rfl, ?_, ?_⟩
      · exact (((((HC5.out.le (by omega)).set (by omega) HBB.out).set (by omega) HBB.out).set (by omega) HBB.out).set (by omega) HBB.out)
      · exact (((HK5.out.setNew (Nat.le_refl _) _ _).setNew (Nat.le_refl _) _ _).setNew (Nat.le_refl _) _ _).setNew (Nat.le_refl _) _ _
end Go.Proofs.Yteepamahmpgpcab
