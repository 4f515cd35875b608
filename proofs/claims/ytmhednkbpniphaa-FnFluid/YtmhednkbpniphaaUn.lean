/-
  What withoutCommon answers: both numbers without what divides both.
-/
import Derived.Test.YtmhednkbpniphaaUm
import Derived.Test.YtmhednkbpniphaaBase
namespace Go.Proofs.Ytmhednkbpniphaa
open Go.RowKit

theorem AV.drewN {w : World} {b : Nat} {xs : List Int} (h : AV w b xs) (q : Nat) : AV (w.drewN q) b xs := h.below (below_drewN (Below.refl _ _) q)
theorem quo_nums {x c : Nat} (c0 : 0 < c) (hx : x ≤ 1000000000) : ((c : Int) == 0) = false ∧ ¬ (c : Int) = 0 ∧ (0 : Int) < (c : Int) ∧ Int.tdiv (x : Int) (c : Int) = ((x / c : Nat) : Int) ∧ (x : Int) / (c : Int) = ((x / c : Nat) : Int) ∧ wrap64 ((x / c : Nat) : Int) = ((x / c : Nat) : Int) := by
  have h1 := Nat.div_le_self x c
  refine ⟨by simp; omega, by omega, by omega, ?_, by simp, ?_⟩
  · rw [Int.tdiv_eq_ediv_of_nonneg (by omega)]; simp
  · generalize x / c = y at *; exact wrap_id _ (by omega) (by omega)
theorem gcd_nat {x r : Nat} {w : World} (hx : x ≤ 1000000000) (hr : r ≤ 1000000000) :
    Calls Try.prog 79 #[.int .i64 x, .int .i64 r] w fun e w' => e = .returned (.int .i64 ((Nat.gcd x r : Nat) : Int)) ∧ ∃ k, w' = w.drewN k :=
  gcd_any _ _ _ (by omega) (by omega)
theorem lng_small {n m C : Nat} (h : n = m * C) (hC : 0 < C) (hn : n < Lg.B ^ 21) : m < Lg.B ^ 21 := Nat.lt_of_le_of_lt (by rw [h]; exact Nat.le_mul_of_pos_right m hC) hn
theorem le_of_mul {b x C : Nat} (h : b = x * C) (hb : 0 < b) : x ≤ b ∧ 0 < C := by
  rcases Nat.eq_zero_or_pos C with e | e
  · subst e; omega
  · exact ⟨by rw [h]; exact Nat.le_mul_of_pos_right x e, e⟩

set_option maxRecDepth 100000 in
set_option maxHeartbeats 4000000 in
theorem without_any (n b : Nat) (w : World) (hn : n < Lg.B ^ 21) (b0 : 0 < b) (hb : b ≤ 1000000000) :
    Calls Try.prog 88 #[.agg (lv (Lg.lng n)), .int .i64 b] w fun e w' => e = .returned (.tuple #[.agg (lv (Lg.lng (Lg.fewN n b))), .int .i64 ((Lg.fewD n b : Nat) : Int)]) ∧ Below w.heap.size w w' := by
  have HN := hide (AV.new w (Lg.lng n) (Lg.lng_len n) 89)
  have HZ := hide (zs_new (w.alloc (.cells (lv (Lg.lng n)) 89)) 89)
  have HS := hide hn
  clear hn
  generalize lv (Lg.lng n) = c at *
  go_enter Try.func88, Try.ntmps88
  go_wp2_with fail
  go_loopw [1, 5] (fun s1 s5 wr => ∃ (m x C : Nat), s1 = .int .i64 x ∧ s5 = .int .i64 0 ∧ 0 < x ∧ Hid (n = m * C) ∧ Hid (b = x * C) ∧ Hid (AV wr w.heap.size (Lg.lng m)) ∧ Hid (AV wr (w.heap.size + 1) zs) ∧ Below w.heap.size w wr) (fun s _ _ => (intOf s).toNat)
  case atStart => exact ⟨n, b, 1, rfl, rfl, b0, hide (by simp), hide (by simp), hide (HN.out.below ((Below.refl _ _).alloc (Nat.le_refl _) _)), hide (by have := HZ.out; simpa using this), ((Below.refl _ _).alloc (Nat.le_refl _) _).alloc (by simp) _⟩
  case round =>
    obtain ⟨m, x, C, rfl, rfl, x0, E1, E2, HX, HZ1, hB⟩ := hrel
    have xb := le_of_mul E2.out b0
    have x9 : x ≤ 1000000000 := by omega
    have HMS := hide (lng_small E1.out xb.2 HS.out)
    clear xb
    have hH : w.heap.size < wr.heap.size := HX.out.2.1
    go_wp2_with (first | (refine wl_load rfl _ rfl rfl HX ?_))
    refine (over_any m x wr HMS.out x0 x9).mono ?_
    rintro e w1 ⟨rfl, hb1⟩
    have hH1 := hb1.size
    have HN1 := hide (zs_new w1 89)
    have HX1 := hide ((HX.out.below hb1).below (w' := w1.alloc (.cells #[.int .i64 0, .int .i64 0, .int .i64 0, .int .i64 0, .int .i64 0, .int .i64 0, .int .i64 0, .int .i64 0, .int .i64 0, .int .i64 0, .int .i64 0, .int .i64 0, .int .i64 0, .int .i64 0, .int .i64 0, .int .i64 0, .int .i64 0, .int .i64 0, .int .i64 0, .int .i64 0, .int .i64 0] 89)) ((Below.refl _ _).alloc (Nat.le_refl _) _))
    have HZ2 := hide ((HZ1.out.below hb1).below (w' := w1.alloc (.cells #[.int .i64 0, .int .i64 0, .int .i64 0, .int .i64 0, .int .i64 0, .int .i64 0, .int .i64 0, .int .i64 0, .int .i64 0, .int .i64 0, .int .i64 0, .int .i64 0, .int .i64 0, .int .i64 0, .int .i64 0, .int .i64 0, .int .i64 0, .int .i64 0, .int .i64 0, .int .i64 0, .int .i64 0] 89)) ((Below.refl _ _).alloc (Nat.le_refl _) _))
    have hH2 : w.heap.size + 1 < w1.heap.size := Nat.lt_of_lt_of_le HZ1.out.2.1 hH1
    have hB1 : Below w.heap.size w (w1.alloc (.cells #[.int .i64 0, .int .i64 0, .int .i64 0, .int .i64 0, .int .i64 0, .int .i64 0, .int .i64 0, .int .i64 0, .int .i64 0, .int .i64 0, .int .i64 0, .int .i64 0, .int .i64 0, .int .i64 0, .int .i64 0, .int .i64 0, .int .i64 0, .int .i64 0, .int .i64 0, .int .i64 0, .int .i64 0] 89)) := (hB.trans (hb1.mono (by omega))).alloc (by omega) _
    clear HX HZ1 hB hb1
    go_wp2_with (first | (refine wl_store rfl _ _ rfl rfl rfl HN1 (Lg.lng_len _) ?_; intro w2 A2 T2; have HX2 := hide (HX1.out.turn T2 (by omega)); have HZ3 := hide (HZ2.out.turn T2 (by omega)); have hB2 := hB1.trans (T2.2.1 _ (by omega)); clear HX1 HZ2 hB1 HN1 A2 T2))
    have hr : m % x ≤ 1000000000 := by have := Nat.mod_lt m x0; omega
    refine (gcd_nat x9 hr).mono ?_
    rintro e w3 ⟨rfl, q, rfl⟩
    have HX3 := hide (HX2.out.drewN q)
    have HZ4 := hide (HZ3.out.drewN q)
    have hB3 := below_drewN hB2 q
    obtain ⟨s1, s2, s3, s4⟩ := Lg.common_step E1.out E2.out x0
    clear HX2 HZ3 hB2
    by_cases hc : Nat.gcd x (m % x) = 1
    · have HE := hide (Lg.few_uniq E1.out E2.out b0 (Lg.common_end hc))
      rw [hc]
      have hcc : ((1 : Int) == 1) = true := by decide
      clear s1 s2 s3 s4 hc
      rw [HE.out.1] at HX3
      rw [HE.out.2]
      generalize w2.drewN q = w4 at *
      go_wp2_with (first
        | (refine wl_load rfl _ rfl rfl HX3 ?_)
        | (refine wl_store rfl _ _ rfl rfl rfl HZ4 (Lg.lng_len _) ?_; intro w5 A5 T5))
      exact bodyPost_ret (v := .tuple #[.agg (lv (Lg.lng (Lg.fewN n b))), .int .i64 ((Lg.fewD n b : Nat) : Int)]) (by rw [results_cell_tmp Try.results88]; simp [asAddr, Result.andThen, A5.loadVar]) rfl ⟨rfl, hB3.trans (T5.2.1 _ (by omega))⟩
    · have hl := Lg.common_less x0 hc
      have hcle : Nat.gcd x (m % x) ≤ x := Nat.le_of_dvd x0 (Nat.gcd_dvd_left _ _)
      have hcc : (((Nat.gcd x (m % x) : Nat) : Int) == 1) = false := by simp; omega
      have hcn : ¬ ((Nat.gcd x (m % x) : Nat) : Int) = 1 := by omega
      have hg9 : Nat.gcd x (m % x) ≤ 1000000000 := Nat.le_trans hcle x9
      have S1 := hide s1
      have S2 := hide s2
      clear s1 s2 hc
      generalize Nat.gcd x (m % x) = g at *
      obtain ⟨p1, p2, p3, p4, p5, p6⟩ := quo_nums s3 x9
      generalize x / g = y at *
      clear p5
      generalize w2.drewN q = w4 at *
      go_wp2_with (first | (refine wl_load rfl _ rfl rfl HX3 ?_))
      refine (over_any m g w4 HMS.out s3 hg9).mono ?_
      rintro e w5 ⟨rfl, hb5⟩
      have HX5 := hide (HX3.out.below hb5)
      have HZ5 := hide (HZ4.out.below hb5)
      have hB5 := hB3.trans (hb5.mono (Nat.le_of_lt HX3.out.2.1))
      clear HX3 HZ4 hB3 hb5
      go_wp2_with (first | (refine wl_store rfl _ _ rfl rfl rfl HX5 (Lg.lng_len _) ?_; intro w6 A6 T6; have HZ6 := hide (HZ5.out.turn T6 (Nat.succ_ne_self _)); have hB6 := hB5.trans (T6.2.1 _ (Nat.le_refl _)); have HX6 := hide A6; clear A6 HX5 HZ5 hB5 T6))
      go_roundw
      case rel => exact ⟨m / g, y, C * g, by first | rfl | rw [p6], rfl, s4, S1, S2, HX6, HZ6, hB6⟩
      case measure => (try rw [p6]); exact hl
end Go.Proofs.Ytmhednkbpniphaa
