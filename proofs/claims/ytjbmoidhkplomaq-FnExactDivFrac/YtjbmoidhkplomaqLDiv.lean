/-
  At any two fractions DivFrac answers as the model does, every field: the law's own walk, out of what the two functions answer.
-/
import Derived.Test.YtjbmoidhkplomaqF
import Derived.Test.YtjbmoidhkplomaqH
import Derived.Deep.DeepCutAuto
namespace Go.Proofs.Ytjbmoidhkplomaq
open Go.RowKit

set_option maxHeartbeats 4000000 in
theorem lDiv_core (n1 d1 n2 d2 RN RD : Int) (RB : Bool) (w : World)
    (Hs : Hid (∀ w, Calls Try.prog 17 #[.agg #[.int .i64 n1, .int .i64 d1], .agg #[.int .i64 n2, .int .i64 d2]] w fun e w' => e = .returned (.tuple #[.agg #[.int .i64 RN, .int .i64 RD], .bool RB]) ∧ Below w.heap.size w w'))
    (Hi : Hid (∀ w, Calls Try.prog 18 #[.agg #[.int .i64 n1, .int .i64 d1], .agg #[.int .i64 n2, .int .i64 d2]] w fun e w' => e = .returned (.tuple #[.agg #[.int .i64 RN, .int .i64 RD], .bool RB]) ∧ Below w.heap.size w w')) :
    Calls Try.prog 6 #[.agg #[.int .i64 n1, .int .i64 d1], .agg #[.int .i64 n2, .int .i64 d2]] w fun e w' => e = .returned (.bool true) ∧ Below w.heap.size w w' := by
  have k0 : True := trivial
  have k1 : True := trivial
  have k2 : True := trivial
  have k3 : True := trivial
  go_enter Try.func6, Try.ntmps6
  go_wp2_with fail
  go_cut [5, 6] (fun s5 s6 wc => ∃ b, s5 = .pointer (some ⟨b, 0, none⟩) ∧ s6 = .bool RB ∧ wc.cell? ⟨b, 0, none⟩ = some (.int .i64 RN) ∧ wc.cell? ⟨b, 1, none⟩ = some (.int .i64 RD) ∧ b < wc.heap.size ∧ wc.cell? ⟨w.heap.size, 0, none⟩ = some (.int .i64 n1) ∧ wc.cell? ⟨w.heap.size, 1, none⟩ = some (.int .i64 d1) ∧ wc.cell? ⟨w.heap.size + 1, 0, none⟩ = some (.int .i64 n2) ∧ wc.cell? ⟨w.heap.size + 1, 1, none⟩ = some (.int .i64 d2) ∧ Below w.heap.size w wc ∧ w.heap.size + 1 < wc.heap.size)
  case first =>
    go_region_held3 (fun w' => w'.cell? ⟨w.heap.size, 0, none⟩ = some (.int .i64 n1) ∧ w'.cell? ⟨w.heap.size, 1, none⟩ = some (.int .i64 d1) ∧ w'.cell? ⟨w.heap.size + 1, 0, none⟩ = some (.int .i64 n2) ∧ w'.cell? ⟨w.heap.size + 1, 1, none⟩ = some (.int .i64 d2) ∧ Below w.heap.size w w' ∧ w.heap.size + 1 < w'.heap.size) (first | exact ⟨by simp, by simp, by simp, by simp, ((((Below.refl _ _).alloc (Nat.le_refl _) _).alloc (by simp) _)).drew, by simp⟩ | assumption | exact held_below ‹_› (by assumption) | exact held_below ‹_› (below_alloc _ _) | (refine held_set ?_ ?_ <;> first | assumption | omega) | (refine held_set (held_set ?_ ?_) ?_ <;> first | assumption | omega))
      (first
      | (go_at_call 10; refine (toFrac_any _ _ _).mono ?_; rintro e w1 ⟨rfl, hb⟩; have hS := held_below ‹_› hb; obtain ⟨hc, hf⟩ := bsome hb; have l0 := hc (w.heap.size + 1 + 1) 0; have l1 := hc (w.heap.size + 1 + 1) 1; have l2 := hf (w.heap.size + 1 + 1) 0; have l3 := hf (w.heap.size + 1 + 1) 1; try simp [go_sem, k0] at l0; try simp [go_sem, k1] at l1; try simp [go_sem, k0, k2] at l2; try simp [go_sem, k1, k3] at l3; have k0 := l0; have k1 := l1; have k2 := l2; have k3 := l3; have m0 := last_cell hb 0; have m1 := last_cell hb 1; have m2 := last_frozen hb 0; have m3 := last_frozen hb 1; try simp [go_sem] at m0; try simp [go_sem] at m1; try simp [go_sem] at m2; try simp [go_sem] at m3)
      | (go_at_call 17; refine (Hs.out _).mono ?_; rintro e w1 ⟨rfl, hb⟩; have hS := held_below ‹_› hb; obtain ⟨hc, hf⟩ := bsome hb; have l0 := hc (w.heap.size + 1 + 1) 0; have l1 := hc (w.heap.size + 1 + 1) 1; have l2 := hf (w.heap.size + 1 + 1) 0; have l3 := hf (w.heap.size + 1 + 1) 1; try simp [go_sem, k0] at l0; try simp [go_sem, k1] at l1; try simp [go_sem, k0, k2] at l2; try simp [go_sem, k1, k3] at l3; have k0 := l0; have k1 := l1; have k2 := l2; have k3 := l3; have m0 := last_cell hb 0; have m1 := last_cell hb 1; have m2 := last_frozen hb 0; have m3 := last_frozen hb 1; try simp [go_sem] at m0; try simp [go_sem] at m1; try simp [go_sem] at m2; try simp [go_sem] at m3))
    all_goals
      go_wp2_with fail
      go_meet
      case rel =>
        refine ⟨_, rfl, rfl, ?c0, ?c1, ?c2, ?c3⟩
        case c0 => first | (simp [go_sem, *]; done) | exact (set2 (by simp [go_sem, *]) (by simp [go_sem, *])).1
        case c1 => first | (simp [go_sem, *]; done) | exact (set2 (by simp [go_sem, *]) (by simp [go_sem, *])).2.1
        case c3 => assumption
        case c2 => first | (refine lt_of_some (o := 0) ?_; simp [go_sem, *]; done) | exact (set2 (by simp [go_sem, *]) (by simp [go_sem, *])).2.2
  case rest =>
    obtain ⟨b, rfl, rfl, r0, r1, r2, q0, q1, q2, q3, q4, q5⟩ := hcut
    have HC : wc.drew.cell? ⟨w.heap.size, 0, none⟩ = some (.int .i64 n1) ∧ wc.drew.cell? ⟨w.heap.size, 1, none⟩ = some (.int .i64 d1) ∧ wc.drew.cell? ⟨w.heap.size + 1, 0, none⟩ = some (.int .i64 n2) ∧ wc.drew.cell? ⟨w.heap.size + 1, 1, none⟩ = some (.int .i64 d2) ∧ wc.drew.cell? ⟨b, 0, none⟩ = some (.int .i64 RN) ∧ wc.drew.cell? ⟨b, 1, none⟩ = some (.int .i64 RD) ∧ Below w.heap.size w wc.drew ∧ w.heap.size + 1 < wc.drew.heap.size ∧ wc.heap.size ≤ wc.drew.heap.size ∧ b < wc.heap.size := ⟨q0, q1, q2, q3, r0, r1, q4.drew, q5, Nat.le_refl _, r2⟩
    go_wp2_with fail
    go_cut [7, 8] (fun s7 s8 wd => ∃ c, s7 = .pointer (some ⟨c, 0, none⟩) ∧ s8 = .bool RB ∧ wd.cell? ⟨c, 0, none⟩ = some (.int .i64 RN) ∧ wd.cell? ⟨c, 1, none⟩ = some (.int .i64 RD) ∧ wd.cell? ⟨b, 0, none⟩ = some (.int .i64 RN) ∧ wd.cell? ⟨b, 1, none⟩ = some (.int .i64 RD) ∧ Below w.heap.size w wd ∧ w.heap.size ≤ wd.heap.size)
    case first =>
      go_region_held3 (fun w' => w'.cell? ⟨w.heap.size, 0, none⟩ = some (.int .i64 n1) ∧ w'.cell? ⟨w.heap.size, 1, none⟩ = some (.int .i64 d1) ∧ w'.cell? ⟨w.heap.size + 1, 0, none⟩ = some (.int .i64 n2) ∧ w'.cell? ⟨w.heap.size + 1, 1, none⟩ = some (.int .i64 d2) ∧ w'.cell? ⟨b, 0, none⟩ = some (.int .i64 RN) ∧ w'.cell? ⟨b, 1, none⟩ = some (.int .i64 RD) ∧ Below w.heap.size w w' ∧ w.heap.size + 1 < w'.heap.size ∧ wc.heap.size ≤ w'.heap.size ∧ b < wc.heap.size) (first | exact HC | assumption | exact held2_below ‹_› (by assumption) | exact held2_below ‹_› (below_alloc _ _) | exact held2_below ‹_› (below_alloc_drew _ _) | (refine held2_set ?_ ?_ ?_ <;> first | assumption | omega) | (refine held2_set (held2_set ?_ ?_ ?_) ?_ ?_ <;> first | assumption | omega))
        (first
        | (go_at_call 10; refine (toFrac_any _ _ _).mono ?_; rintro e w1 ⟨rfl, hb⟩; have hS := held2_below ‹_› hb; obtain ⟨hc, hf⟩ := bsome hb; have l0 := hc (wc.heap.size) 0; have l1 := hc (wc.heap.size) 1; have l2 := hf (wc.heap.size) 0; have l3 := hf (wc.heap.size) 1; try simp [go_sem, k0] at l0; try simp [go_sem, k1] at l1; try simp [go_sem, k0, k2] at l2; try simp [go_sem, k1, k3] at l3; have k0 := l0; have k1 := l1; have k2 := l2; have k3 := l3; have m0 := last_cell hb 0; have m1 := last_cell hb 1; have m2 := last_frozen hb 0; have m3 := last_frozen hb 1; try simp [go_sem] at m0; try simp [go_sem] at m1; try simp [go_sem] at m2; try simp [go_sem] at m3)
        | (go_at_call 18; refine (Hi.out _).mono ?_; rintro e w1 ⟨rfl, hb⟩; have hS := held2_below ‹_› hb; obtain ⟨hc, hf⟩ := bsome hb; have l0 := hc (wc.heap.size) 0; have l1 := hc (wc.heap.size) 1; have l2 := hf (wc.heap.size) 0; have l3 := hf (wc.heap.size) 1; try simp [go_sem, k0] at l0; try simp [go_sem, k1] at l1; try simp [go_sem, k0, k2] at l2; try simp [go_sem, k1, k3] at l3; have k0 := l0; have k1 := l1; have k2 := l2; have k3 := l3; have m0 := last_cell hb 0; have m1 := last_cell hb 1; have m2 := last_frozen hb 0; have m3 := last_frozen hb 1; try simp [go_sem] at m0; try simp [go_sem] at m1; try simp [go_sem] at m2; try simp [go_sem] at m3))
      all_goals
        go_wp2_with fail
        go_meet
        case rel =>
          obtain ⟨p0, p1, p2, p3, p4, p5, p6, p7, p8, p9⟩ := ‹_ ∧ _ ∧ _ ∧ _ ∧ _ ∧ _ ∧ _ ∧ _ ∧ _ ∧ _›
          refine ⟨_, rfl, rfl, ?c0, ?c1, p4, p5, p6, ?c2⟩
          case c0 => first | (simp [go_sem, *]; done) | exact (set2 (by simp [go_sem, *]) (by simp [go_sem, *])).1
          case c1 => first | (simp [go_sem, *]; done) | exact (set2 (by simp [go_sem, *]) (by simp [go_sem, *])).2.1
          case c2 => omega
    case rest =>
      obtain ⟨c, rfl, rfl, x0, x1, x2, x3, x4, x5⟩ := hcut
      have hne : (RB != RB) = false := by simp
      go_wp2_with (go_at_call 12; refine (eqFrac_same _ _ _).mono ?_; rintro e w1 ⟨rfl, hb⟩)
      go_ret
      exact ⟨rfl, x4.trans (hb.mono x5)⟩

set_option maxHeartbeats 400000 in
theorem lDiv_walk (n1 d1 n2 d2 : Int) (w : World) :
    Calls Try.prog 6 #[.agg #[.int .i64 n1, .int .i64 d1], .agg #[.int .i64 n2, .int .i64 d2]] w fun e w' => e = .returned (.bool true) ∧ Below w.heap.size w w' := by
  cases h1 : Fr.goodB n1 d1
  · exact lDiv_core n1 d1 n2 d2 0 0 false w (hide fun w => sDiv_no n1 d1 n2 d2 w (by rw [h1]; rfl)) (hide fun w => div_no1 n1 d1 n2 d2 w h1)
  · cases h2 : Fr.goodB n2 d2
    · exact lDiv_core n1 d1 n2 d2 0 0 false w (hide fun w => sDiv_no n1 d1 n2 d2 w (by rw [h1, h2]; rfl)) (hide fun w => div_no2 n1 d1 n2 d2 w h1 h2)
    · by_cases h3 : n2 = 0
      · subst h3
        have hd : d2 = 1 := by
          have h4 := (Fr.goodB_iff 0 d2).1 h2
          have h5 : Fr.g 0 d2 = d2.natAbs := by unfold Fr.g; simp
          omega
        subst hd
        exact lDiv_core n1 d1 0 1 0 0 false w (hide fun w => sDiv_zero n1 d1 1 w h1 h2) (hide fun w => div_zero n1 d1 w h1 h2)
      · exact lDiv_core n1 d1 n2 d2 _ _ _ w (hide fun w => sDiv_yes n1 d1 n2 d2 w h1 h2 h3) (hide fun w => div_yes n1 d1 n2 d2 w h1 h2 h3)
end Go.Proofs.Ytjbmoidhkplomaq
