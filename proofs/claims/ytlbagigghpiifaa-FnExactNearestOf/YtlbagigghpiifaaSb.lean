/-
  What the tests of chapter 4 answer, the program's and the model's: flows, kinds, counts; gains, losses and costs of one kind; which of two fractions is less.
-/
import Derived.Test.YtlbagigghpiifaaSa
import Derived.Test.YtlbagigghpiifaaPa
import Derived.Test.YtlbagigghpiifaaPb
import Derived.Test.YtlbagigghpiifaaG
namespace Go.Proofs.Ytlbagigghpiifaa
open Go.RowKit

theorem sall_eqn {a : Option Addr} {n c : Nat} {xs : List Int} {lo hi : Int} {w : World} {r : Bool} (h : Hid (ARow w a xs)) (hn : Hid (xs.length = n)) (hl : n ≤ 1000) (hr : Hid (Pf.allB xs lo hi = r)) :
    Calls Try.prog 41 #[.slice a n c, .int .i64 lo, .int .i64 hi] w fun e w' => e = .returned (.bool r) ∧ w' = w := by
  have := hn.out
  subst this
  exact all_eq h.out (by omega) hr.out
theorem isum_eqn {a : Option Addr} {n c : Nat} {xs : List Int} {w : World} (h : Hid (ARow w a xs)) (hn : Hid (xs.length = n)) (hl : n ≤ 1000) (hr : Hid (Pf.allB xs 1 40 = true)) :
    Calls Try.prog 50 #[.slice a n c] w fun e w' => e = .returned (.int .i64 xs.sum) ∧ w' = w := by
  have := hn.out
  subst this
  exact isum_any h.out (by omega) (Pf.allB_of fun i hi => by have := Pf.inB_yes (Pf.allB_get hr.out hi); exact Pf.inB_of (by omega) (by omega))
theorem sisum_eqn {a : Option Addr} {n c : Nat} {xs : List Int} {w : World} (h : Hid (ARow w a xs)) (hn : Hid (xs.length = n)) (hl : n ≤ 1000) (hr : Hid (Pf.allB xs 1 40 = true)) :
    Calls Try.prog 61 #[.slice a n c] w fun e w' => e = .returned (.int .i64 xs.sum) ∧ w' = w := by
  have := hn.out
  subst this
  exact sisum_any h.out (by omega) (Pf.allB_of fun i hi => by have := Pf.inB_yes (Pf.allB_get hr.out hi); exact Pf.inB_of (by omega) (by omega))

set_option maxHeartbeats 400000 in
theorem flows_any {a : Option Addr} {n c : Nat} {fs : List Int} {w : World} (h : Hid (ARow w a fs)) (hn : Hid (fs.length = n)) :
    Calls Try.prog 49 #[.slice a n c] w fun e w' => e = .returned (.bool (Sh.flowB fs)) ∧ w' = w := by
  have HE : Hid (Sh.flowB fs = (Pf.inB n 1 8 && Pf.allB fs 1 30)) := hide (by unfold Sh.flowB; rw [hn.out])
  cases h1 : Pf.inB n 1 8
  · have HF : Hid (false = Sh.flowB fs) := hide (by rw [HE.out, h1]; rfl)
    go_enter Try.func49, Try.ntmps49
    go_wp2_with (go_at_call 42; refine (between_eq h1).mono ?_; rintro e w1 ⟨rfl, rfl⟩)
    go_ret
    exact ⟨ret_bool HF.out, rfl⟩
  · have hl : n ≤ 1000 := by have := Pf.inB_yes h1; omega
    have HF : Hid (Pf.allB fs 1 30 = Sh.flowB fs) := hide (by rw [HE.out, h1]; rfl)
    go_enter Try.func49, Try.ntmps49
    go_wp2_with (first
      | (go_at_call 42; refine (between_eq h1).mono ?_; rintro e w1 ⟨rfl, rfl⟩)
      | (go_at_call 51; refine (areb_eqn h hn hl HF).mono ?_; rintro e w1 ⟨rfl, rfl⟩))
    go_ret
    exact ⟨rfl, rfl⟩
theorem flows_eq {a : Option Addr} {n c : Nat} {fs : List Int} {w : World} {r : Bool} (h : Hid (ARow w a fs)) (hn : Hid (fs.length = n)) (hr : Hid (Sh.flowB fs = r)) :
    Calls Try.prog 49 #[.slice a n c] w fun e w' => e = .returned (.bool r) ∧ w' = w := hr.out ▸ flows_any h hn
set_option maxHeartbeats 400000 in
theorem sflows_any {a : Option Addr} {n c : Nat} {fs : List Int} {w : World} (h : Hid (ARow w a fs)) (hn : Hid (fs.length = n)) :
    Calls Try.prog 46 #[.slice a n c] w fun e w' => e = .returned (.bool (Sh.flowB fs)) ∧ w' = w := by
  have HE : Hid (Sh.flowB fs = (Pf.inB n 1 8 && Pf.allB fs 1 30)) := hide (by unfold Sh.flowB; rw [hn.out])
  cases h1 : Pf.inB n 1 8
  · have HF : Hid (false = Sh.flowB fs) := hide (by rw [HE.out, h1]; rfl)
    go_enter Try.func46, Try.ntmps46
    go_wp2_with (go_at_call 60; refine (in_eq h1).mono ?_; rintro e w1 ⟨rfl, rfl⟩)
    go_ret
    exact ⟨ret_bool HF.out, rfl⟩
  · have hl : n ≤ 1000 := by have := Pf.inB_yes h1; omega
    have HF : Hid (Pf.allB fs 1 30 = Sh.flowB fs) := hide (by rw [HE.out, h1]; rfl)
    go_enter Try.func46, Try.ntmps46
    go_wp2_with (first
      | (go_at_call 60; refine (in_eq h1).mono ?_; rintro e w1 ⟨rfl, rfl⟩)
      | (go_at_call 41; refine (sall_eqn h hn hl HF).mono ?_; rintro e w1 ⟨rfl, rfl⟩))
    go_ret
    exact ⟨rfl, rfl⟩
theorem sflows_eq {a : Option Addr} {n c : Nat} {fs : List Int} {w : World} {r : Bool} (h : Hid (ARow w a fs)) (hn : Hid (fs.length = n)) (hr : Hid (Sh.flowB fs = r)) :
    Calls Try.prog 46 #[.slice a n c] w fun e w' => e = .returned (.bool r) ∧ w' = w := hr.out ▸ sflows_any h hn

/-- Whether counts are at least 1 each and no more than so many, together too. -/
def countsB (cs : List Int) (M : Int) : Bool := Pf.allB cs 1 M && decide (cs.sum ≤ M)
theorem isum17 {a : Option Addr} {n c : Nat} {xs : List Int} {w : World} (h : Hid (ARow w a xs)) (hn : Hid (xs.length = n)) (hl : n ≤ 1000) (hr : Hid (Pf.allB xs (-10000000) 10000000 = true)) :
    Calls Try.prog 50 #[.slice a n c] w fun e w' => e = .returned (.int .i64 xs.sum) ∧ w' = w := by
  have := hn.out
  subst this
  exact isum_any h.out (by omega) hr.out
set_option maxHeartbeats 1000000 in
theorem counts_any {b : Option Addr} {m d : Nat} {M : Int} {cs : List Int} {w : World} (hM : M ≤ 1000) (g : Hid (ARow w b cs)) (hm : Hid (cs.length = m)) (hl : m ≤ 1000) :
    Calls Try.prog 62 #[.slice b m d, .int .i64 M] w fun e w' => e = .returned (.bool (countsB cs M)) ∧ w' = w := by
  cases h2 : Pf.allB cs 1 M
  · have HF : Hid (false = countsB cs M) := hide (by unfold countsB; rw [h2]; rfl)
    have H2 := hide h2
    clear h2
    go_enter Try.func62, Try.ntmps62
    go_wp2_with (go_at_call 51; refine (areb_eqn g hm (by omega) H2).mono ?_; rintro e w1 ⟨rfl, rfl⟩)
    go_ret
    exact ⟨ret_bool HF.out, rfl⟩
  · have HF : Hid (decide (cs.sum ≤ M) = countsB cs M) := hide (by unfold countsB; rw [h2]; rfl)
    have H2 := hide h2
    have H3 : Hid (Pf.allB cs (-10000000) 10000000 = true) := hide (Pf.allB_of fun i hi => by have := Pf.inB_yes (Pf.allB_get h2 hi); exact Pf.inB_of (by omega) (by omega))
    clear h2
    go_enter Try.func62, Try.ntmps62
    go_wp2_with (first
      | (go_at_call 51; refine (areb_eqn g hm (by omega) H2).mono ?_; rintro e w1 ⟨rfl, rfl⟩)
      | (go_at_call 50; refine (isum17 g hm hl H3).mono ?_; rintro e w1 ⟨rfl, rfl⟩))
    go_ret
    exact ⟨ret_bool HF.out, rfl⟩
theorem counts_eq {b : Option Addr} {m d : Nat} {M : Int} {cs : List Int} {w : World} {r : Bool} (hM : M ≤ 1000) (g : Hid (ARow w b cs)) (hm : Hid (cs.length = m)) (hl : m ≤ 1000) (hr : Hid (countsB cs M = r)) :
    Calls Try.prog 62 #[.slice b m d, .int .i64 M] w fun e w' => e = .returned (.bool r) ∧ w' = w := hr.out ▸ counts_any hM g hm hl
/-- A fraction as a value. -/
def fv (p : Int × Int) : Value := .agg #[.int .i64 p.1, .int .i64 p.2]
theorem fv_eq (p : Int × Int) : fv p = .agg #[.int .i64 p.1, .int .i64 p.2] := rfl
theorem below_set2 {w w1 : World} {o : Obj} {a b : Addr} {u v : Value} (hb : Below (w.alloc o).heap.size (w.alloc o) w1) (ha : w.heap.size ≤ a.block) (hb' : w.heap.size ≤ b.block) : Below w.heap.size w ((w1.setCell a u).setCell b v) :=
  ((((Below.refl _ _).alloc (Nat.le_refl _) _).trans (hb.mono (by simp))).setCell ha _).setCell hb' _
theorem cmp_all {p q : Int × Int} {w : World} (h1 : Sh.goodF p = true) (h2 : Sh.goodF q = true) :
    ∃ v, ((v == -1) = Sh.less p q ∧ (v == 1) = Sh.more p q) ∧ Calls Try.prog 68 #[.agg #[.int .i64 p.1, .int .i64 p.2], .agg #[.int .i64 q.1, .int .i64 q.2]] w fun e w' => e = .returned (.int .i64 v) ∧ Below w.heap.size w w' := by
  have hcs := Fr.less_cases p.1 p.2 q.1 q.2 h1 h2
  cases h : (p.1 == q.1 && p.2 == q.2)
  · by_cases hl : p.1 * q.2 < q.1 * p.2
    · refine ⟨-1, ⟨by simp [Sh.less, Fr.lessB, hl], ?_⟩, cmp_lt _ _ _ _ w h1 h2 h hl⟩
      simp only [Sh.more, Sh.less, Fr.lessB]
      simp; omega
    · refine ⟨1, ⟨by simp [Sh.less, Fr.lessB, hl], ?_⟩, cmp_gt _ _ _ _ w h1 h2 h hl⟩
      simp only [Sh.more, Sh.less]
      rcases hcs with ⟨a, _⟩ | ⟨_, b⟩ | ⟨_, _, c1, c2⟩
      · simp [Fr.lessB] at a; omega
      · rw [b]; rfl
      · simp [c1, c2] at h
  · simp only [Bool.and_eq_true, beq_iff_eq] at h
    obtain ⟨e1, e2⟩ := h
    refine ⟨0, ⟨by simp [Sh.less, Fr.lessB, e1, e2], by simp [Sh.more, Sh.less, Fr.lessB, e1, e2]⟩, ?_⟩
    rw [e1, e2]; exact cmp_same _ _ w
end Go.Proofs.Ytlbagigghpiifaa
