/-
  What the tests of chapter 4 answer, the program's and the model's: flows, kinds, counts; gains, losses and costs of one kind; which of two fractions is less.
-/
import Derived.Test.YtfeegjpkkbeibatSa
import Derived.Test.YtfeegjpkkbeibatPa
import Derived.Test.YtfeegjpkkbeibatPb
import Derived.Test.YtfeegjpkkbeibatG
namespace Go.Proofs.Ytfeegjpkkbeibat
open Go.RowKit

theorem sall_eqn {a : Option Addr} {n c : Nat} {xs : List Int} {lo hi : Int} {w : World} {r : Bool} (h : Hid (ARow w a xs)) (hn : Hid (xs.length = n)) (hl : n ≤ 1000) (hr : Hid (Pf.allB xs lo hi = r)) :
    Calls Try.prog 36 #[.slice a n c, .int .i64 lo, .int .i64 hi] w fun e w' => e = .returned (.bool r) ∧ w' = w := by
  have := hn.out
  subst this
  exact all_eq h.out (by omega) hr.out
theorem isum_eqn {a : Option Addr} {n c : Nat} {xs : List Int} {w : World} (h : Hid (ARow w a xs)) (hn : Hid (xs.length = n)) (hl : n ≤ 1000) (hr : Hid (Pf.allB xs 1 40 = true)) :
    Calls Try.prog 41 #[.slice a n c] w fun e w' => e = .returned (.int .i64 xs.sum) ∧ w' = w := by
  have := hn.out
  subst this
  exact isum_any h.out (by omega) (Pf.allB_of fun i hi => by have := Pf.inB_yes (Pf.allB_get hr.out hi); exact Pf.inB_of (by omega) (by omega))
theorem sisum_eqn {a : Option Addr} {n c : Nat} {xs : List Int} {w : World} (h : Hid (ARow w a xs)) (hn : Hid (xs.length = n)) (hl : n ≤ 1000) (hr : Hid (Pf.allB xs 1 40 = true)) :
    Calls Try.prog 40 #[.slice a n c] w fun e w' => e = .returned (.int .i64 xs.sum) ∧ w' = w := by
  have := hn.out
  subst this
  exact sisum_any h.out (by omega) (Pf.allB_of fun i hi => by have := Pf.inB_yes (Pf.allB_get hr.out hi); exact Pf.inB_of (by omega) (by omega))

set_option maxHeartbeats 400000 in
theorem flows_any {a : Option Addr} {n c : Nat} {fs : List Int} {w : World} (h : Hid (ARow w a fs)) (hn : Hid (fs.length = n)) :
    Calls Try.prog 49 #[.slice a n c] w fun e w' => e = .returned (.bool (Sh.flowB fs)) ∧ w' = w := by
  have HE : Hid (Sh.flowB fs = (Pf.inB n 1 8 && Pf.allB fs 1 30)) := hide (by unfold Sh.flowB; rw [hn.out])
  cases h1 : Pf.inB n 1 8
  · have HF : Hid (false = Sh.flowB fs) := hide (by rw [HE.out, h1]; rfl)
    go_enter Try.func49, Try.ntmps49
    go_wp2_with (go_at_call 44; refine (between_eq h1).mono ?_; rintro e w1 ⟨rfl, rfl⟩)
    go_ret
    exact ⟨ret_bool HF.out, rfl⟩
  · have hl : n ≤ 1000 := by have := Pf.inB_yes h1; omega
    have HF : Hid (Pf.allB fs 1 30 = Sh.flowB fs) := hide (by rw [HE.out, h1]; rfl)
    go_enter Try.func49, Try.ntmps49
    go_wp2_with (first
      | (go_at_call 44; refine (between_eq h1).mono ?_; rintro e w1 ⟨rfl, rfl⟩)
      | (go_at_call 38; refine (areb_eqn h hn hl HF).mono ?_; rintro e w1 ⟨rfl, rfl⟩))
    go_ret
    exact ⟨rfl, rfl⟩
theorem flows_eq {a : Option Addr} {n c : Nat} {fs : List Int} {w : World} {r : Bool} (h : Hid (ARow w a fs)) (hn : Hid (fs.length = n)) (hr : Hid (Sh.flowB fs = r)) :
    Calls Try.prog 49 #[.slice a n c] w fun e w' => e = .returned (.bool r) ∧ w' = w := hr.out ▸ flows_any h hn
set_option maxHeartbeats 400000 in
theorem sflows_any {a : Option Addr} {n c : Nat} {fs : List Int} {w : World} (h : Hid (ARow w a fs)) (hn : Hid (fs.length = n)) :
    Calls Try.prog 48 #[.slice a n c] w fun e w' => e = .returned (.bool (Sh.flowB fs)) ∧ w' = w := by
  have HE : Hid (Sh.flowB fs = (Pf.inB n 1 8 && Pf.allB fs 1 30)) := hide (by unfold Sh.flowB; rw [hn.out])
  cases h1 : Pf.inB n 1 8
  · have HF : Hid (false = Sh.flowB fs) := hide (by rw [HE.out, h1]; rfl)
    go_enter Try.func48, Try.ntmps48
    go_wp2_with (go_at_call 46; refine (in_eq h1).mono ?_; rintro e w1 ⟨rfl, rfl⟩)
    go_ret
    exact ⟨ret_bool HF.out, rfl⟩
  · have hl : n ≤ 1000 := by have := Pf.inB_yes h1; omega
    have HF : Hid (Pf.allB fs 1 30 = Sh.flowB fs) := hide (by rw [HE.out, h1]; rfl)
    go_enter Try.func48, Try.ntmps48
    go_wp2_with (first
      | (go_at_call 46; refine (in_eq h1).mono ?_; rintro e w1 ⟨rfl, rfl⟩)
      | (go_at_call 36; refine (sall_eqn h hn hl HF).mono ?_; rintro e w1 ⟨rfl, rfl⟩))
    go_ret
    exact ⟨rfl, rfl⟩
theorem sflows_eq {a : Option Addr} {n c : Nat} {fs : List Int} {w : World} {r : Bool} (h : Hid (ARow w a fs)) (hn : Hid (fs.length = n)) (hr : Hid (Sh.flowB fs = r)) :
    Calls Try.prog 48 #[.slice a n c] w fun e w' => e = .returned (.bool r) ∧ w' = w := hr.out ▸ sflows_any h hn

set_option maxHeartbeats 400000 in
theorem kinds_any {a : Option Addr} {n c : Nat} {p : Int} {fs : List Int} {w : World} (h : Hid (ARow w a fs)) (hn : Hid (fs.length = n)) :
    Calls Try.prog 30 #[.slice a n c, .int .i64 p] w fun e w' => e = .returned (.bool (Sh.kindsB fs p)) ∧ w' = w := by
  have HE : Hid (Sh.kindsB fs p = (Sh.flowB fs && Pf.inB p n 40)) := hide (by unfold Sh.kindsB; rw [hn.out])
  cases h1 : Sh.flowB fs
  · have HF : Hid (false = Sh.kindsB fs p) := hide (by rw [HE.out, h1]; rfl)
    have H1 := hide h1
    clear h1
    go_enter Try.func30, Try.ntmps30
    go_wp2_with (go_at_call 49; refine (flows_eq h hn H1).mono ?_; rintro e w1 ⟨rfl, rfl⟩)
    go_ret
    exact ⟨ret_bool HF.out, rfl⟩
  · have HF : Hid (Pf.inB p n 40 = Sh.kindsB fs p) := hide (by rw [HE.out, h1]; rfl)
    have H1 := hide h1
    clear h1
    go_enter Try.func30, Try.ntmps30
    go_wp2_with (first
      | (go_at_call 49; refine (flows_eq h hn H1).mono ?_; rintro e w1 ⟨rfl, rfl⟩)
      | (go_at_call 44; refine (between_eq HF.out).mono ?_; rintro e w1 ⟨rfl, rfl⟩))
    go_ret
    exact ⟨rfl, rfl⟩
theorem kinds_eq {a : Option Addr} {n c : Nat} {p : Int} {fs : List Int} {w : World} {r : Bool} (h : Hid (ARow w a fs)) (hn : Hid (fs.length = n)) (hr : Hid (Sh.kindsB fs p = r)) :
    Calls Try.prog 30 #[.slice a n c, .int .i64 p] w fun e w' => e = .returned (.bool r) ∧ w' = w := hr.out ▸ kinds_any h hn
set_option maxHeartbeats 400000 in
theorem skinds_any {a : Option Addr} {n c : Nat} {p : Int} {fs : List Int} {w : World} (h : Hid (ARow w a fs)) (hn : Hid (fs.length = n)) :
    Calls Try.prog 29 #[.slice a n c, .int .i64 p] w fun e w' => e = .returned (.bool (Sh.kindsB fs p)) ∧ w' = w := by
  have HE : Hid (Sh.kindsB fs p = (Sh.flowB fs && Pf.inB p n 40)) := hide (by unfold Sh.kindsB; rw [hn.out])
  cases h1 : Sh.flowB fs
  · have HF : Hid (false = Sh.kindsB fs p) := hide (by rw [HE.out, h1]; rfl)
    have H1 := hide h1
    clear h1
    go_enter Try.func29, Try.ntmps29
    go_wp2_with (go_at_call 48; refine (sflows_eq h hn H1).mono ?_; rintro e w1 ⟨rfl, rfl⟩)
    go_ret
    exact ⟨ret_bool HF.out, rfl⟩
  · have HF : Hid (Pf.inB p n 40 = Sh.kindsB fs p) := hide (by rw [HE.out, h1]; rfl)
    have H1 := hide h1
    clear h1
    go_enter Try.func29, Try.ntmps29
    go_wp2_with (first
      | (go_at_call 48; refine (sflows_eq h hn H1).mono ?_; rintro e w1 ⟨rfl, rfl⟩)
      | (go_at_call 46; refine (in_eq HF.out).mono ?_; rintro e w1 ⟨rfl, rfl⟩))
    go_ret
    exact ⟨rfl, rfl⟩
theorem skinds_eq {a : Option Addr} {n c : Nat} {p : Int} {fs : List Int} {w : World} {r : Bool} (h : Hid (ARow w a fs)) (hn : Hid (fs.length = n)) (hr : Hid (Sh.kindsB fs p = r)) :
    Calls Try.prog 29 #[.slice a n c, .int .i64 p] w fun e w' => e = .returned (.bool r) ∧ w' = w := hr.out ▸ skinds_any h hn

/-- A fraction as a value. -/
def fv (p : Int × Int) : Value := .agg #[.int .i64 p.1, .int .i64 p.2]
theorem fv_eq (p : Int × Int) : fv p = .agg #[.int .i64 p.1, .int .i64 p.2] := rfl
theorem below_set2 {w w1 : World} {o : Obj} {a b : Addr} {u v : Value} (hb : Below (w.alloc o).heap.size (w.alloc o) w1) (ha : w.heap.size ≤ a.block) (hb' : w.heap.size ≤ b.block) : Below w.heap.size w ((w1.setCell a u).setCell b v) :=
  ((((Below.refl _ _).alloc (Nat.le_refl _) _).trans (hb.mono (by simp))).setCell ha _).setCell hb' _
end Go.Proofs.Ytfeegjpkkbeibat
