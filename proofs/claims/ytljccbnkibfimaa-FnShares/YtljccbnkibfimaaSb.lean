/-
  What the tests of chapter 4 answer, the program's and the model's: flows, kinds, counts; gains, losses and costs of one kind; which of two fractions is less.
-/
import Derived.Test.YtljccbnkibfimaaSa
import Derived.Test.YtljccbnkibfimaaPa
import Derived.Test.YtljccbnkibfimaaPb
import Derived.Test.YtljccbnkibfimaaG
namespace Go.Proofs.Ytljccbnkibfimaa
open Go.RowKit

theorem sall_eqn {a : Option Addr} {n c : Nat} {xs : List Int} {lo hi : Int} {w : World} {r : Bool} (h : Hid (ARow w a xs)) (hn : Hid (xs.length = n)) (hl : n ≤ 1000) (hr : Hid (Pf.allB xs lo hi = r)) :
    Calls Try.prog 91 #[.slice a n c, .int .i64 lo, .int .i64 hi] w fun e w' => e = .returned (.bool r) ∧ w' = w := by
  have := hn.out
  subst this
  exact all_eq h.out (by omega) hr.out
theorem isum_eqn {a : Option Addr} {n c : Nat} {xs : List Int} {w : World} (h : Hid (ARow w a xs)) (hn : Hid (xs.length = n)) (hl : n ≤ 1000) (hr : Hid (Pf.allB xs 1 40 = true)) :
    Calls Try.prog 104 #[.slice a n c] w fun e w' => e = .returned (.int .i64 xs.sum) ∧ w' = w := by
  have := hn.out
  subst this
  exact isum_any h.out (by omega) (Pf.allB_of fun i hi => by have := Pf.inB_yes (Pf.allB_get hr.out hi); exact Pf.inB_of (by omega) (by omega))
theorem sisum_eqn {a : Option Addr} {n c : Nat} {xs : List Int} {w : World} (h : Hid (ARow w a xs)) (hn : Hid (xs.length = n)) (hl : n ≤ 1000) (hr : Hid (Pf.allB xs 1 40 = true)) :
    Calls Try.prog 92 #[.slice a n c] w fun e w' => e = .returned (.int .i64 xs.sum) ∧ w' = w := by
  have := hn.out
  subst this
  exact sisum_any h.out (by omega) (Pf.allB_of fun i hi => by have := Pf.inB_yes (Pf.allB_get hr.out hi); exact Pf.inB_of (by omega) (by omega))

set_option maxRecDepth 100000 in
set_option maxHeartbeats 400000 in
theorem flows_any {a : Option Addr} {n c : Nat} {fs : List Int} {w : World} (h : Hid (ARow w a fs)) (hn : Hid (fs.length = n)) :
    Calls Try.prog 43 #[.slice a n c] w fun e w' => e = .returned (.bool (Sh.flowB fs)) ∧ w' = w := by
  have HE : Hid (Sh.flowB fs = (Pf.inB n 1 8 && Pf.allB fs 1 30)) := hide (by unfold Sh.flowB; rw [hn.out])
  cases h1 : Pf.inB n 1 8
  · have HF : Hid (false = Sh.flowB fs) := hide (by rw [HE.out, h1]; rfl)
    go_enter Try.func43, Try.ntmps43
    go_wp2_with (go_at_call 44; refine (between_eq h1).mono ?_; rintro e w1 ⟨rfl, rfl⟩)
    go_ret
    exact ⟨ret_bool HF.out, rfl⟩
  · have hl : n ≤ 1000 := by have := Pf.inB_yes h1; omega
    have HF : Hid (Pf.allB fs 1 30 = Sh.flowB fs) := hide (by rw [HE.out, h1]; rfl)
    go_enter Try.func43, Try.ntmps43
    go_wp2_with (first
      | (go_at_call 44; refine (between_eq h1).mono ?_; rintro e w1 ⟨rfl, rfl⟩)
      | (go_at_call 79; refine (areb_eqn h hn hl HF).mono ?_; rintro e w1 ⟨rfl, rfl⟩))
    go_ret
    exact ⟨rfl, rfl⟩
theorem flows_eq {a : Option Addr} {n c : Nat} {fs : List Int} {w : World} {r : Bool} (h : Hid (ARow w a fs)) (hn : Hid (fs.length = n)) (hr : Hid (Sh.flowB fs = r)) :
    Calls Try.prog 43 #[.slice a n c] w fun e w' => e = .returned (.bool r) ∧ w' = w := hr.out ▸ flows_any h hn
set_option maxRecDepth 100000 in
set_option maxHeartbeats 400000 in
theorem sflows_any {a : Option Addr} {n c : Nat} {fs : List Int} {w : World} (h : Hid (ARow w a fs)) (hn : Hid (fs.length = n)) :
    Calls Try.prog 83 #[.slice a n c] w fun e w' => e = .returned (.bool (Sh.flowB fs)) ∧ w' = w := by
  have HE : Hid (Sh.flowB fs = (Pf.inB n 1 8 && Pf.allB fs 1 30)) := hide (by unfold Sh.flowB; rw [hn.out])
  cases h1 : Pf.inB n 1 8
  · have HF : Hid (false = Sh.flowB fs) := hide (by rw [HE.out, h1]; rfl)
    go_enter Try.func83, Try.ntmps83
    go_wp2_with (go_at_call 84; refine (in_eq h1).mono ?_; rintro e w1 ⟨rfl, rfl⟩)
    go_ret
    exact ⟨ret_bool HF.out, rfl⟩
  · have hl : n ≤ 1000 := by have := Pf.inB_yes h1; omega
    have HF : Hid (Pf.allB fs 1 30 = Sh.flowB fs) := hide (by rw [HE.out, h1]; rfl)
    go_enter Try.func83, Try.ntmps83
    go_wp2_with (first
      | (go_at_call 84; refine (in_eq h1).mono ?_; rintro e w1 ⟨rfl, rfl⟩)
      | (go_at_call 91; refine (sall_eqn h hn hl HF).mono ?_; rintro e w1 ⟨rfl, rfl⟩))
    go_ret
    exact ⟨rfl, rfl⟩
theorem sflows_eq {a : Option Addr} {n c : Nat} {fs : List Int} {w : World} {r : Bool} (h : Hid (ARow w a fs)) (hn : Hid (fs.length = n)) (hr : Hid (Sh.flowB fs = r)) :
    Calls Try.prog 83 #[.slice a n c] w fun e w' => e = .returned (.bool r) ∧ w' = w := hr.out ▸ sflows_any h hn

set_option maxRecDepth 100000 in
set_option maxHeartbeats 400000 in
theorem kinds_any {a : Option Addr} {n c : Nat} {p : Int} {fs : List Int} {w : World} (h : Hid (ARow w a fs)) (hn : Hid (fs.length = n)) :
    Calls Try.prog 12 #[.slice a n c, .int .i64 p] w fun e w' => e = .returned (.bool (Sh.kindsB fs p)) ∧ w' = w := by
  have HE : Hid (Sh.kindsB fs p = (Sh.flowB fs && Pf.inB p n 40)) := hide (by unfold Sh.kindsB; rw [hn.out])
  cases h1 : Sh.flowB fs
  · have HF : Hid (false = Sh.kindsB fs p) := hide (by rw [HE.out, h1]; rfl)
    have H1 := hide h1
    clear h1
    go_enter Try.func12, Try.ntmps12
    go_wp2_with (go_at_call 43; refine (flows_eq h hn H1).mono ?_; rintro e w1 ⟨rfl, rfl⟩)
    go_ret
    exact ⟨ret_bool HF.out, rfl⟩
  · have HF : Hid (Pf.inB p n 40 = Sh.kindsB fs p) := hide (by rw [HE.out, h1]; rfl)
    have H1 := hide h1
    clear h1
    go_enter Try.func12, Try.ntmps12
    go_wp2_with (first
      | (go_at_call 43; refine (flows_eq h hn H1).mono ?_; rintro e w1 ⟨rfl, rfl⟩)
      | (go_at_call 44; refine (between_eq HF.out).mono ?_; rintro e w1 ⟨rfl, rfl⟩))
    go_ret
    exact ⟨rfl, rfl⟩
theorem kinds_eq {a : Option Addr} {n c : Nat} {p : Int} {fs : List Int} {w : World} {r : Bool} (h : Hid (ARow w a fs)) (hn : Hid (fs.length = n)) (hr : Hid (Sh.kindsB fs p = r)) :
    Calls Try.prog 12 #[.slice a n c, .int .i64 p] w fun e w' => e = .returned (.bool r) ∧ w' = w := hr.out ▸ kinds_any h hn
set_option maxRecDepth 100000 in
set_option maxHeartbeats 400000 in
theorem skinds_any {a : Option Addr} {n c : Nat} {p : Int} {fs : List Int} {w : World} (h : Hid (ARow w a fs)) (hn : Hid (fs.length = n)) :
    Calls Try.prog 41 #[.slice a n c, .int .i64 p] w fun e w' => e = .returned (.bool (Sh.kindsB fs p)) ∧ w' = w := by
  have HE : Hid (Sh.kindsB fs p = (Sh.flowB fs && Pf.inB p n 40)) := hide (by unfold Sh.kindsB; rw [hn.out])
  cases h1 : Sh.flowB fs
  · have HF : Hid (false = Sh.kindsB fs p) := hide (by rw [HE.out, h1]; rfl)
    have H1 := hide h1
    clear h1
    go_enter Try.func41, Try.ntmps41
    go_wp2_with (go_at_call 83; refine (sflows_eq h hn H1).mono ?_; rintro e w1 ⟨rfl, rfl⟩)
    go_ret
    exact ⟨ret_bool HF.out, rfl⟩
  · have HF : Hid (Pf.inB p n 40 = Sh.kindsB fs p) := hide (by rw [HE.out, h1]; rfl)
    have H1 := hide h1
    clear h1
    go_enter Try.func41, Try.ntmps41
    go_wp2_with (first
      | (go_at_call 83; refine (sflows_eq h hn H1).mono ?_; rintro e w1 ⟨rfl, rfl⟩)
      | (go_at_call 84; refine (in_eq HF.out).mono ?_; rintro e w1 ⟨rfl, rfl⟩))
    go_ret
    exact ⟨rfl, rfl⟩
theorem skinds_eq {a : Option Addr} {n c : Nat} {p : Int} {fs : List Int} {w : World} {r : Bool} (h : Hid (ARow w a fs)) (hn : Hid (fs.length = n)) (hr : Hid (Sh.kindsB fs p = r)) :
    Calls Try.prog 41 #[.slice a n c, .int .i64 p] w fun e w' => e = .returned (.bool r) ∧ w' = w := hr.out ▸ skinds_any h hn

/-- Whether counts are at least 1 each and no more than so many, together too. -/
def countsB (cs : List Int) (M : Int) : Bool := Pf.allB cs 1 M && decide (cs.sum ≤ M)
theorem isum17 {a : Option Addr} {n c : Nat} {xs : List Int} {w : World} (h : Hid (ARow w a xs)) (hn : Hid (xs.length = n)) (hl : n ≤ 1000) (hr : Hid (Pf.allB xs (-10000000) 10000000 = true)) :
    Calls Try.prog 104 #[.slice a n c] w fun e w' => e = .returned (.int .i64 xs.sum) ∧ w' = w := by
  have := hn.out
  subst this
  exact isum_any h.out (by omega) hr.out
set_option maxRecDepth 100000 in
set_option maxHeartbeats 1000000 in
theorem counts_any {b : Option Addr} {m d : Nat} {M : Int} {cs : List Int} {w : World} (hM : M ≤ 1000) (g : Hid (ARow w b cs)) (hm : Hid (cs.length = m)) (hl : m ≤ 1000) :
    Calls Try.prog 85 #[.slice b m d, .int .i64 M] w fun e w' => e = .returned (.bool (countsB cs M)) ∧ w' = w := by
  cases h2 : Pf.allB cs 1 M
  · have HF : Hid (false = countsB cs M) := hide (by unfold countsB; rw [h2]; rfl)
    have H2 := hide h2
    clear h2
    go_enter Try.func85, Try.ntmps85
    go_wp2_with (go_at_call 79; refine (areb_eqn g hm (by omega) H2).mono ?_; rintro e w1 ⟨rfl, rfl⟩)
    go_ret
    exact ⟨ret_bool HF.out, rfl⟩
  · have HF : Hid (decide (cs.sum ≤ M) = countsB cs M) := hide (by unfold countsB; rw [h2]; rfl)
    have H2 := hide h2
    have H3 : Hid (Pf.allB cs (-10000000) 10000000 = true) := hide (Pf.allB_of fun i hi => by have := Pf.inB_yes (Pf.allB_get h2 hi); exact Pf.inB_of (by omega) (by omega))
    clear h2
    go_enter Try.func85, Try.ntmps85
    go_wp2_with (first
      | (go_at_call 79; refine (areb_eqn g hm (by omega) H2).mono ?_; rintro e w1 ⟨rfl, rfl⟩)
      | (go_at_call 104; refine (isum17 g hm hl H3).mono ?_; rintro e w1 ⟨rfl, rfl⟩))
    go_ret
    exact ⟨ret_bool HF.out, rfl⟩
theorem counts_eq {b : Option Addr} {m d : Nat} {M : Int} {cs : List Int} {w : World} {r : Bool} (hM : M ≤ 1000) (g : Hid (ARow w b cs)) (hm : Hid (cs.length = m)) (hl : m ≤ 1000) (hr : Hid (countsB cs M = r)) :
    Calls Try.prog 85 #[.slice b m d, .int .i64 M] w fun e w' => e = .returned (.bool r) ∧ w' = w := hr.out ▸ counts_any hM g hm hl
set_option maxRecDepth 100000 in
set_option maxHeartbeats 1000000 in
theorem shared_any {a b : Option Addr} {n m c d : Nat} {fs cs : List Int} {w : World} (h : Hid (ARow w a fs)) (hn : Hid (fs.length = n)) (g : Hid (ARow w b cs)) (hm : Hid (cs.length = m)) :
    Calls Try.prog 45 #[.slice a n c, .slice b m d] w fun e w' => e = .returned (.bool (Sh.sharedB fs cs)) ∧ w' = w := by
  have HE : Hid (Sh.sharedB fs cs = (Sh.flowB fs && decide (m = n) && countsB cs 40)) := hide (by unfold Sh.sharedB countsB; rw [hn.out, hm.out, Bool.and_assoc])
  cases h1 : Sh.flowB fs
  · have HF : Hid (false = Sh.sharedB fs cs) := hide (by rw [HE.out, h1]; rfl)
    have H1 := hide h1
    clear h1
    go_enter Try.func45, Try.ntmps45
    go_wp2_with (go_at_call 43; refine (flows_eq h hn H1).mono ?_; rintro e w1 ⟨rfl, rfl⟩)
    go_ret
    exact ⟨ret_bool HF.out, rfl⟩
  · have hl : n ≤ 8 := by have := Sh.flowB_yes h1; have := hn.out; omega
    have H1 := hide h1
    by_cases hmn : m = n
    · subst hmn
      have he : ((m : Int) == (m : Int)) = true := by simp
      have HF : Hid (countsB cs 40 = Sh.sharedB fs cs) := hide (by rw [HE.out, h1]; simp)
      clear h1
      go_enter Try.func45, Try.ntmps45
      go_wp2_with (first
        | (go_at_call 43; refine (flows_eq h hn H1).mono ?_; rintro e w1 ⟨rfl, rfl⟩)
        | (go_at_call 85; refine (counts_eq (by omega) g hm (by omega) HF).mono ?_; rintro e w1 ⟨rfl, rfl⟩))
      go_ret
      exact ⟨rfl, rfl⟩
    · have he : ((m : Int) == (n : Int)) = false := by simp; omega
      have HF : Hid (false = Sh.sharedB fs cs) := hide (by rw [HE.out, h1]; simp [hmn])
      clear h1
      go_enter Try.func45, Try.ntmps45
      go_wp2_with (go_at_call 43; refine (flows_eq h hn H1).mono ?_; rintro e w1 ⟨rfl, rfl⟩)
      go_ret
      exact ⟨ret_bool HF.out, rfl⟩
theorem shared_eq {a b : Option Addr} {n m c d : Nat} {fs cs : List Int} {w : World} {r : Bool} (h : Hid (ARow w a fs)) (hn : Hid (fs.length = n)) (g : Hid (ARow w b cs)) (hm : Hid (cs.length = m)) (hr : Hid (Sh.sharedB fs cs = r)) :
    Calls Try.prog 45 #[.slice a n c, .slice b m d] w fun e w' => e = .returned (.bool r) ∧ w' = w := hr.out ▸ shared_any h hn g hm
set_option maxRecDepth 100000 in
set_option maxHeartbeats 1000000 in
theorem sshared_any {a b : Option Addr} {n m c d : Nat} {fs cs : List Int} {w : World} (h : Hid (ARow w a fs)) (hn : Hid (fs.length = n)) (g : Hid (ARow w b cs)) (hm : Hid (cs.length = m)) :
    Calls Try.prog 57 #[.slice a n c, .slice b m d] w fun e w' => e = .returned (.bool (Sh.sharedB fs cs)) ∧ w' = w := by
  have HE : Hid (Sh.sharedB fs cs = (Sh.flowB fs && decide (m = n) && Pf.allB cs 1 40 && decide (cs.sum ≤ 40))) := hide (by unfold Sh.sharedB; rw [hn.out, hm.out])
  cases h1 : Sh.flowB fs
  · have HF : Hid (false = Sh.sharedB fs cs) := hide (by rw [HE.out, h1]; rfl)
    have H1 := hide h1
    clear h1
    go_enter Try.func57, Try.ntmps57
    go_wp2_with (go_at_call 83; refine (sflows_eq h hn H1).mono ?_; rintro e w1 ⟨rfl, rfl⟩)
    go_ret
    exact ⟨ret_bool HF.out, rfl⟩
  · have hl : n ≤ 8 := by have := Sh.flowB_yes h1; have := hn.out; omega
    have H1 := hide h1
    by_cases hmn : m = n
    · subst hmn
      have he : ((m : Int) == (m : Int)) = true := by simp
      cases h2 : Pf.allB cs 1 40
      · have HF : Hid (false = Sh.sharedB fs cs) := hide (by rw [HE.out, h1, h2]; simp)
        have H2 := hide h2
        clear h1 h2
        go_enter Try.func57, Try.ntmps57
        go_wp2_with (first
          | (go_at_call 83; refine (sflows_eq h hn H1).mono ?_; rintro e w1 ⟨rfl, rfl⟩)
          | (go_at_call 91; refine (sall_eqn g hm (by omega) H2).mono ?_; rintro e w1 ⟨rfl, rfl⟩))
        go_ret
        exact ⟨ret_bool HF.out, rfl⟩
      · have HF : Hid (decide (cs.sum ≤ 40) = Sh.sharedB fs cs) := hide (by rw [HE.out, h1, h2]; simp)
        have H2 := hide h2
        clear h1 h2
        go_enter Try.func57, Try.ntmps57
        go_wp2_with (first
          | (go_at_call 83; refine (sflows_eq h hn H1).mono ?_; rintro e w1 ⟨rfl, rfl⟩)
          | (go_at_call 91; refine (sall_eqn g hm (by omega) H2).mono ?_; rintro e w1 ⟨rfl, rfl⟩)
          | (go_at_call 92; refine (sisum_eqn g hm (by omega) H2).mono ?_; rintro e w1 ⟨rfl, rfl⟩))
        go_ret
        exact ⟨ret_bool HF.out, rfl⟩
    · have he : ((m : Int) == (n : Int)) = false := by simp; omega
      have HF : Hid (false = Sh.sharedB fs cs) := hide (by rw [HE.out, h1]; simp [hmn])
      clear h1
      go_enter Try.func57, Try.ntmps57
      go_wp2_with (go_at_call 83; refine (sflows_eq h hn H1).mono ?_; rintro e w1 ⟨rfl, rfl⟩)
      go_ret
      exact ⟨ret_bool HF.out, rfl⟩
theorem sshared_eq {a b : Option Addr} {n m c d : Nat} {fs cs : List Int} {w : World} {r : Bool} (h : Hid (ARow w a fs)) (hn : Hid (fs.length = n)) (g : Hid (ARow w b cs)) (hm : Hid (cs.length = m)) (hr : Hid (Sh.sharedB fs cs = r)) :
    Calls Try.prog 57 #[.slice a n c, .slice b m d] w fun e w' => e = .returned (.bool r) ∧ w' = w := hr.out ▸ sshared_any h hn g hm

/-- A fraction as a value. -/
def fv (p : Int × Int) : Value := .agg #[.int .i64 p.1, .int .i64 p.2]
theorem fv_eq (p : Int × Int) : fv p = .agg #[.int .i64 p.1, .int .i64 p.2] := rfl
theorem below_set2 {w w1 : World} {o : Obj} {a b : Addr} {u v : Value} (hb : Below (w.alloc o).heap.size (w.alloc o) w1) (ha : w.heap.size ≤ a.block) (hb' : w.heap.size ≤ b.block) : Below w.heap.size w ((w1.setCell a u).setCell b v) :=
  ((((Below.refl _ _).alloc (Nat.le_refl _) _).trans (hb.mono (by simp))).setCell ha _).setCell hb' _
set_option maxRecDepth 100000 in
set_option maxHeartbeats 400000 in
theorem gainAt_any {f c : Int} {w : World} (f0 : 1 ≤ f) (f1 : f ≤ 30) (c0 : 1 ≤ c) (c1 : c ≤ 40) :
    Calls Try.prog 54 #[.int .i64 f, .int .i64 c] w fun e w' => e = .returned (fv (Sh.gain f c)) ∧ Below w.heap.size w w' := by
  obtain ⟨d0, d1⟩ := Sh.gain_den c0 c1
  have m1 : wrap64 (c * (c + 1)) = c * (c + 1) := wrap_id _ (by omega) (by omega)
  have m0 : wrap64 (c + 1) = c + 1 := wrap_id _ (by omega) (by omega)
  go_enter Try.func54, Try.ntmps54
  go_wp2_with (go_at_call 67; refine (lowest_pos f (c * (c + 1)) _ (by omega) (by omega) d0 (by omega)).mono ?_; rintro e w1 ⟨rfl, hb⟩; obtain ⟨hc, hf⟩ := bcell hb; have hz : w.heap.size < w1.heap.size := by have := hb.size; simp at this; omega)
  exact bodyPost_ret (v := fv (Sh.gain f c)) (by simp [results, Try.results54, go_sem, hc, fv, Sh.gain, Sh.mk]) rfl ⟨rfl, below_set2 hb (Nat.le_refl _) (Nat.le_refl _)⟩
set_option maxRecDepth 100000 in
set_option maxHeartbeats 400000 in
theorem lossAt_any {f c : Int} {w : World} (f0 : 1 ≤ f) (f1 : f ≤ 30) (c0 : 1 < c) (c1 : c ≤ 40) :
    Calls Try.prog 89 #[.int .i64 f, .int .i64 c] w fun e w' => e = .returned (fv (Sh.loss f c)) ∧ Below w.heap.size w w' := by
  obtain ⟨d0, d1⟩ := Sh.loss_den c0 c1
  have m1 : wrap64 (c * (c - 1)) = c * (c - 1) := wrap_id _ (by omega) (by omega)
  have m0 : wrap64 (c - 1) = c - 1 := wrap_id _ (by omega) (by omega)
  go_enter Try.func89, Try.ntmps89
  go_wp2_with (go_at_call 67; refine (lowest_pos f (c * (c - 1)) _ (by omega) (by omega) d0 (by omega)).mono ?_; rintro e w1 ⟨rfl, hb⟩; obtain ⟨hc, hf⟩ := bcell hb; have hz : w.heap.size < w1.heap.size := by have := hb.size; simp at this; omega)
  exact bodyPost_ret (v := fv (Sh.loss f c)) (by simp [results, Try.results89, go_sem, hc, fv, Sh.loss, Sh.mk]) rfl ⟨rfl, below_set2 hb (Nat.le_refl _) (Nat.le_refl _)⟩
set_option maxRecDepth 100000 in
set_option maxHeartbeats 400000 in
theorem costAt_any {f c : Int} {w : World} (f0 : 1 ≤ f) (f1 : f ≤ 30) (c0 : 1 ≤ c) (c1 : c ≤ 40) :
    Calls Try.prog 48 #[.int .i64 f, .int .i64 c] w fun e w' => e = .returned (fv (Sh.cost f c)) ∧ Below w.heap.size w w' := by
  go_enter Try.func48, Try.ntmps48
  go_wp2_with (go_at_call 67; refine (lowest_pos f c _ (by omega) (by omega) (by omega) (by omega)).mono ?_; rintro e w1 ⟨rfl, hb⟩; obtain ⟨hc, hf⟩ := bcell hb; have hz : w.heap.size < w1.heap.size := by have := hb.size; simp at this; omega)
  exact bodyPost_ret (v := fv (Sh.cost f c)) (by simp [results, Try.results48, go_sem, hc, fv, Sh.cost, Sh.mk]) rfl ⟨rfl, below_set2 hb (Nat.le_refl _) (Nat.le_refl _)⟩
theorem cmp_all {p q : Int × Int} {w : World} (h1 : Sh.goodF p = true) (h2 : Sh.goodF q = true) :
    ∃ v, ((v == -1) = Sh.less p q ∧ (v == 1) = Sh.more p q) ∧ Calls Try.prog 50 #[.agg #[.int .i64 p.1, .int .i64 p.2], .agg #[.int .i64 q.1, .int .i64 q.2]] w fun e w' => e = .returned (.int .i64 v) ∧ Below w.heap.size w w' := by
  have hcs := Fr.less_cases p.1 p.2 q.1 q.2 h1 h2
  cases h : (p.1 == q.1 && p.2 == q.2)
  · by_cases hl : p.1 * q.2 < q.1 * p.2
    · refine ⟨-1, ⟨by simp [Sh.less, Fr.lessB, hl], ?_⟩, cmp_lt _ _ _ _ w h1 h2 h hl⟩
      simp only [Sh.more, Sh.less, Fr.lessB]
      simp; omega
    · refine ⟨1, ⟨by simp [Sh.less, Fr.lessB, hl], ?_⟩, cmp_gt _ _ _ _ w h1 h2 h hl⟩
      simp only [Sh.more, Sh.less]
      rcases hcs with ⟨a, _⟩ | ⟨_, b⟩ | ⟨_, _, c1, c2⟩
      · simp [Fr.lessB] at a; omega
      · rw [b]; rfl
      · simp [c1, c2] at h
  · simp only [Bool.and_eq_true, beq_iff_eq] at h
    obtain ⟨e1, e2⟩ := h
    refine ⟨0, ⟨by simp [Sh.less, Fr.lessB, e1, e2], by simp [Sh.more, Sh.less, Fr.lessB, e1, e2]⟩, ?_⟩
    rw [e1, e2]; exact cmp_same _ _ w
set_option maxRecDepth 100000 in
set_option maxHeartbeats 400000 in
theorem more_any {p q : Int × Int} {w : World} (h1 : Sh.goodF p = true) (h2 : Sh.goodF q = true) :
    Calls Try.prog 90 #[.agg #[.int .i64 p.1, .int .i64 p.2], .agg #[.int .i64 q.1, .int .i64 q.2]] w fun e w' => e = .returned (.bool (Sh.more p q)) ∧ Below w.heap.size w w' := by
  obtain ⟨v, ⟨_, hv⟩, hcall⟩ := cmp_all (w := (w.alloc (.cells #[.int .i64 p.1, .int .i64 p.2] 35)).alloc (.cells #[.int .i64 q.1, .int .i64 q.2] 35)) h1 h2
  have HV := hide hv
  have HC := hide hcall
  clear h1 h2 hv hcall
  obtain ⟨p1, p2⟩ := p
  obtain ⟨q1, q2⟩ := q
  go_enter Try.func90, Try.ntmps90
  go_wp2_with (go_at_call 50; refine HC.out.mono ?_; rintro e w1 ⟨rfl, hb⟩)
  go_ret
  exact ⟨ret_bool HV.out, (((Below.refl _ _).alloc (Nat.le_refl _) _).alloc (by simp) _).trans (hb.mono (by simp; omega))⟩
set_option maxRecDepth 100000 in
set_option maxHeartbeats 400000 in
theorem less_any {p q : Int × Int} {w : World} (h1 : Sh.goodF p = true) (h2 : Sh.goodF q = true) :
    Calls Try.prog 56 #[.agg #[.int .i64 p.1, .int .i64 p.2], .agg #[.int .i64 q.1, .int .i64 q.2]] w fun e w' => e = .returned (.bool (Sh.less p q)) ∧ Below w.heap.size w w' := by
  obtain ⟨v, ⟨hv, _⟩, hcall⟩ := cmp_all (w := (w.alloc (.cells #[.int .i64 p.1, .int .i64 p.2] 35)).alloc (.cells #[.int .i64 q.1, .int .i64 q.2] 35)) h1 h2
  have HV := hide hv
  have HC := hide hcall
  clear h1 h2 hv hcall
  obtain ⟨p1, p2⟩ := p
  obtain ⟨q1, q2⟩ := q
  go_enter Try.func56, Try.ntmps56
  go_wp2_with (go_at_call 50; refine HC.out.mono ?_; rintro e w1 ⟨rfl, hb⟩)
  go_ret
  exact ⟨ret_bool HV.out, (((Below.refl _ _).alloc (Nat.le_refl _) _).alloc (by simp) _).trans (hb.mono (by simp; omega))⟩
set_option maxRecDepth 100000 in
set_option maxHeartbeats 400000 in
theorem sless_any {p q : Int × Int} {w : World} (h1 : Sh.goodF p = true) (h2 : Sh.goodF q = true) :
    Calls Try.prog 59 #[.agg #[.int .i64 p.1, .int .i64 p.2], .agg #[.int .i64 q.1, .int .i64 q.2]] w fun e w' => e = .returned (.bool (Sh.less p q)) ∧ Below w.heap.size w w' := by
  obtain ⟨p1, p2⟩ := p
  obtain ⟨q1, q2⟩ := q
  obtain ⟨a0, a1, a2, a3⟩ := Fr.good_bd p1 p2 h1
  obtain ⟨b0, b1, b2, b3⟩ := Fr.good_bd q1 q2 h2
  have m1 := wrap_mul p1 q2 (by omega) (by omega) (by omega) (by omega)
  have m2 := wrap_mul q1 p2 (by omega) (by omega) (by omega) (by omega)
  clear h1 h2
  go_enter Try.func59, Try.ntmps59
  go_wp2_with fail
  go_ret
  exact ⟨rfl, ((Below.refl _ _).alloc (Nat.le_refl _) _).alloc (by simp) _⟩
end Go.Proofs.Ytljccbnkibfimaa
