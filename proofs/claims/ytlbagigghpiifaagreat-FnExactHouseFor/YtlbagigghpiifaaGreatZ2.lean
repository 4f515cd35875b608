/-
  In one: C, E, G, Sb, Ha17, Hb17, Hc17, Hd17, F, J, Sc, He17, Hf17, Hk17, Hg17, Hh17, Sd, Se, Hl17, Hm17, Gn, Gp, Gq.
-/
import Derived.Test.YtlbagigghpiifaaGreatZ1
import Derived.Deep.QuietTactic
import Derived.BigQuiet
import Derived.Deep.RegionHeld3
import Derived.OwnWalk
import Derived.Laws.AppendOwn
import Derived.Shelf.Abstract
import Derived.Shelf.SlSortCmp.Insertion1
import Derived.Deep.DeepCutAuto
import Derived.Deep.CutBlock
import Derived.Deep.AppendLies
namespace Go.Proofs.YtlbagigghpiifaaGreat
open Go.RowKit

theorem lt3 {a b : Nat} (h : a + 1 + 1 < b) : a < b ∧ a + 1 < b := ⟨by omega, by omega⟩
theorem fracs_no (P : Program) (f : FuncId) (args : Array Value) (w : World) (a b : Int) (c : Bool) (ha : a = 0) (hb : b = 0) (hc : c = false)
    (h : Calls P f args w fun e w' => e = .returned (.tuple #[.agg #[.int .i64 0, .int .i64 0], .bool false]) ∧ Below w.heap.size w w') :
    Calls P f args w fun e w' => e = .returned (.tuple #[.agg #[.int .i64 a, .int .i64 b], .bool c]) ∧ Below w.heap.size w w' := by
  subst ha; subst hb; subst hc; exact h



end Go.Proofs.YtlbagigghpiifaaGreat
namespace Go.Proofs.YtlbagigghpiifaaGreat
open Go.RowKit

end Go.Proofs.YtlbagigghpiifaaGreat
namespace Go.Proofs.YtlbagigghpiifaaGreat
open Go.RowKit

theorem tup_ib {a b : Int} {c : Bool} (h : a = b) : Ending.returned (.tuple #[.int .i64 a, .bool c]) = .returned (.tuple #[.int .i64 b, .bool c]) := by rw [h]

set_option maxHeartbeats 400000 in
theorem cmp_same (n1 d1 : Int) (w : World) :
    Calls Tryz.prog 83 #[.agg #[.int .i64 n1, .int .i64 d1], .agg #[.int .i64 n1, .int .i64 d1]] w fun e w' => e = .returned (.int .i64 0) ∧ Below w.heap.size w w' := by
  have q1 := frac_eq n1 d1 n1 d1
  have q2 := fun x y => frac_eqg x y n1 d1 n1 d1
  simp at q1
  go_enter Tryz.func83, Tryz.ntmps83
  go_wp2
  go_ret
  exact ⟨rfl, ((Below.refl _ _).alloc (Nat.le_refl _) _).alloc (by simp) _⟩

set_option maxHeartbeats 400000 in
theorem cmp_lt (n1 d1 n2 d2 : Int) (w : World) (h1 : Fr.goodB n1 d1 = true) (h2 : Fr.goodB n2 d2 = true) (h : (n1 == n2 && d1 == d2) = false) (hl : n1 * d2 < n2 * d1) :
    Calls Tryz.prog 83 #[.agg #[.int .i64 n1, .int .i64 d1], .agg #[.int .i64 n2, .int .i64 d2]] w fun e w' => e = .returned (.int .i64 (-1)) ∧ Below w.heap.size w w' := by
  obtain ⟨a0, a1, a2, a3⟩ := Fr.good_bd n1 d1 h1
  obtain ⟨b0, b1, b2, b3⟩ := Fr.good_bd n2 d2 h2
  have m1 := wrap_mul n1 d2 (by omega) (by omega) (by omega) (by omega)
  have m2 := wrap_mul n2 d1 (by omega) (by omega) (by omega) (by omega)
  have q1 := frac_eq n1 d1 n2 d2
  have q2 := fun x y => frac_eqg x y n1 d1 n2 d2
  rw [h] at q1
  clear h1 h2 h
  go_enter Tryz.func83, Tryz.ntmps83
  go_wp2
  go_ret
  exact ⟨rfl, ((Below.refl _ _).alloc (Nat.le_refl _) _).alloc (by simp) _⟩

set_option maxHeartbeats 400000 in
theorem cmp_gt (n1 d1 n2 d2 : Int) (w : World) (h1 : Fr.goodB n1 d1 = true) (h2 : Fr.goodB n2 d2 = true) (h : (n1 == n2 && d1 == d2) = false) (hl : ¬ n1 * d2 < n2 * d1) :
    Calls Tryz.prog 83 #[.agg #[.int .i64 n1, .int .i64 d1], .agg #[.int .i64 n2, .int .i64 d2]] w fun e w' => e = .returned (.int .i64 1) ∧ Below w.heap.size w w' := by
  obtain ⟨a0, a1, a2, a3⟩ := Fr.good_bd n1 d1 h1
  obtain ⟨b0, b1, b2, b3⟩ := Fr.good_bd n2 d2 h2
  have m1 := wrap_mul n1 d2 (by omega) (by omega) (by omega) (by omega)
  have m2 := wrap_mul n2 d1 (by omega) (by omega) (by omega) (by omega)
  have q1 := frac_eq n1 d1 n2 d2
  have q2 := fun x y => frac_eqg x y n1 d1 n2 d2
  rw [h] at q1
  clear h1 h2 h
  go_enter Tryz.func83, Tryz.ntmps83
  go_wp2
  go_ret
  exact ⟨rfl, ((Below.refl _ _).alloc (Nat.le_refl _) _).alloc (by simp) _⟩

theorem cmp_any (n1 d1 n2 d2 : Int) (w : World) (h1 : Fr.goodB n1 d1 = true) (h2 : Fr.goodB n2 d2 = true) :
    ∃ v, (v == -1) = Fr.lessB n1 d1 n2 d2 ∧ Calls Tryz.prog 83 #[.agg #[.int .i64 n1, .int .i64 d1], .agg #[.int .i64 n2, .int .i64 d2]] w fun e w' => e = .returned (.int .i64 v) ∧ Below w.heap.size w w' := by
  cases h : (n1 == n2 && d1 == d2)
  · by_cases hl : n1 * d2 < n2 * d1
    · exact ⟨-1, by simp [Fr.lessB, hl], cmp_lt n1 d1 n2 d2 w h1 h2 h hl⟩
    · exact ⟨1, by simp [Fr.lessB, hl], cmp_gt n1 d1 n2 d2 w h1 h2 h hl⟩
  · simp at h
    obtain ⟨rfl, rfl⟩ := h
    exact ⟨0, by simp [Fr.lessB], cmp_same n1 d1 w⟩

set_option maxHeartbeats 400000 in
theorem sless_raw (n1 d1 n2 d2 : Int) (w : World) (h1 : Fr.goodB n1 d1 = true) (h2 : Fr.goodB n2 d2 = true) :
    Calls Tryz.prog 53 #[.agg #[.int .i64 n1, .int .i64 d1], .agg #[.int .i64 n2, .int .i64 d2]] w fun e w' => e = .returned (.bool (Fr.lessB n1 d1 n2 d2)) ∧ Below w.heap.size w w' := by
  obtain ⟨a0, a1, a2, a3⟩ := Fr.good_bd n1 d1 h1
  obtain ⟨b0, b1, b2, b3⟩ := Fr.good_bd n2 d2 h2
  have m1 := wrap_mul n1 d2 (by omega) (by omega) (by omega) (by omega)
  have m2 := wrap_mul n2 d1 (by omega) (by omega) (by omega) (by omega)
  clear h1 h2
  go_enter Tryz.func53, Tryz.ntmps53
  go_wp2
  go_ret
  exact ⟨rfl, ((Below.refl _ _).alloc (Nat.le_refl _) _).alloc (by simp) _⟩
end Go.Proofs.YtlbagigghpiifaaGreat
namespace Go.Proofs.YtlbagigghpiifaaGreat
open Go.RowKit

theorem sall_eqn {a : Option Addr} {n c : Nat} {xs : List Int} {lo hi : Int} {w : World} {r : Bool} (h : Hid (ARow w a xs)) (hn : Hid (xs.length = n)) (hl : n ≤ 1000) (hr : Hid (Pf.allB xs lo hi = r)) :
    Calls Tryz.prog 19 #[.slice a n c, .int .i64 lo, .int .i64 hi] w fun e w' => e = .returned (.bool r) ∧ w' = w := by
  have := hn.out
  subst this
  exact all_eq h.out (by omega) hr.out
theorem isum_eqn {a : Option Addr} {n c : Nat} {xs : List Int} {w : World} (h : Hid (ARow w a xs)) (hn : Hid (xs.length = n)) (hl : n ≤ 1000) (hr : Hid (Pf.allB xs 1 40 = true)) :
    Calls Tryz.prog 63 #[.slice a n c] w fun e w' => e = .returned (.int .i64 xs.sum) ∧ w' = w := by
  have := hn.out
  subst this
  exact isum_any h.out (by omega) (Pf.allB_of fun i hi => by have := Pf.inB_yes (Pf.allB_get hr.out hi); exact Pf.inB_of (by omega) (by omega))
set_option maxHeartbeats 400000 in
theorem flows_any {a : Option Addr} {n c : Nat} {fs : List Int} {w : World} (h : Hid (ARow w a fs)) (hn : Hid (fs.length = n)) :
    Calls Tryz.prog 59 #[.slice a n c] w fun e w' => e = .returned (.bool (Sh.flowB fs)) ∧ w' = w := by
  have HE : Hid (Sh.flowB fs = (Pf.inB n 1 8 && Pf.allB fs 1 30)) := hide (by unfold Sh.flowB; rw [hn.out])
  cases h1 : Pf.inB n 1 8
  · have HF : Hid (false = Sh.flowB fs) := hide (by rw [HE.out, h1]; rfl)
    go_enter Tryz.func59, Tryz.ntmps59
    go_wp2_with (go_at_call 60; refine (between_eq h1).mono ?_; rintro e w1 ⟨rfl, rfl⟩)
    go_ret
    exact ⟨ret_bool HF.out, rfl⟩
  · have hl : n ≤ 1000 := by have := Pf.inB_yes h1; omega
    have HF : Hid (Pf.allB fs 1 30 = Sh.flowB fs) := hide (by rw [HE.out, h1]; rfl)
    go_enter Tryz.func59, Tryz.ntmps59
    go_wp2_with (first
      | (go_at_call 60; refine (between_eq h1).mono ?_; rintro e w1 ⟨rfl, rfl⟩)
      | (go_at_call 64; refine (areb_eqn h hn hl HF).mono ?_; rintro e w1 ⟨rfl, rfl⟩))
    go_ret
    exact ⟨rfl, rfl⟩
theorem flows_eq {a : Option Addr} {n c : Nat} {fs : List Int} {w : World} {r : Bool} (h : Hid (ARow w a fs)) (hn : Hid (fs.length = n)) (hr : Hid (Sh.flowB fs = r)) :
    Calls Tryz.prog 59 #[.slice a n c] w fun e w' => e = .returned (.bool r) ∧ w' = w := hr.out ▸ flows_any h hn
set_option maxHeartbeats 400000 in
theorem sflows_any {a : Option Addr} {n c : Nat} {fs : List Int} {w : World} (h : Hid (ARow w a fs)) (hn : Hid (fs.length = n)) :
    Calls Tryz.prog 35 #[.slice a n c] w fun e w' => e = .returned (.bool (Sh.flowB fs)) ∧ w' = w := by
  have HE : Hid (Sh.flowB fs = (Pf.inB n 1 8 && Pf.allB fs 1 30)) := hide (by unfold Sh.flowB; rw [hn.out])
  cases h1 : Pf.inB n 1 8
  · have HF : Hid (false = Sh.flowB fs) := hide (by rw [HE.out, h1]; rfl)
    go_enter Tryz.func35, Tryz.ntmps35
    go_wp2_with (go_at_call 36; refine (in_eq h1).mono ?_; rintro e w1 ⟨rfl, rfl⟩)
    go_ret
    exact ⟨ret_bool HF.out, rfl⟩
  · have hl : n ≤ 1000 := by have := Pf.inB_yes h1; omega
    have HF : Hid (Pf.allB fs 1 30 = Sh.flowB fs) := hide (by rw [HE.out, h1]; rfl)
    go_enter Tryz.func35, Tryz.ntmps35
    go_wp2_with (first
      | (go_at_call 36; refine (in_eq h1).mono ?_; rintro e w1 ⟨rfl, rfl⟩)
      | (go_at_call 19; refine (sall_eqn h hn hl HF).mono ?_; rintro e w1 ⟨rfl, rfl⟩))
    go_ret
    exact ⟨rfl, rfl⟩
theorem sflows_eq {a : Option Addr} {n c : Nat} {fs : List Int} {w : World} {r : Bool} (h : Hid (ARow w a fs)) (hn : Hid (fs.length = n)) (hr : Hid (Sh.flowB fs = r)) :
    Calls Tryz.prog 35 #[.slice a n c] w fun e w' => e = .returned (.bool r) ∧ w' = w := hr.out ▸ sflows_any h hn

set_option maxHeartbeats 400000 in
theorem kinds_any {a : Option Addr} {n c : Nat} {p : Int} {fs : List Int} {w : World} (h : Hid (ARow w a fs)) (hn : Hid (fs.length = n)) :
    Calls Tryz.prog 43 #[.slice a n c, .int .i64 p] w fun e w' => e = .returned (.bool (Sh.kindsB fs p)) ∧ w' = w := by
  have HE : Hid (Sh.kindsB fs p = (Sh.flowB fs && Pf.inB p n 40)) := hide (by unfold Sh.kindsB; rw [hn.out])
  cases h1 : Sh.flowB fs
  · have HF : Hid (false = Sh.kindsB fs p) := hide (by rw [HE.out, h1]; rfl)
    have H1 := hide h1
    clear h1
    go_enter Tryz.func43, Tryz.ntmps43
    go_wp2_with (go_at_call 59; refine (flows_eq h hn H1).mono ?_; rintro e w1 ⟨rfl, rfl⟩)
    go_ret
    exact ⟨ret_bool HF.out, rfl⟩
  · have HF : Hid (Pf.inB p n 40 = Sh.kindsB fs p) := hide (by rw [HE.out, h1]; rfl)
    have H1 := hide h1
    clear h1
    go_enter Tryz.func43, Tryz.ntmps43
    go_wp2_with (first
      | (go_at_call 59; refine (flows_eq h hn H1).mono ?_; rintro e w1 ⟨rfl, rfl⟩)
      | (go_at_call 60; refine (between_eq HF.out).mono ?_; rintro e w1 ⟨rfl, rfl⟩))
    go_ret
    exact ⟨rfl, rfl⟩
theorem kinds_eq {a : Option Addr} {n c : Nat} {p : Int} {fs : List Int} {w : World} {r : Bool} (h : Hid (ARow w a fs)) (hn : Hid (fs.length = n)) (hr : Hid (Sh.kindsB fs p = r)) :
    Calls Tryz.prog 43 #[.slice a n c, .int .i64 p] w fun e w' => e = .returned (.bool r) ∧ w' = w := hr.out ▸ kinds_any h hn
/-- Whether counts are at least 1 each and no more than so many, together too. -/
def countsB (cs : List Int) (M : Int) : Bool := Pf.allB cs 1 M && decide (cs.sum ≤ M)
theorem isum17 {a : Option Addr} {n c : Nat} {xs : List Int} {w : World} (h : Hid (ARow w a xs)) (hn : Hid (xs.length = n)) (hl : n ≤ 1000) (hr : Hid (Pf.allB xs (-10000000) 10000000 = true)) :
    Calls Tryz.prog 63 #[.slice a n c] w fun e w' => e = .returned (.int .i64 xs.sum) ∧ w' = w := by
  have := hn.out
  subst this
  exact isum_any h.out (by omega) hr.out
set_option maxHeartbeats 1000000 in
theorem counts_any {b : Option Addr} {m d : Nat} {M : Int} {cs : List Int} {w : World} (hM : M ≤ 1000) (g : Hid (ARow w b cs)) (hm : Hid (cs.length = m)) (hl : m ≤ 1000) :
    Calls Tryz.prog 77 #[.slice b m d, .int .i64 M] w fun e w' => e = .returned (.bool (countsB cs M)) ∧ w' = w := by
  cases h2 : Pf.allB cs 1 M
  · have HF : Hid (false = countsB cs M) := hide (by unfold countsB; rw [h2]; rfl)
    have H2 := hide h2
    clear h2
    go_enter Tryz.func77, Tryz.ntmps77
    go_wp2_with (go_at_call 64; refine (areb_eqn g hm (by omega) H2).mono ?_; rintro e w1 ⟨rfl, rfl⟩)
    go_ret
    exact ⟨ret_bool HF.out, rfl⟩
  · have HF : Hid (decide (cs.sum ≤ M) = countsB cs M) := hide (by unfold countsB; rw [h2]; rfl)
    have H2 := hide h2
    have H3 : Hid (Pf.allB cs (-10000000) 10000000 = true) := hide (Pf.allB_of fun i hi => by have := Pf.inB_yes (Pf.allB_get h2 hi); exact Pf.inB_of (by omega) (by omega))
    clear h2
    go_enter Tryz.func77, Tryz.ntmps77
    go_wp2_with (first
      | (go_at_call 64; refine (areb_eqn g hm (by omega) H2).mono ?_; rintro e w1 ⟨rfl, rfl⟩)
      | (go_at_call 63; refine (isum17 g hm hl H3).mono ?_; rintro e w1 ⟨rfl, rfl⟩))
    go_ret
    exact ⟨ret_bool HF.out, rfl⟩
theorem counts_eq {b : Option Addr} {m d : Nat} {M : Int} {cs : List Int} {w : World} {r : Bool} (hM : M ≤ 1000) (g : Hid (ARow w b cs)) (hm : Hid (cs.length = m)) (hl : m ≤ 1000) (hr : Hid (countsB cs M = r)) :
    Calls Tryz.prog 77 #[.slice b m d, .int .i64 M] w fun e w' => e = .returned (.bool r) ∧ w' = w := hr.out ▸ counts_any hM g hm hl
/-- A fraction as a value. -/
def fv (p : Int × Int) : Value := .agg #[.int .i64 p.1, .int .i64 p.2]
theorem fv_eq (p : Int × Int) : fv p = .agg #[.int .i64 p.1, .int .i64 p.2] := rfl
theorem below_set2 {w w1 : World} {o : Obj} {a b : Addr} {u v : Value} (hb : Below (w.alloc o).heap.size (w.alloc o) w1) (ha : w.heap.size ≤ a.block) (hb' : w.heap.size ≤ b.block) : Below w.heap.size w ((w1.setCell a u).setCell b v) :=
  ((((Below.refl _ _).alloc (Nat.le_refl _) _).trans (hb.mono (by simp))).setCell ha _).setCell hb' _
set_option maxHeartbeats 400000 in
theorem gainAt_any {f c : Int} {w : World} (f0 : 1 ≤ f) (f1 : f ≤ 30) (c0 : 1 ≤ c) (c1 : c ≤ 40) :
    Calls Tryz.prog 75 #[.int .i64 f, .int .i64 c] w fun e w' => e = .returned (fv (Sh.gain f c)) ∧ Below w.heap.size w w' := by
  obtain ⟨d0, d1⟩ := Sh.gain_den c0 c1
  have m1 : wrap64 (c * (c + 1)) = c * (c + 1) := wrap_id _ (by omega) (by omega)
  have m0 : wrap64 (c + 1) = c + 1 := wrap_id _ (by omega) (by omega)
  go_enter Tryz.func75, Tryz.ntmps75
  go_wp2_with (go_at_call 81; refine (lowest_pos f (c * (c + 1)) _ (by omega) (by omega) d0 (by omega)).mono ?_; rintro e w1 ⟨rfl, hb⟩; obtain ⟨hc, hf⟩ := bcell hb; have hz : w.heap.size < w1.heap.size := by have := hb.size; simp at this; omega)
  exact bodyPost_ret (v := fv (Sh.gain f c)) (by simp [results, Tryz.results75, go_sem, hc, fv, Sh.gain, Sh.mk]) rfl ⟨rfl, below_set2 hb (Nat.le_refl _) (Nat.le_refl _)⟩
theorem cmp_all {p q : Int × Int} {w : World} (h1 : Sh.goodF p = true) (h2 : Sh.goodF q = true) :
    ∃ v, ((v == -1) = Sh.less p q ∧ (v == 1) = Sh.more p q) ∧ Calls Tryz.prog 83 #[.agg #[.int .i64 p.1, .int .i64 p.2], .agg #[.int .i64 q.1, .int .i64 q.2]] w fun e w' => e = .returned (.int .i64 v) ∧ Below w.heap.size w w' := by
  have hcs := Fr.less_cases p.1 p.2 q.1 q.2 h1 h2
  cases h : (p.1 == q.1 && p.2 == q.2)
  · by_cases hl : p.1 * q.2 < q.1 * p.2
    · refine ⟨-1, ⟨by simp [Sh.less, Fr.lessB, hl], ?_⟩, cmp_lt _ _ _ _ w h1 h2 h hl⟩
      simp only [Sh.more, Sh.less, Fr.lessB]
      simp; omega
    · refine ⟨1, ⟨by simp [Sh.less, Fr.lessB, hl], ?_⟩, cmp_gt _ _ _ _ w h1 h2 h hl⟩
      simp only [Sh.more, Sh.less]
      rcases hcs with ⟨a, _⟩ | ⟨_, b⟩ | ⟨_, _, c1, c2⟩
      · simp [Fr.lessB] at a; omega
      · rw [b]; rfl
      · simp [c1, c2] at h
  · simp only [Bool.and_eq_true, beq_iff_eq] at h
    obtain ⟨e1, e2⟩ := h
    refine ⟨0, ⟨by simp [Sh.less, Fr.lessB, e1, e2], by simp [Sh.more, Sh.less, Fr.lessB, e1, e2]⟩, ?_⟩
    rw [e1, e2]; exact cmp_same _ _ w
set_option maxHeartbeats 400000 in
theorem more_any {p q : Int × Int} {w : World} (h1 : Sh.goodF p = true) (h2 : Sh.goodF q = true) :
    Calls Tryz.prog 76 #[.agg #[.int .i64 p.1, .int .i64 p.2], .agg #[.int .i64 q.1, .int .i64 q.2]] w fun e w' => e = .returned (.bool (Sh.more p q)) ∧ Below w.heap.size w w' := by
  obtain ⟨v, ⟨_, hv⟩, hcall⟩ := cmp_all (w := (w.alloc (.cells #[.int .i64 p.1, .int .i64 p.2] 89)).alloc (.cells #[.int .i64 q.1, .int .i64 q.2] 89)) h1 h2
  have HV := hide hv
  have HC := hide hcall
  clear h1 h2 hv hcall
  obtain ⟨p1, p2⟩ := p
  obtain ⟨q1, q2⟩ := q
  go_enter Tryz.func76, Tryz.ntmps76
  go_wp2_with (go_at_call 83; refine HC.out.mono ?_; rintro e w1 ⟨rfl, hb⟩)
  go_ret
  exact ⟨ret_bool HV.out, (((Below.refl _ _).alloc (Nat.le_refl _) _).alloc (by simp) _).trans (hb.mono (by simp; omega))⟩
set_option maxHeartbeats 400000 in
theorem sless_any {p q : Int × Int} {w : World} (h1 : Sh.goodF p = true) (h2 : Sh.goodF q = true) :
    Calls Tryz.prog 53 #[.agg #[.int .i64 p.1, .int .i64 p.2], .agg #[.int .i64 q.1, .int .i64 q.2]] w fun e w' => e = .returned (.bool (Sh.less p q)) ∧ Below w.heap.size w w' := by
  obtain ⟨p1, p2⟩ := p
  obtain ⟨q1, q2⟩ := q
  obtain ⟨a0, a1, a2, a3⟩ := Fr.good_bd p1 p2 h1
  obtain ⟨b0, b1, b2, b3⟩ := Fr.good_bd q1 q2 h2
  have m1 := wrap_mul p1 q2 (by omega) (by omega) (by omega) (by omega)
  have m2 := wrap_mul q1 p2 (by omega) (by omega) (by omega) (by omega)
  clear h1 h2
  go_enter Tryz.func53, Tryz.ntmps53
  go_wp2_with fail
  go_ret
  exact ⟨rfl, ((Below.refl _ _).alloc (Nat.le_refl _) _).alloc (by simp) _⟩
end Go.Proofs.YtlbagigghpiifaaGreat
namespace Go.Proofs.YtlbagigghpiifaaGreat.Hs
open Go.Proofs.YtlbagigghpiifaaGreat

/-- Counts are as said for as many slots as they are together. -/
def cntB (cs : List Int) : Bool := Pf.inB cs.length 1 8 && (Pf.allB cs 1 10 && decide (cs.sum ≤ 10))
def slotsB (cs ws : List Int) : Bool := cntB cs && decide (cs.sum = (ws.length : Int)) && Pf.allB ws 0 1000
theorem cntB_yes {cs : List Int} (h : cntB cs = true) : 1 ≤ cs.length ∧ cs.length ≤ 8 ∧ Pf.allB cs 1 10 = true ∧ cs.sum ≤ 10 := by
  simp only [cntB, Bool.and_eq_true, decide_eq_true_eq] at h
  have := Pf.inB_yes h.1
  exact ⟨by omega, by omega, h.2.1, h.2.2⟩
theorem cntB_at {cs : List Int} (h : cntB cs = true) {i : Nat} (hi : i < cs.length) : 1 ≤ cs.getD i 0 ∧ cs.getD i 0 ≤ 10 := Pf.inB_yes (Pf.allB_get (cntB_yes h).2.2.1 hi)
theorem slotsB_yes {cs ws : List Int} (h : slotsB cs ws = true) : cntB cs = true ∧ cs.sum = (ws.length : Int) ∧ Pf.allB ws 0 1000 = true ∧ ws.length ≤ 10 := by
  simp only [slotsB, Bool.and_eq_true, decide_eq_true_eq] at h
  have := (cntB_yes h.1.1).2.2.2
  exact ⟨h.1.1, h.1.2, h.2, by omega⟩

/-- What each good owns, behind so many owners. -/
def ownN (m : Nat) (os : List Int) : Nat → List Int
  | 0 => List.replicate m 0
  | k + 1 => (ownN m os k).set (os.getD k 0).toNat ((ownN m os k).getD (os.getD k 0).toNat 0 + 1)
theorem ownN_len (m : Nat) (os : List Int) : ∀ k, (ownN m os k).length = m
  | 0 => by simp [ownN]
  | k + 1 => by simp [ownN, ownN_len m os k]
/-- Whether each good owns as many as its count. -/
def fitB (cs os : List Int) : Bool := Pf.allB os 0 ((cs.length : Int) - 1) && decide (ownN cs.length os os.length = cs)
theorem sum_set {xs : List Int} {i : Nat} {x : Int} (h : i < xs.length) : (xs.set i x).sum = xs.sum + (x - xs.getD i 0) := by
  induction xs generalizing i with
  | nil => simp at h
  | cons y ys ih =>
    cases i with
    | zero => simp; omega
    | succ i =>
      have := ih (i := i) (by simpa using h)
      simp only [List.set_cons_succ, List.sum_cons, List.getD_cons_succ]
      omega
theorem ownN_sum {m : Nat} {os : List Int} (h : Pf.allB os 0 ((m : Int) - 1) = true) : ∀ k, k ≤ os.length → (ownN m os k).sum = (k : Int)
  | 0, _ => by
    show (List.replicate m (0 : Int)).sum = 0
    induction m with
    | zero => rfl
    | succ m ih => simp
  | k + 1, hk => by
    have h1 := Pf.inB_yes (Pf.allB_get h (show k < os.length by omega))
    have ih := ownN_sum h k (by omega)
    rw [ownN, sum_set (by rw [ownN_len]; omega), ih]
    push_cast; omega
theorem ownN_le {m : Nat} {os : List Int} : ∀ k i, (ownN m os k).getD i 0 ≤ (k : Int) ∧ 0 ≤ (ownN m os k).getD i 0
  | 0, i => by
    simp only [ownN, List.getD_eq_getElem?_getD, List.getElem?_replicate]
    split <;> simp
  | k + 1, i => by
    have h1 := ownN_le (m := m) (os := os) k i
    have h2 := ownN_le (m := m) (os := os) k (os.getD k 0).toNat
    simp only [ownN, List.getD_eq_getElem?_getD, List.getElem?_set] at h1 h2 ⊢
    split
    · split
      · simp; omega
      · simp; omega
    · push_cast; omega
theorem fitB_yes {cs os : List Int} (h : fitB cs os = true) : Pf.allB os 0 ((cs.length : Int) - 1) = true ∧ ownN cs.length os os.length = cs := by
  simpa [fitB] using h
theorem fit_len {cs os : List Int} (h : fitB cs os = true) : cs.sum = (os.length : Int) := by
  obtain ⟨h1, h2⟩ := fitB_yes h
  have := ownN_sum h1 os.length (Nat.le_refl _)
  rw [h2] at this; exact this
theorem fit_at {cs os : List Int} (h : fitB cs os = true) {i : Nat} (hi : i < os.length) : 0 ≤ os.getD i 0 ∧ os.getD i 0 < (cs.length : Int) := by
  have := Pf.inB_yes (Pf.allB_get (fitB_yes h).1 hi); omega
theorem fit_no {cs os : List Int} {i : Nat} (hi : i < os.length) (h : Pf.inB (os.getD i 0) 0 ((cs.length : Int) - 1) = false) : fitB cs os = false := by
  unfold fitB; rw [Pf.allB_not hi h]; rfl

/-- A good's picks for each of its slots, as a whole number: 2520 is what all of 1 .. 10 divide. -/
def wt (ps cs : List Int) : List Int := (List.range ps.length).map fun i => ps.getD i 0 * (2520 / cs.getD i 0)
theorem wt_len (ps cs : List Int) : (wt ps cs).length = ps.length := by simp [wt]
theorem wt_at (ps cs : List Int) {i : Nat} (hi : i < ps.length) : Rk.val (wt ps cs) i = ps.getD i 0 * (2520 / cs.getD i 0) := by
  simp [Rk.val, wt, hi]
theorem part_of {c : Int} (h1 : 1 ≤ c) (h2 : c ≤ 10) : (2520 / c) * c = 2520 := by
  have : c = 1 ∨ c = 2 ∨ c = 3 ∨ c = 4 ∨ c = 5 ∨ c = 6 ∨ c = 7 ∨ c = 8 ∨ c = 9 ∨ c = 10 := by omega
  rcases this with rfl | rfl | rfl | rfl | rfl | rfl | rfl | rfl | rfl | rfl <;> rfl
theorem wt_lt {p q c d : Int} (c1 : 1 ≤ c) (c2 : c ≤ 10) (d1 : 1 ≤ d) (d2 : d ≤ 10) : p * (2520 / c) < q * (2520 / d) ↔ p * d < q * c := by
  have hc := part_of c1 c2
  have hd := part_of d1 d2
  generalize 2520 / c = C at *
  generalize 2520 / d = D at *
  have e1 : p * C * (c * d) = 2520 * (p * d) := by rw [show p * C * (c * d) = (C * c) * (p * d) by ac_rfl, hc]
  have e2 : q * D * (c * d) = 2520 * (q * c) := by rw [show q * D * (c * d) = (D * d) * (q * c) by ac_rfl, hd]
  have hcd : 0 < c * d := Int.mul_pos (by omega) (by omega)
  constructor
  · intro h
    have := (Int.mul_lt_mul_of_pos_right h hcd)
    omega
  · intro h
    rcases Int.lt_or_le (p * C) (q * D) with h' | h'
    · exact h'
    · have := Int.mul_le_mul_of_nonneg_right h' (Int.le_of_lt hcd)
      omega
theorem cross_lt {p q c d : Int} (hc : 0 < c) (hd : 0 < d) : (Sh.mk p c).1 * (Sh.mk q d).2 < (Sh.mk q d).1 * (Sh.mk p c).2 ↔ p * d < q * c := by
  obtain ⟨G, g0, e1, e2, _⟩ := Sh.mk_facts p c hc
  obtain ⟨H, h0, e3, e4, _⟩ := Sh.mk_facts q d hd
  generalize (Sh.mk p c).1 = a at *
  generalize (Sh.mk p c).2 = b at *
  generalize (Sh.mk q d).1 = x at *
  generalize (Sh.mk q d).2 = y at *
  subst e1 e2 e3 e4
  have r1 : G * a * (H * y) = (G * H) * (a * y) := by ac_rfl
  have r2 : H * x * (G * b) = (G * H) * (x * b) := by ac_rfl
  have hGH : 0 < G * H := Int.mul_pos g0 h0
  rw [r1, r2]
  exact ⟨fun h => Int.mul_lt_mul_of_pos_left h hGH, fun h => Int.lt_of_mul_lt_mul_left h (Int.le_of_lt hGH)⟩
/-- Each good's picks for each of its slots, as fractions. -/
theorem cost_good {p c : Int} (p1 : 1 ≤ p) (p2 : p ≤ 30) (c1 : 1 ≤ c) (c2 : c ≤ 10) : Sh.goodF (Sh.cost p c) = true := Sh.mk_good (by omega) (by omega) (by omega) (by omega)

/-- Goods, each as often as it has slots. -/
def exp (cs : List Int) : List Nat → List Nat
  | [] => []
  | k :: r => List.replicate (cs.getD k 0).toNat k ++ exp cs r
theorem exp_app (cs : List Int) : ∀ a b, exp cs (a ++ b) = exp cs a ++ exp cs b
  | [], b => rfl
  | k :: r, b => by simp [exp, exp_app cs r b]
theorem exp_mem {cs : List Int} {x : Nat} : ∀ {l}, x ∈ exp cs l → x ∈ l
  | [], h => by cases h
  | k :: r, h => by
    rcases List.mem_append.1 h with h | h
    · rw [List.eq_of_mem_replicate h]; exact List.mem_cons_self
    · exact List.mem_cons_of_mem _ (exp_mem h)
theorem exp_len (cs : List Int) : ∀ l, (exp cs l).length = (l.map fun k => (cs.getD k 0).toNat).sum
  | [] => rfl
  | k :: r => by simp [exp, exp_len cs r]
theorem sum_nat : ∀ {xs : List Int}, (∀ i, i < xs.length → 0 ≤ xs.getD i 0) → (((List.range xs.length).map fun k => (xs.getD k 0).toNat).sum : Int) = xs.sum
  | [], _ => rfl
  | x :: r, h => by
    have h0 := h 0 (by simp)
    have ih := sum_nat (xs := r) fun i hi => by simpa using h (i + 1) (by simpa using hi)
    rw [List.length_cons, List.range_succ_eq_map, List.map_cons, List.map_map, List.sum_cons, List.sum_cons]
    simp only [List.getD_cons_zero] at h0 ⊢
    rw [← ih]
    simp only [Function.comp_def, List.getD_cons_succ]
    push_cast
    omega
/-- As many as all slots together, in whatever order the goods come. -/
theorem exp_all {cs : List Int} {g : List Nat} {n : Nat} (hc : ∀ i, i < cs.length → 0 ≤ cs.getD i 0) (hs : cs.sum = (n : Int)) (hg : g.Perm (List.range cs.length)) : (exp cs g).length = n := by
  have h := sum_nat hc
  rw [exp_len]
  have : (g.map fun k => (cs.getD k 0).toNat).sum = ((List.range cs.length).map fun k => (cs.getD k 0).toNat).sum := (hg.map _).sum_nat
  omega
/-- How many slots the first k goods have. -/
def upto (cs : List Int) (g : List Nat) (k : Nat) : Nat := (exp cs (g.take k)).length
theorem take_succ' (g : List Nat) {k : Nat} (hk : k < g.length) : g.take (k + 1) = g.take k ++ [g.getD k 0] := by
  rw [List.take_add_one]; congr 1; simp [hk]
theorem upto_zero (cs : List Int) (g : List Nat) : upto cs g 0 = 0 := rfl
theorem upto_succ (cs : List Int) (g : List Nat) {k : Nat} (hk : k < g.length) : upto cs g (k + 1) = upto cs g k + (cs.getD (g.getD k 0) 0).toNat := by
  unfold upto
  rw [take_succ' g hk, exp_app]
  simp [exp]
theorem upto_le (cs : List Int) (g : List Nat) (k : Nat) : upto cs g k ≤ (exp cs g).length := by
  conv => rhs; rw [← List.take_append_drop k g, exp_app, List.length_append]
  exact Nat.le_add_right _ _
theorem upto_all (cs : List Int) (g : List Nat) : upto cs g g.length = (exp cs g).length := by unfold upto; rw [List.take_length]
/-- Which good the slot has that comes so far. -/
theorem exp_at (cs : List Int) (g : List Nat) {k j : Nat} (hk : k < g.length) (hj : j < (cs.getD (g.getD k 0) 0).toNat) : (exp cs g).getD (upto cs g k + j) 0 = g.getD k 0 := by
  have e : exp cs g = exp cs (g.take k) ++ (List.replicate (cs.getD (g.getD k 0) 0).toNat (g.getD k 0) ++ exp cs (g.drop (k + 1))) := by
    conv => lhs; rw [← List.take_append_drop k g, exp_app]
    rw [show g.drop k = g.getD k 0 :: g.drop (k + 1) by rw [List.drop_eq_getElem_cons hk]; simp [hk]]
    rfl
  rw [e]
  unfold upto
  generalize (cs.getD (g.getD k 0) 0).toNat = N at *
  generalize g.getD k 0 = x at *
  rw [List.getD_eq_getElem?_getD, List.getElem?_append_right (by omega), Nat.add_sub_cancel_left, List.getElem?_append_left (by simpa using hj), List.getElem?_replicate, if_pos hj]
  rfl

/-- Whose each slot is. -/
def ownL (ps cs ws : List Int) : List Int := putTo (exp cs (Rk.rank (wt ps cs))) (Rk.rank (negs ws)) ws.length ws.length
theorem ownL_len (ps cs ws : List Int) : (ownL ps cs ws).length = ws.length := putTo_len _ _ _ _
def goodsL (ps cs : List Int) : List Nat := Rk.rank (wt ps cs)
theorem goodsL_len (ps cs : List Int) : (goodsL ps cs).length = ps.length := by rw [goodsL, Rk.rank_len, wt_len]
theorem goodsL_lt {ps cs : List Int} {k : Nat} (hk : k < ps.length) : (goodsL ps cs).getD k 0 < ps.length := by
  have := rk_nth_lt (vs := wt ps cs) (k := k) (by rw [wt_len]; exact hk)
  rwa [wt_len] at this
theorem goodsL_all {ps cs ws : List Int} (hl : cs.length = ps.length) (h : slotsB cs ws = true) : (exp cs (goodsL ps cs)).length = ws.length := by
  obtain ⟨h1, h2, _⟩ := slotsB_yes h
  refine exp_all (fun i hi => ?_) h2 ?_
  · have := cntB_at h1 hi; omega
  · rw [hl, ← wt_len ps cs]; exact Rk.rank_perm _

/-- How far the picks of each slot are carried. -/
def farL (ps cs ws os : List Int) : List (Int × Int) := (List.range os.length).map fun s => Sh.mk (ws.getD s 0 * ps.getD (os.getD s 0).toNat 0) (cs.getD (os.getD s 0).toNat 0)
theorem farL_len (ps cs ws os : List Int) : (farL ps cs ws os).length = os.length := by simp [farL]
theorem farL_at (ps cs ws os : List Int) {s : Nat} (h : s < os.length) : (farL ps cs ws os).getD s (0, 0) = Sh.mk (ws.getD s 0 * ps.getD (os.getD s 0).toNat 0) (cs.getD (os.getD s 0).toNat 0) := by simp [farL, h]

/-- Slots and owners are as said: a good house. -/
def houseB (ws cs os : List Int) : Bool := slotsB cs ws && fitB cs os
/-- Picks are as said for a house. -/
def dayB (ps cs ws : List Int) : Bool := Sh.flowB ps && decide (ps.length = cs.length) && slotsB cs ws
end Go.Proofs.YtlbagigghpiifaaGreat.Hs
namespace Go.Proofs.YtlbagigghpiifaaGreat
open Go.RowKit

/-- A house in a variable. -/
def HBox (w : World) (B : Nat) (v0 v1 v2 : Value) : Prop := w.cell? ⟨B, 0, none⟩ = some v0 ∧ w.cell? ⟨B, 1, none⟩ = some v1 ∧ w.cell? ⟨B, 2, none⟩ = some v2 ∧ B < w.heap.size
theorem HBox.new (w : World) (v0 v1 v2 : Value) (t : TypeId) : HBox (w.alloc (.cells #[v0, v1, v2] t)) w.heap.size v0 v1 v2 := ⟨by simp [go_sem], by simp [go_sem], by simp [go_sem], by simp⟩
theorem HBox.below {w w' : World} {B : Nat} {v0 v1 v2 : Value} (h : HBox w B v0 v1 v2) (hb : Below w.heap.size w w') : HBox w' B v0 v1 v2 :=
  ⟨(hb.cell h.2.2.2).trans h.1, (hb.cell h.2.2.2).trans h.2.1, (hb.cell h.2.2.2).trans h.2.2.1, Nat.lt_of_lt_of_le h.2.2.2 hb.size⟩
theorem and_false17 {a b : Bool} (h : a = false) : (a && b) = false := by rw [h]; rfl
theorem eq_upto17 {n : Nat} {xs ys : List Int} (hx : xs.length = n) (hy : ys.length = n) (h : ∀ j, j < n → xs.getD j 0 = ys.getD j 0) : xs = ys := by
  apply List.ext_getElem
  · omega
  · intro j h1 h2
    have := h j (by omega)
    rwa [Pf.getD_lt _ 0 h1, Pf.getD_lt _ 0 h2] at this
set_option maxHeartbeats 400000 in
theorem asc_any {b : Option Addr} {m d : Nat} {cs : List Int} {w : World} (g : Hid (ARow w b cs)) (hm : Hid (cs.length = m)) :
    Calls Tryz.prog 62 #[.slice b m d] w fun e w' => e = .returned (.bool (Hs.cntB cs)) ∧ w' = w := by
  have HE : Hid (Hs.cntB cs = (Pf.inB m 1 8 && countsB cs 10)) := hide (by unfold Hs.cntB countsB; rw [hm.out])
  cases h1 : Pf.inB m 1 8
  · have HF : Hid (false = Hs.cntB cs) := hide (by rw [HE.out, h1]; rfl)
    go_enter Tryz.func62, Tryz.ntmps62
    go_wp2_with (go_at_call 60; refine (between_eq h1).mono ?_; rintro e w1 ⟨rfl, rfl⟩)
    go_ret
    exact ⟨ret_bool HF.out, rfl⟩
  · have hl : m ≤ 1000 := by have := Pf.inB_yes h1; omega
    have HF : Hid (countsB cs 10 = Hs.cntB cs) := hide (by rw [HE.out, h1]; rfl)
    go_enter Tryz.func62, Tryz.ntmps62
    go_wp2_with (first
      | (go_at_call 60; refine (between_eq h1).mono ?_; rintro e w1 ⟨rfl, rfl⟩)
      | (go_at_call 77; refine (counts_eq (by omega) g hm hl HF).mono ?_; rintro e w1 ⟨rfl, rfl⟩))
    go_ret
    exact ⟨rfl, rfl⟩
theorem asc_eq {b : Option Addr} {m d : Nat} {cs : List Int} {w : World} {r : Bool} (g : Hid (ARow w b cs)) (hm : Hid (cs.length = m)) (hr : Hid (Hs.cntB cs = r)) :
    Calls Tryz.prog 62 #[.slice b m d] w fun e w' => e = .returned (.bool r) ∧ w' = w := hr.out ▸ asc_any g hm
theorem cnt_few {cs : List Int} {m : Nat} (hm : Hid (cs.length = m)) (h : Hs.cntB cs = true) : 1 ≤ m ∧ m ≤ 8 ∧ Pf.allB cs (-10000000) 10000000 = true := by
  obtain ⟨h1, h2, h3, _⟩ := Hs.cntB_yes h
  have := hm.out
  exact ⟨by omega, by omega, Pf.allB_of fun i hi => by have := Pf.inB_yes (Pf.allB_get h3 hi); exact Pf.inB_of (by omega) (by omega)⟩
set_option maxHeartbeats 1000000 in
theorem hs_any {a b o : Option Addr} {n m q c d e : Nat} {ws cs : List Int} {w : World} (HN : Hid (ws.length = n)) (HM : Hid (cs.length = m)) (HA : Hid (ARow w a ws)) (HB : Hid (ARow w b cs)) :
    Calls Tryz.prog 46 #[.agg #[.slice a n c, .slice b m d, .slice o q e]] w fun e w' => e = .returned (.bool (Hs.slotsB cs ws)) ∧ Below w.heap.size w w' := by
  have HE : Hid (Hs.slotsB cs ws = (Hs.cntB cs && decide (cs.sum = (n : Int)) && Pf.allB ws 0 1000)) := hide (by unfold Hs.slotsB; rw [HN.out])
  have hb0 := below_new w (.cells #[.slice a n c, .slice b m d, .slice o q e] 29)
  have HA1 := hide (HA.out.below hb0)
  have HB1 := hide (HB.out.below hb0)
  have HB0 := hide hb0
  clear hb0
  cases h1 : Hs.cntB cs
  · have HF : Hid (false = Hs.slotsB cs ws) := hide (by rw [HE.out, h1]; rfl)
    have H1 := hide h1
    clear h1
    go_enter Tryz.func46, Tryz.ntmps46
    go_wp2_with fail
    go_quiet ((go_at_call 62; exact Calls.quiet_of_same (asc_eq (hide (HB1.out.drewN _)) HM H1)))
    go_wp2_with fail
    go_ret
    exact ⟨ret_bool HF.out, below_drewN HB0.out _⟩
  · have H1 := hide h1
    obtain ⟨m1, m8, hs⟩ := cnt_few HM h1
    have HS := hide hs
    by_cases hn : (n : Int) = cs.sum
    · have he : ((n : Int) == cs.sum) = true := by simpa using hn
      have hl : n ≤ 1000 := by have := (Hs.cntB_yes h1).2.2.2; omega
      have HF : Hid (Pf.allB ws 0 1000 = Hs.slotsB cs ws) := hide (by rw [HE.out, h1, hn]; simp)
      clear h1 hn hs
      go_enter Tryz.func46, Tryz.ntmps46
      go_wp2_with fail
      go_quiet (first
        | (go_at_call 62; exact Calls.quiet_of_same (asc_eq (hide (HB1.out.drewN _)) HM H1))
        | (go_at_call 63; exact Calls.quiet_of_same (isum17 (hide (HB1.out.drewN _)) HM (by omega) HS))
        | (go_at_call 64; exact Calls.quiet_of_same (areb_eqn (hide (HA1.out.drewN _)) HN hl HF)))
      go_wp2_with fail
      go_ret
      exact ⟨rfl, below_drewN HB0.out _⟩
    · have he : ((n : Int) == cs.sum) = false := by simpa using hn
      have HF : Hid (false = Hs.slotsB cs ws) := hide (by rw [HE.out, h1]; simp [show ¬ cs.sum = (n : Int) from fun h => hn h.symm])
      clear h1 hn hs
      go_enter Tryz.func46, Tryz.ntmps46
      go_wp2_with fail
      go_quiet (first
        | (go_at_call 62; exact Calls.quiet_of_same (asc_eq (hide (HB1.out.drewN _)) HM H1))
        | (go_at_call 63; exact Calls.quiet_of_same (isum17 (hide (HB1.out.drewN _)) HM (by omega) HS)))
      go_wp2_with fail
      go_ret
      exact ⟨ret_bool HF.out, below_drewN HB0.out _⟩
theorem hs_eq {a b o : Option Addr} {n m q c d e : Nat} {ws cs : List Int} {w : World} {r : Bool} (HN : Hid (ws.length = n)) (HM : Hid (cs.length = m)) (HA : Hid (ARow w a ws)) (HB : Hid (ARow w b cs)) (hr : Hid (Hs.slotsB cs ws = r)) :
    Calls Tryz.prog 46 #[.agg #[.slice a n c, .slice b m d, .slice o q e]] w fun e w' => e = .returned (.bool r) ∧ Below w.heap.size w w' := hr.out ▸ hs_any HN HM HA HB
end Go.Proofs.YtlbagigghpiifaaGreat
namespace Go.Proofs.YtlbagigghpiifaaGreat
open Go.RowKit

namespace Hs
/-- What counts are together, for the model: -1 where they are none. -/
def sumI (cs : List Int) : Int := if Pf.allB cs 1 10 = true ∧ cs.length ≤ 8 then cs.sum else -1
theorem sumI_yes {cs : List Int} (h : cntB cs = true) : sumI cs = cs.sum := by
  obtain ⟨_, h2, h3, _⟩ := cntB_yes h
  rw [sumI, if_pos ⟨h3, h2⟩]
theorem cnt_sumI (cs : List Int) : (cntB cs && decide (cs.sum = sumI cs)) = cntB cs := by
  cases h : cntB cs
  · rfl
  · rw [sumI_yes h]; simp
end Hs
end Go.Proofs.YtlbagigghpiifaaGreat
namespace Go.Proofs.YtlbagigghpiifaaGreat
open Go.RowKit

namespace Hs
theorem house_split (ws cs os : List Int) : houseB ws cs os = (slotsB cs ws && fitB cs os) := rfl
theorem house_len {ws cs os : List Int} (h : houseB ws cs os = true) : os.length = ws.length ∧ 1 ≤ cs.length ∧ cs.length ≤ 8 ∧ ws.length ≤ 10 := by
  rw [house_split, Bool.and_eq_true] at h
  obtain ⟨h1, h2, _, h4⟩ := slotsB_yes h.1
  obtain ⟨h5, h6, _⟩ := cntB_yes h1
  have := fit_len h.2
  exact ⟨by omega, h5, h6, h4⟩
theorem house_model {ws cs os : List Int} {n q : Nat} (hn : ws.length = n) (hq : os.length = q) :
    houseB ws cs os = ((cntB cs && decide (cs.sum = (n : Int))) && (Pf.allB ws 0 1000 && (decide (q = n) && fitB cs os))) := by
  cases h : houseB ws cs os
  · symm
    cases h1 : cntB cs && decide (cs.sum = (n : Int))
    · rfl
    · cases h2 : Pf.allB ws 0 1000
      · rfl
      · cases h3 : fitB cs os
        · simp
        · rw [house_split, h3, Bool.and_true] at h
          unfold slotsB at h
          rw [hn, h1, h2] at h
          cases h
  · obtain ⟨hl, _⟩ := house_len h
    rw [house_split, Bool.and_eq_true] at h
    have h1 := h.1
    unfold slotsB at h1
    rw [hn, Bool.and_eq_true] at h1
    rw [h1.1, h1.2, h.2, show q = n by omega]
    simp
end Hs
/-- A day in a variable: its house, and how often each good is picked. -/
def DyBox (w : World) (B : Nat) (v0 v1 v2 v3 : Value) : Prop := w.cell? ⟨B, 0, none⟩ = some v0 ∧ w.cell? ⟨B, 1, none⟩ = some v1 ∧ w.cell? ⟨B, 2, none⟩ = some v2 ∧ w.cell? ⟨B, 3, none⟩ = some v3 ∧ B < w.heap.size
theorem DyBox.new (w : World) (v0 v1 v2 v3 : Value) (t : TypeId) : DyBox (w.alloc (.cells #[v0, v1, v2, v3] t)) w.heap.size v0 v1 v2 v3 := ⟨by simp [go_sem], by simp [go_sem], by simp [go_sem], by simp [go_sem], by simp⟩
theorem DyBox.below {w w' : World} {B : Nat} {v0 v1 v2 v3 : Value} (h : DyBox w B v0 v1 v2 v3) (hb : Below w.heap.size w w') : DyBox w' B v0 v1 v2 v3 :=
  ⟨(hb.cell h.2.2.2.2).trans h.1, (hb.cell h.2.2.2.2).trans h.2.1, (hb.cell h.2.2.2.2).trans h.2.2.1, (hb.cell h.2.2.2.2).trans h.2.2.2.1, Nat.lt_of_lt_of_le h.2.2.2.2 hb.size⟩
set_option maxHeartbeats 1000000 in
theorem ip17_any {a b o p : Option Addr} {n m q r c d e f : Nat} {cs ps : List Int} {w : World} (HM : Hid (cs.length = m)) (HR : Hid (ps.length = r)) (HP : Hid (ARow w p ps)) :
    Calls Tryz.prog 45 #[.agg #[.slice a n c, .slice b m d, .slice o q e, .slice p r f]] w fun e w' => e = .returned (.bool (Sh.flowB ps && decide (ps.length = cs.length))) ∧ Below w.heap.size w w' := by
  have hb0 := below_new w (.cells #[.slice a n c, .slice b m d, .slice o q e, .slice p r f] 80)
  have HX := hide (DyBox.new w (.slice a n c) (.slice b m d) (.slice o q e) (.slice p r f) 80)
  have HP1 := hide (HP.out.below hb0)
  have HB0 := hide hb0
  have HE : Hid ((Sh.flowB ps && decide (ps.length = cs.length)) = (Sh.flowB ps && decide (r = m))) := hide (by rw [HM.out, HR.out])
  clear hb0
  generalize (Sh.flowB ps && decide (ps.length = cs.length)) = G at *
  cases h : Sh.flowB ps
  · have HF : Hid (false = G) := hide (by rw [HE.out, h]; rfl)
    have H := hide h
    clear h
    go_enter Tryz.func45, Tryz.ntmps45
    go_wp2_with fail
    refine (flows_eq HP1 HR H).mono ?_
    rintro _ w1 ⟨rfl, rfl⟩
    go_wp2_with fail
    go_ret
    exact ⟨ret_bool HF.out, HB0.out⟩
  · have HF : Hid (((r : Int) == (m : Int)) = G) := hide (by rw [HE.out, h, Bool.true_and, Bool.eq_iff_iff]; simp; omega)
    have H := hide h
    clear h
    go_enter Tryz.func45, Tryz.ntmps45
    go_wp2_with fail
    refine (flows_eq HP1 HR H).mono ?_
    rintro _ w1 ⟨rfl, rfl⟩
    go_wp2_with fail
    go_ret
    exact ⟨ret_bool HF.out, HB0.out⟩
theorem ip17_eq {a b o p : Option Addr} {n m q r c d e f : Nat} {cs ps : List Int} {w : World} {g : Bool} (HM : Hid (cs.length = m)) (HR : Hid (ps.length = r)) (HP : Hid (ARow w p ps)) (hr : Hid ((Sh.flowB ps && decide (ps.length = cs.length)) = g)) :
    Calls Tryz.prog 45 #[.agg #[.slice a n c, .slice b m d, .slice o q e, .slice p r f]] w fun e w' => e = .returned (.bool g) ∧ Below w.heap.size w w' := hr.out ▸ ip17_any HM HR HP
end Go.Proofs.YtlbagigghpiifaaGreat
namespace Go.Proofs.YtlbagigghpiifaaGreat
open Go.RowKit


theorem lt_of_some {W : World} {b o : Nat} (h : (W.cell? ⟨b, o, none⟩).isSome = true) : b < W.heap.size := by
  apply Nat.lt_of_not_le
  intro hle
  have : W.heap[b]? = none := by simp; omega
  simp [World.cell?, this] at h
theorem bsome {W w1 : World} (hb : Below W.heap.size W w1) : (∀ b o, (W.cell? ⟨b, o, none⟩).isSome = true → w1.cell? ⟨b, o, none⟩ = W.cell? ⟨b, o, none⟩) ∧ (∀ b o, (W.cell? ⟨b, o, none⟩).isSome = true → w1.frozen? ⟨b, o, none⟩ = W.frozen? ⟨b, o, none⟩) :=
  ⟨fun b o h => hb.cell (p := ⟨b, o, none⟩) (lt_of_some h), fun b o h => hb.frozen (p := ⟨b, o, none⟩) (lt_of_some h)⟩
theorem new_var {W w1 : World} (hb : Below W.heap.size W w1) (b : Nat) (v0 v1 : Value) (h0 : W.cell? ⟨b, 0, none⟩ = some v0) (h1 : W.cell? ⟨b, 1, none⟩ = some v1) (h2 : W.frozen? ⟨b, 0, none⟩ = false) (h3 : W.frozen? ⟨b, 1, none⟩ = false) :
    w1.cell? ⟨b, 0, none⟩ = some v0 ∧ w1.cell? ⟨b, 1, none⟩ = some v1 ∧ w1.frozen? ⟨b, 0, none⟩ = false ∧ w1.frozen? ⟨b, 1, none⟩ = false := by
  obtain ⟨hc, hf⟩ := bsome hb
  exact ⟨(hc _ _ (by rw [h0]; rfl)).trans h0, (hc _ _ (by rw [h1]; rfl)).trans h1, (hf _ _ (by rw [h0]; rfl)).trans h2, (hf _ _ (by rw [h1]; rfl)).trans h3⟩
theorem new_first {w w1 : World} {a b : Obj} {v0 v1 : Value} {t : TypeId} (hb : Below (((w.alloc a).alloc b).alloc (.cells #[v0, v1] t)).drew.heap.size (((w.alloc a).alloc b).alloc (.cells #[v0, v1] t)).drew w1) :
    w1.cell? ⟨w.heap.size + 1 + 1, 0, none⟩ = some v0 ∧ w1.cell? ⟨w.heap.size + 1 + 1, 1, none⟩ = some v1 ∧ w1.frozen? ⟨w.heap.size + 1 + 1, 0, none⟩ = false ∧ w1.frozen? ⟨w.heap.size + 1 + 1, 1, none⟩ = false :=
  new_var hb _ v0 v1 (by simp [go_sem]) (by simp [go_sem]) (by simp [go_sem]) (by simp [go_sem])
theorem last_cell {W w1 : World} (hb : Below W.heap.size W w1) (o : Nat) : (W.cell? ⟨W.heap.size - 1, o, none⟩).isSome = true → w1.cell? ⟨W.heap.size - 1, o, none⟩ = W.cell? ⟨W.heap.size - 1, o, none⟩ := (bsome hb).1 _ _
theorem last_frozen {W w1 : World} (hb : Below W.heap.size W w1) (o : Nat) : (W.cell? ⟨W.heap.size - 1, o, none⟩).isSome = true → w1.frozen? ⟨W.heap.size - 1, o, none⟩ = W.frozen? ⟨W.heap.size - 1, o, none⟩ := (bsome hb).2 _ _
theorem set1 {W : World} {b i : Nat} {x : Value} (h : (W.cell? ⟨b, i, none⟩).isSome = true) : (W.setCell ⟨b, i, none⟩ x).cell? ⟨b, i, none⟩ = some x := by
  obtain ⟨v, hv⟩ := Option.isSome_iff_exists.1 h
  exact World.cell?_setCell_same _ _ _ hv
theorem set2 {W : World} {b : Nat} {x y : Value} (h0 : (W.cell? ⟨b, 0, none⟩).isSome = true) (h1 : (W.cell? ⟨b, 1, none⟩).isSome = true) :
    ((W.setCell ⟨b, 0, none⟩ x).setCell ⟨b, 1, none⟩ y).cell? ⟨b, 0, none⟩ = some x ∧ ((W.setCell ⟨b, 0, none⟩ x).setCell ⟨b, 1, none⟩ y).cell? ⟨b, 1, none⟩ = some y ∧ b < ((W.setCell ⟨b, 0, none⟩ x).setCell ⟨b, 1, none⟩ y).heap.size := by
  refine ⟨?_, ?_, ?_⟩
  · rw [World.cell?_setCell_other _ _ _ _ (by simp)]; exact set1 h0
  · exact set1 (by rw [World.cell?_setCell_other _ _ _ _ (by simp)]; exact h1)
  · simpa using lt_of_some h0
theorem held_below {w w1 w2 : World} {n1 d1 n2 d2 : Int}
    (s : w1.cell? ⟨w.heap.size, 0, none⟩ = some (.int .i64 n1) ∧ w1.cell? ⟨w.heap.size, 1, none⟩ = some (.int .i64 d1) ∧ w1.cell? ⟨w.heap.size + 1, 0, none⟩ = some (.int .i64 n2) ∧ w1.cell? ⟨w.heap.size + 1, 1, none⟩ = some (.int .i64 d2) ∧ Below w.heap.size w w1 ∧ w.heap.size + 1 < w1.heap.size)
    (hb : Below w1.heap.size w1 w2) :
    w2.cell? ⟨w.heap.size, 0, none⟩ = some (.int .i64 n1) ∧ w2.cell? ⟨w.heap.size, 1, none⟩ = some (.int .i64 d1) ∧ w2.cell? ⟨w.heap.size + 1, 0, none⟩ = some (.int .i64 n2) ∧ w2.cell? ⟨w.heap.size + 1, 1, none⟩ = some (.int .i64 d2) ∧ Below w.heap.size w w2 ∧ w.heap.size + 1 < w2.heap.size := by
  obtain ⟨s0, s1, s2, s3, s4, s5⟩ := s
  obtain ⟨hc, _⟩ := bcell hb
  exact ⟨(hc _ _ (by omega)).trans s0, (hc _ _ (by omega)).trans s1, (hc _ _ s5).trans s2, (hc _ _ s5).trans s3, s4.trans (hb.mono (by omega)), Nat.lt_of_lt_of_le s5 hb.size⟩
theorem below_alloc_drew (w : World) (o : Obj) : Below w.drew.heap.size w.drew (w.alloc o).drew := (Below.refl _ w.drew).alloc (Nat.le_refl _) o
theorem below_alloc (w : World) (o : Obj) : Below w.heap.size w (w.alloc o) := (Below.refl _ _).alloc (Nat.le_refl _) o
theorem held_start (w : World) (n1 d1 n2 d2 : Int) (t : TypeId) :
    ((w.alloc (.cells #[.int .i64 n1, .int .i64 d1] t)).alloc (.cells #[.int .i64 n2, .int .i64 d2] t)).cell? ⟨w.heap.size, 0, none⟩ = some (.int .i64 n1) ∧ ((w.alloc (.cells #[.int .i64 n1, .int .i64 d1] t)).alloc (.cells #[.int .i64 n2, .int .i64 d2] t)).cell? ⟨w.heap.size, 1, none⟩ = some (.int .i64 d1) ∧ ((w.alloc (.cells #[.int .i64 n1, .int .i64 d1] t)).alloc (.cells #[.int .i64 n2, .int .i64 d2] t)).cell? ⟨w.heap.size + 1, 0, none⟩ = some (.int .i64 n2) ∧ ((w.alloc (.cells #[.int .i64 n1, .int .i64 d1] t)).alloc (.cells #[.int .i64 n2, .int .i64 d2] t)).cell? ⟨w.heap.size + 1, 1, none⟩ = some (.int .i64 d2) ∧ Below w.heap.size w ((w.alloc (.cells #[.int .i64 n1, .int .i64 d1] t)).alloc (.cells #[.int .i64 n2, .int .i64 d2] t)) ∧ w.heap.size + 1 < ((w.alloc (.cells #[.int .i64 n1, .int .i64 d1] t)).alloc (.cells #[.int .i64 n2, .int .i64 d2] t)).heap.size :=
  ⟨by simp, by simp, by simp, by simp, ((Below.refl _ _).alloc (Nat.le_refl _) _).alloc (by simp) _, by simp⟩
theorem held_alloc {w w1 : World} {n1 d1 n2 d2 : Int} {o : Obj}
    (s : w1.cell? ⟨w.heap.size, 0, none⟩ = some (.int .i64 n1) ∧ w1.cell? ⟨w.heap.size, 1, none⟩ = some (.int .i64 d1) ∧ w1.cell? ⟨w.heap.size + 1, 0, none⟩ = some (.int .i64 n2) ∧ w1.cell? ⟨w.heap.size + 1, 1, none⟩ = some (.int .i64 d2) ∧ Below w.heap.size w w1 ∧ w.heap.size + 1 < w1.heap.size) :
    (w1.alloc o).cell? ⟨w.heap.size, 0, none⟩ = some (.int .i64 n1) ∧ (w1.alloc o).cell? ⟨w.heap.size, 1, none⟩ = some (.int .i64 d1) ∧ (w1.alloc o).cell? ⟨w.heap.size + 1, 0, none⟩ = some (.int .i64 n2) ∧ (w1.alloc o).cell? ⟨w.heap.size + 1, 1, none⟩ = some (.int .i64 d2) ∧ Below w.heap.size w (w1.alloc o) ∧ w.heap.size + 1 < (w1.alloc o).heap.size := held_below s (below_alloc _ _)
theorem held_drew {w w1 : World} {n1 d1 n2 d2 : Int}
    (s : w1.cell? ⟨w.heap.size, 0, none⟩ = some (.int .i64 n1) ∧ w1.cell? ⟨w.heap.size, 1, none⟩ = some (.int .i64 d1) ∧ w1.cell? ⟨w.heap.size + 1, 0, none⟩ = some (.int .i64 n2) ∧ w1.cell? ⟨w.heap.size + 1, 1, none⟩ = some (.int .i64 d2) ∧ Below w.heap.size w w1 ∧ w.heap.size + 1 < w1.heap.size) :
    w1.drew.cell? ⟨w.heap.size, 0, none⟩ = some (.int .i64 n1) ∧ w1.drew.cell? ⟨w.heap.size, 1, none⟩ = some (.int .i64 d1) ∧ w1.drew.cell? ⟨w.heap.size + 1, 0, none⟩ = some (.int .i64 n2) ∧ w1.drew.cell? ⟨w.heap.size + 1, 1, none⟩ = some (.int .i64 d2) ∧ Below w.heap.size w w1.drew ∧ w.heap.size + 1 < w1.drew.heap.size := held_below s ((Below.refl _ _).drew)
theorem held_set {w w1 : World} {n1 d1 n2 d2 : Int} {b i : Nat} {v : Value}
    (s : w1.cell? ⟨w.heap.size, 0, none⟩ = some (.int .i64 n1) ∧ w1.cell? ⟨w.heap.size, 1, none⟩ = some (.int .i64 d1) ∧ w1.cell? ⟨w.heap.size + 1, 0, none⟩ = some (.int .i64 n2) ∧ w1.cell? ⟨w.heap.size + 1, 1, none⟩ = some (.int .i64 d2) ∧ Below w.heap.size w w1 ∧ w.heap.size + 1 < w1.heap.size)
    (hb : w.heap.size + 1 < b) :
    (w1.setCell ⟨b, i, none⟩ v).cell? ⟨w.heap.size, 0, none⟩ = some (.int .i64 n1) ∧ (w1.setCell ⟨b, i, none⟩ v).cell? ⟨w.heap.size, 1, none⟩ = some (.int .i64 d1) ∧ (w1.setCell ⟨b, i, none⟩ v).cell? ⟨w.heap.size + 1, 0, none⟩ = some (.int .i64 n2) ∧ (w1.setCell ⟨b, i, none⟩ v).cell? ⟨w.heap.size + 1, 1, none⟩ = some (.int .i64 d2) ∧ Below w.heap.size w (w1.setCell ⟨b, i, none⟩ v) ∧ w.heap.size + 1 < (w1.setCell ⟨b, i, none⟩ v).heap.size := by
  obtain ⟨s0, s1, s2, s3, s4, s5⟩ := s
  have hb' : Below b w1 (w1.setCell ⟨b, i, none⟩ v) := (Below.refl b w1).setCell (p := ⟨b, i, none⟩) (Nat.le_refl b) v
  exact ⟨(hb'.cell (p := ⟨_, _, none⟩) (by show w.heap.size < b; omega)).trans s0, (hb'.cell (p := ⟨_, _, none⟩) (by show w.heap.size < b; omega)).trans s1, (hb'.cell (p := ⟨_, _, none⟩) hb).trans s2, (hb'.cell (p := ⟨_, _, none⟩) hb).trans s3, s4.setCell (by show w.heap.size ≤ b; omega) v, by simpa using s5⟩
theorem held2_below {w wc w1 w2 : World} {n1 d1 n2 d2 RN RD : Int} {b : Nat}
    (s : w1.cell? ⟨w.heap.size, 0, none⟩ = some (.int .i64 n1) ∧ w1.cell? ⟨w.heap.size, 1, none⟩ = some (.int .i64 d1) ∧ w1.cell? ⟨w.heap.size + 1, 0, none⟩ = some (.int .i64 n2) ∧ w1.cell? ⟨w.heap.size + 1, 1, none⟩ = some (.int .i64 d2) ∧ w1.cell? ⟨b, 0, none⟩ = some (.int .i64 RN) ∧ w1.cell? ⟨b, 1, none⟩ = some (.int .i64 RD) ∧ Below w.heap.size w w1 ∧ w.heap.size + 1 < w1.heap.size ∧ wc.heap.size ≤ w1.heap.size ∧ b < wc.heap.size)
    (hb : Below w1.heap.size w1 w2) :
    w2.cell? ⟨w.heap.size, 0, none⟩ = some (.int .i64 n1) ∧ w2.cell? ⟨w.heap.size, 1, none⟩ = some (.int .i64 d1) ∧ w2.cell? ⟨w.heap.size + 1, 0, none⟩ = some (.int .i64 n2) ∧ w2.cell? ⟨w.heap.size + 1, 1, none⟩ = some (.int .i64 d2) ∧ w2.cell? ⟨b, 0, none⟩ = some (.int .i64 RN) ∧ w2.cell? ⟨b, 1, none⟩ = some (.int .i64 RD) ∧ Below w.heap.size w w2 ∧ w.heap.size + 1 < w2.heap.size ∧ wc.heap.size ≤ w2.heap.size ∧ b < wc.heap.size := by
  obtain ⟨s0, s1, s2, s3, s4, s5, s6, s7, s8, s9⟩ := s
  obtain ⟨hc, _⟩ := bcell hb
  exact ⟨(hc _ _ (by omega)).trans s0, (hc _ _ (by omega)).trans s1, (hc _ _ s7).trans s2, (hc _ _ s7).trans s3, (hc _ _ (by omega)).trans s4, (hc _ _ (by omega)).trans s5, s6.trans (hb.mono (by omega)), Nat.lt_of_lt_of_le s7 hb.size, Nat.le_trans s8 hb.size, s9⟩
theorem held2_set {w wc w1 : World} {n1 d1 n2 d2 RN RD : Int} {b c i : Nat} {v : Value}
    (s : w1.cell? ⟨w.heap.size, 0, none⟩ = some (.int .i64 n1) ∧ w1.cell? ⟨w.heap.size, 1, none⟩ = some (.int .i64 d1) ∧ w1.cell? ⟨w.heap.size + 1, 0, none⟩ = some (.int .i64 n2) ∧ w1.cell? ⟨w.heap.size + 1, 1, none⟩ = some (.int .i64 d2) ∧ w1.cell? ⟨b, 0, none⟩ = some (.int .i64 RN) ∧ w1.cell? ⟨b, 1, none⟩ = some (.int .i64 RD) ∧ Below w.heap.size w w1 ∧ w.heap.size + 1 < w1.heap.size ∧ wc.heap.size ≤ w1.heap.size ∧ b < wc.heap.size)
    (hx : w.heap.size + 1 < c) (hy : wc.heap.size ≤ c) :
    (w1.setCell ⟨c, i, none⟩ v).cell? ⟨w.heap.size, 0, none⟩ = some (.int .i64 n1) ∧ (w1.setCell ⟨c, i, none⟩ v).cell? ⟨w.heap.size, 1, none⟩ = some (.int .i64 d1) ∧ (w1.setCell ⟨c, i, none⟩ v).cell? ⟨w.heap.size + 1, 0, none⟩ = some (.int .i64 n2) ∧ (w1.setCell ⟨c, i, none⟩ v).cell? ⟨w.heap.size + 1, 1, none⟩ = some (.int .i64 d2) ∧ (w1.setCell ⟨c, i, none⟩ v).cell? ⟨b, 0, none⟩ = some (.int .i64 RN) ∧ (w1.setCell ⟨c, i, none⟩ v).cell? ⟨b, 1, none⟩ = some (.int .i64 RD) ∧ Below w.heap.size w (w1.setCell ⟨c, i, none⟩ v) ∧ w.heap.size + 1 < (w1.setCell ⟨c, i, none⟩ v).heap.size ∧ wc.heap.size ≤ (w1.setCell ⟨c, i, none⟩ v).heap.size ∧ b < wc.heap.size := by
  obtain ⟨s0, s1, s2, s3, s4, s5, s6, s7, s8, s9⟩ := s
  have hb' : Below c w1 (w1.setCell ⟨c, i, none⟩ v) := (Below.refl c w1).setCell (p := ⟨c, i, none⟩) (Nat.le_refl c) v
  have hc : ∀ x o, x < c → (w1.setCell ⟨c, i, none⟩ v).cell? ⟨x, o, none⟩ = w1.cell? ⟨x, o, none⟩ := fun x o h => hb'.cell (p := ⟨x, o, none⟩) h
  exact ⟨(hc _ _ (by omega)).trans s0, (hc _ _ (by omega)).trans s1, (hc _ _ (by omega)).trans s2, (hc _ _ (by omega)).trans s3, (hc _ _ (by omega)).trans s4, (hc _ _ (by omega)).trans s5, s6.setCell (by show w.heap.size ≤ c; omega) v, by simpa using s7, by simpa using s8, s9⟩
end Go.Proofs.YtlbagigghpiifaaGreat
namespace Go.Proofs.YtlbagigghpiifaaGreat
open Go.RowKit

/-- A row of fractions lies in memory from place 'off' of block 'b' on. -/
def RowAt (w : World) (b off : Nat) (xs : List (Int × Int)) : Prop :=
  ∀ i, i < xs.length → w.cell? ⟨b, off + i * 2, none⟩ = some (.int .i64 (xs.getD i (0, 0)).1) ∧ w.cell? ⟨b, off + i * 2 + 1, none⟩ = some (.int .i64 (xs.getD i (0, 0)).2)

theorem RowAt.below {w w' : World} {B b off : Nat} {xs : List (Int × Int)} (h : RowAt w b off xs) (hb : Below B w w') (hlt : b < B) : RowAt w' b off xs :=
  fun i hi => ⟨(hb.cell (p := ⟨b, off + i * 2, none⟩) hlt).trans (h i hi).1, (hb.cell (p := ⟨b, off + i * 2 + 1, none⟩) hlt).trans (h i hi).2⟩

end Go.Proofs.YtlbagigghpiifaaGreat
namespace Go.Proofs.YtlbagigghpiifaaGreat
open Go.RowKit

def fcells : List (Int × Int) → List Value
  | [] => []
  | x :: r => .int .i64 x.1 :: .int .i64 x.2 :: fcells r
theorem fcells_len (xs : List (Int × Int)) : (fcells xs).length = xs.length * 2 := by
  induction xs with
  | nil => rfl
  | cons x r ih => simp [fcells, ih]; omega
theorem fcells_snoc (xs : List (Int × Int)) (p : Int × Int) : fcells (xs ++ [p]) = fcells xs ++ [.int .i64 p.1, .int .i64 p.2] := by
  induction xs with
  | nil => rfl
  | cons x r ih => simp [fcells, ih]
theorem fcells_get (xs : List (Int × Int)) (i : Nat) (h : i < xs.length) : (fcells xs)[i * 2]? = some (.int .i64 (xs.getD i (0, 0)).1) ∧ (fcells xs)[i * 2 + 1]? = some (.int .i64 (xs.getD i (0, 0)).2) := by
  induction xs generalizing i with
  | nil => simp at h
  | cons x r ih =>
    cases i with
    | zero => simp [fcells]
    | succ i =>
      have := ih i (by simpa using h)
      rw [show (i + 1) * 2 = i * 2 + 2 by omega]
      simpa [fcells] using this
/-- A list of fractions that is owned, as it lies. -/
theorem frow_owns {w : World} {base e n : Nat} {v : Value} {xs : List (Int × Int)} (hn : xs.length = n) (h : w.ownsRow base e 2 v n (fcells xs)) :
    (v = .slice none 0 0 ∧ n = 0) ∨ ∃ g cap, v = .slice (some ⟨g, 0, none⟩) n cap ∧ base ≤ g ∧ g < w.heap.size ∧ RowAt w g 0 xs := by
  subst hn
  rcases h.2 with ⟨rfl, hn⟩ | ⟨g, cap, cur, rfl, hb, hg, hn, hm, hsz, htake⟩
  · exact Or.inl ⟨rfl, hn⟩
  · refine Or.inr ⟨g, cap, rfl, hb, ?_, ?_⟩
    · rcases Nat.lt_or_ge g w.heap.size with h' | h'
      · exact h'
      · rw [Array.getElem?_eq_none h'] at hg; cases hg
    · intro i hi
      have hcell : ∀ j, j < xs.length * 2 → w.cell? ⟨g, j, none⟩ = (fcells xs)[j]? := by
        intro j hj
        rw [← htake, List.getElem?_take]
        simp [World.cell?, hg, hj]
      obtain ⟨f0, f1⟩ := fcells_get xs i hi
      refine ⟨?_, ?_⟩
      · rw [Nat.zero_add, hcell _ (by omega), f0]
      · rw [Nat.zero_add, hcell _ (by omega), f1]
theorem own_far {w : World} {base e s n k : Nat} {v : Value} {xs : List Value} (h : w.ownsRow base e s v n xs) (hk : k < base) : some k ≠ v.ownBlock := by
  rcases h.2 with ⟨rfl, _⟩ | ⟨g, cap, cur, rfl, hb, _⟩
  · simp [Value.ownBlock]
  · simp [Value.ownBlock]; omega
/-- What is owned stays over a call that leaves all that was there alone. -/
theorem own_below4 {w w' : World} {base e s n : Nat} {v : Value} {xs : List Value} (h : w.ownsRow base e s v n xs) (hb : Below w.heap.size w w') : w'.ownsRow base e s v n xs := by
  refine ⟨h.1, ?_⟩
  rcases h.2 with h0 | ⟨g, cap, cur, hv, hbg, hg, r⟩
  · exact Or.inl h0
  · have hlt : g < w.heap.size := by
      rcases Nat.lt_or_ge g w.heap.size with h' | h'
      · exact h'
      · rw [Array.getElem?_eq_none h'] at hg; cases hg
    exact Or.inr ⟨g, cap, cur, hv, hbg, (hb.block g hlt).trans hg, r⟩
theorem own_grow {w w' : World} {o : Obj} {B base e s n : Nat} {v : Value} {xs : List Value} (own : w.ownsRow base e s v n xs) (hg : (w.alloc o).grownBy w' v.ownBlock) (h1 : B ≤ base) (h2 : B ≤ w.heap.size) : Below B w w' :=
  ((Below.refl _ _).alloc h2 o).trans ⟨hg.os, hg.tape, hg.output, hg.size, fun k hk => hg.block k (by simp; omega) (own_far own (by omega))⟩
theorem new_frac (w : World) (p : Int × Int) (t : TypeId) {H : Nat} (hH : w.heap.size = H) : ∀ (j : Nat) (u : Value), ([.int .i64 p.1, .int .i64 p.2] : List Value)[j]? = some u → (w.alloc (.cells #[.int .i64 p.1, .int .i64 p.2] t)).cell? ((⟨H, 0, none⟩ : Addr).add j) = some u := by
  intro j u hj
  subst hH
  match j, hj with
  | 0, hj => simp at hj; subst hj; simp [Addr.add]
  | 1, hj => simp at hj; subst hj; simp [Addr.add]
theorem frac_cells (p : Int × Int) : ∀ u ∈ ([.int .i64 p.1, .int .i64 p.2] : List Value), u.oneCell' = true := by
  intro u hu
  simp at hu
  rcases hu with rfl | rfl <;> rfl
theorem infF : (Tryz.prog.info? 89).map (fun i => (i.zero, i.size, i.bytes)) = some (some (.agg #[.int .i64 0, .int .i64 0]), 2, 16) := by kernel_rfl
theorem each_take (F : Int → Int → Int × Int) (fs cs : List Int) (k : Nat) (h : k < fs.length) : (Sh.each F fs cs).take (k + 1) = (Sh.each F fs cs).take k ++ [F (fs.getD k 0) (cs.getD k 0)] := by
  have hl : k < (Sh.each F fs cs).length := by rw [Sh.each_len]; exact h
  rw [List.take_succ_eq_append_getElem hl, ← Pf.getD_lt _ (0, 0) hl, Sh.each_at _ _ _ h]

set_option maxHeartbeats 2000000 in
theorem eachK_any {a b : Option Addr} {n c d g : Nat} {fs cs : List Int} {w : World} (F : Int → Int → Int × Int) (eg : ∀ args w, (callFunc g args).run Tryz.prog w = .ok (.enter g args) w)
    (hF : Hid (∀ f c w, 1 ≤ f → f ≤ 30 → 1 ≤ c → c ≤ 40 → Calls Tryz.prog g #[.int .i64 f, .int .i64 c] w fun e w' => e = .returned (fv (F f c)) ∧ Below w.heap.size w w'))
    (h : Hid (ARow w a fs)) (hn : Hid (fs.length = n)) (h' : Hid (ARow w b cs)) (hs : Hid (Sh.sharedB fs cs = true)) :
    Calls Tryz.prog 74 #[.slice a n c, .slice b n d, .func (.func g) #[] #[]] w fun e w' => ∃ v, e = .returned v ∧ Below w.heap.size w w' ∧ w'.ownsRow w.heap.size 89 2 v n (fcells (Sh.each F fs cs)) := by
  obtain ⟨i0, hi, hz0, hz1, hz2⟩ := info_parts infF
  have hm : Hid (cs.length = n) := hide (by rw [(Sh.sharedB_yes hs.out).2.1]; exact hn.out)
  have h8 : n ≤ 8 := by have := Sh.flowB_yes (Sh.sharedB_yes hs.out).1; have := hn.out; omega
  go_enter Tryz.func74, Tryz.ntmps74
  go_wp2_with fail
  go_loopw [7, 8, 9, 12] (fun v _ _ s wr => ∃ k : Nat, s = .int .i64 k ∧ k ≤ n ∧ wr.ownsRow w.heap.size 89 2 v k (fcells ((Sh.each F fs cs).take k)) ∧ Below w.heap.size w wr) (fun _ _ _ s _ => n - (intOf s).toNat)
  case atStart => exact ⟨0, rfl, Nat.zero_le _, World.ownsRow_nil _ _ _ _, Below.refl _ _⟩
  case round =>
    obtain ⟨k, rfl, hk, hown, hB⟩ := hrel
    by_cases hlt : k < n
    · obtain ⟨ba, oa, rfl, r1⟩ := (h.out.below hB).at (i := k) (by rw [hn.out]; exact hlt)
      obtain ⟨bb, ob, rfl, r2⟩ := (h'.out.below hB).at (i := k) (by rw [hm.out]; exact hlt)
      have k0 : (0 : Int) ≤ (k : Int) := by omega
      have k1 : (k : Int) < (n : Int) := by omega
      obtain ⟨f0, f1⟩ := Sh.flowB_at (Sh.sharedB_yes hs.out).1 (i := k) (by rw [hn.out]; exact hlt)
      obtain ⟨c0, c1⟩ := Sh.sharedB_at hs.out (i := k) (by rw [hn.out]; exact hlt)
      have HT := hide (each_take F fs cs k (by rw [hn.out]; exact hlt))
      generalize fs.getD k 0 = x at *
      generalize cs.getD k 0 = y at *
      have hcall := hide (hF.out x y wr f0 f1 c0 c1)
      generalize F x y = p at *
      rw [fv_eq] at hcall
      have hown1 := hide hown
      clear hown
      go_wp2_with (first
        | (go_at_fn g; refine hcall.out.mono ?_; rintro e w1 ⟨rfl, hb1⟩; have own1 := own_below4 hown1.out hb1; have hs1 := hb1.size; have hs2 := hB.size)
        | (at_builtin; refine wpList_append_own _ rfl _ _ 105 rfl w.heap.size 89 i0 (.agg #[.int .i64 0, .int .i64 0]) 2 16 Tryz.underlying105 hi hz0 hz1 hz2 rfl (by decide) _ _ _ rfl (own1.alloc _) ⟨w1.heap.size, 0, none⟩ 1 1 [.int .i64 p.1, .int .i64 p.2] rfl rfl (new_frac _ _ _ rfl) (frac_cells _) (by unfold maxLen; omega) (by omega) (by simp; omega) ?_))
      intro v' w4 hown' hgrow _
      have hfin := own_grow own1 hgrow (Nat.le_refl _) (by omega)
      rw [← fcells_snoc, ← HT.out] at hown'
      go_wp2_with fail
      go_roundw
      case rel => exact ⟨k + 1, by go_num, by omega, hown', (hB.trans (hb1.mono hs2)).trans hfin⟩
      case measure => simp only [intOf]; omega
    · have hke : k = n := by omega
      subst hke
      have HE : Hid ((Sh.each F fs cs).take k = Sh.each F fs cs) := hide (by rw [List.take_of_length_le]; rw [Sh.each_len, hn.out]; exact Nat.le_refl _)
      rw [HE.out] at hown
      go_wp2_with fail
      go_ret
      exact ⟨_, rfl, hB, hown⟩
theorem four_keep {w w1 w2 : World} {b o1 o2 o3 o4 : Nat} {v1 v2 v3 v4 : Option Value} (hb : b < w.heap.size)
    (s : w1.cell? ⟨b, o1, none⟩ = v1 ∧ w1.cell? ⟨b, o2, none⟩ = v2 ∧ w1.cell? ⟨b, o3, none⟩ = v3 ∧ w1.cell? ⟨b, o4, none⟩ = v4 ∧ Below w.heap.size w w1) (h : Below w1.heap.size w1 w2) :
    w2.cell? ⟨b, o1, none⟩ = v1 ∧ w2.cell? ⟨b, o2, none⟩ = v2 ∧ w2.cell? ⟨b, o3, none⟩ = v3 ∧ w2.cell? ⟨b, o4, none⟩ = v4 ∧ Below w.heap.size w w2 := by
  obtain ⟨s1, s2, s3, s4, s5⟩ := s
  obtain ⟨hc, _⟩ := bcell h
  have := s5.size
  exact ⟨(hc _ _ (by omega)).trans s1, (hc _ _ (by omega)).trans s2, (hc _ _ (by omega)).trans s3, (hc _ _ (by omega)).trans s4, s5.trans (h.mono this)⟩
set_option maxHeartbeats 2000000 in
theorem firstB_any {b off n cap g : Nat} {xs : List (Int × Int)} {w : World} (R : Int × Int → Int × Int → Bool) (eg : ∀ args w, (callFunc g args).run Tryz.prog w = .ok (.enter g args) w)
    (hR : Hid (∀ p q w, Sh.goodF p = true → Sh.goodF q = true → Calls Tryz.prog g #[.agg #[.int .i64 p.1, .int .i64 p.2], .agg #[.int .i64 q.1, .int .i64 q.2]] w fun e w' => e = .returned (.bool (R p q)) ∧ Below w.heap.size w w'))
    (hr : Hid (RowAt w b off xs)) (hn : Hid (xs.length = n)) (hb : b < w.heap.size) (h0 : 0 < n) (h8 : n ≤ 1000) (hg : Hid (∀ i, i < xs.length → Sh.goodF (xs.getD i (0, 0)) = true)) :
    Calls Tryz.prog 73 #[.slice (some ⟨b, off, none⟩) n cap, .func (.func g) #[] #[]] w fun e w' => e = .returned (.int .i64 ((Sh.best R xs n : Nat) : Int)) ∧ Below w.heap.size w w' := by
  go_enter Tryz.func73, Tryz.ntmps73
  go_wp2_with fail
  go_loopw [5, 6, 9] (fun s5 _ s wr => ∃ k m : Nat, s5 = .int .i64 m ∧ s = .int .i64 k ∧ k ≤ n ∧ m < n ∧ Hid (m = Sh.best R xs k) ∧ Below w.heap.size w wr) (fun _ _ s _ => n - (intOf s).toNat)
  case atStart => exact ⟨0, 0, rfl, rfl, Nat.zero_le _, h0, hide rfl, Below.refl _ _⟩
  case round =>
    obtain ⟨k, m, rfl, rfl, hk, hmn, HM, hB⟩ := hrel
    by_cases hlt : k < n
    · have hr' := hr.out.below hB hb
      obtain ⟨r0, r1⟩ := hr' k (by rw [hn.out]; exact hlt)
      obtain ⟨r2, r3⟩ := hr' m (by rw [hn.out]; exact hmn)
      have HG1 := hide (hg.out k (by rw [hn.out]; exact hlt))
      have HG2 := hide (hg.out m (by rw [hn.out]; exact hmn))
      have HS : Hid (Sh.best R xs (k + 1) = if R (xs.getD k (0, 0)) (xs.getD m (0, 0)) = true then k else m) := hide (by rw [Sh.best, ← HM.out])
      have i0 : (0 : Int) ≤ (k : Int) := by omega
      have i1 : (k : Int) < (n : Int) := by omega
      have j0 : (0 : Int) ≤ (m : Int) := by omega
      have j1 : (m : Int) < (n : Int) := by omega
      generalize xs.getD k (0, 0) = p at *
      generalize xs.getD m (0, 0) = q at *
      have hcall := hide (fun w' => hR.out p q w' HG1.out HG2.out)
      clear hr'
      cases hc : R p q
      · rw [hc] at hcall
        have HN : Hid (m = Sh.best R xs (k + 1)) := hide (by rw [HS.out, hc]; rfl)
        clear hc HS
        obtain ⟨p1, p2⟩ := p
        obtain ⟨q1, q2⟩ := q
        go_wp2_with fail
        go_region_held3 (fun w' => w'.cell? ⟨b, off + k * 2, none⟩ = some (.int .i64 p1) ∧ w'.cell? ⟨b, off + k * 2 + 1, none⟩ = some (.int .i64 p2) ∧ w'.cell? ⟨b, off + m * 2, none⟩ = some (.int .i64 q1) ∧ w'.cell? ⟨b, off + m * 2 + 1, none⟩ = some (.int .i64 q2) ∧ Below w.heap.size w w')
          (first | exact ⟨r0, r1, r2, r3, hB.drew⟩ | assumption | exact four_keep hb ‹_› (by assumption) | fail)
          (first | (go_at_fn g; refine (hcall.out _).mono ?_; rintro e w1 ⟨rfl, hb1⟩) | fail)
        obtain ⟨_, _, _, _, hB2⟩ := ‹_ ∧ _ ∧ _ ∧ _ ∧ _›
        go_wp2_with fail
        go_roundw
        case rel => exact ⟨k + 1, m, rfl, by go_num, by omega, hmn, HN, hB2⟩
        case measure => simp only [intOf]; omega
      · rw [hc] at hcall
        have HN : Hid (k = Sh.best R xs (k + 1)) := hide (by rw [HS.out, hc]; rfl)
        clear hc HS
        obtain ⟨p1, p2⟩ := p
        obtain ⟨q1, q2⟩ := q
        go_wp2_with fail
        go_region_held3 (fun w' => w'.cell? ⟨b, off + k * 2, none⟩ = some (.int .i64 p1) ∧ w'.cell? ⟨b, off + k * 2 + 1, none⟩ = some (.int .i64 p2) ∧ w'.cell? ⟨b, off + m * 2, none⟩ = some (.int .i64 q1) ∧ w'.cell? ⟨b, off + m * 2 + 1, none⟩ = some (.int .i64 q2) ∧ Below w.heap.size w w')
          (first | exact ⟨r0, r1, r2, r3, hB.drew⟩ | assumption | exact four_keep hb ‹_› (by assumption) | fail)
          (first | (go_at_fn g; refine (hcall.out _).mono ?_; rintro e w1 ⟨rfl, hb1⟩) | fail)
        obtain ⟨_, _, _, _, hB2⟩ := ‹_ ∧ _ ∧ _ ∧ _ ∧ _›
        go_wp2_with fail
        go_roundw
        case rel => exact ⟨k + 1, k, rfl, by go_num, by omega, hlt, HN, hB2⟩
        case measure => simp only [intOf]; omega
    · have hke : k = n := by omega
      subst hke
      go_wp2_with fail
      go_ret
      exact ⟨ret_int (by rw [← HM.out]), hB⟩
end Go.Proofs.YtlbagigghpiifaaGreat
namespace Go.Proofs.YtlbagigghpiifaaGreat
open Go.RowKit Go.Sort

theorem drew_zero17 (w : World) : w.drewN 0 = w := rfl
theorem alloc2_grow (w : World) (o1 o2 : Obj) : (w.alloc o1).alloc o2 = grow (w.drewN 0) #[o1, o2] := by
  rw [alloc_eq_grow, alloc_eq_grow, grow_grow]; rfl
set_option maxHeartbeats 400000 in
theorem cmpG_same (n1 d1 : Int) (w : World) :
    Calls Tryz.prog 83 #[.agg #[.int .i64 n1, .int .i64 d1], .agg #[.int .i64 n1, .int .i64 d1]] w fun e w' => e = .returned (.int .i64 0) ∧ ∃ q os, w' = grow (w.drewN q) os := by
  have q1 := frac_eq n1 d1 n1 d1
  have q2 := fun x y => frac_eqg x y n1 d1 n1 d1
  simp at q1
  go_enter Tryz.func83, Tryz.ntmps83
  go_wp2
  go_ret
  exact ⟨rfl, 0, _, alloc2_grow _ _ _⟩
set_option maxHeartbeats 400000 in
theorem cmpG_lt (n1 d1 n2 d2 : Int) (w : World) (h1 : Fr.goodB n1 d1 = true) (h2 : Fr.goodB n2 d2 = true) (h : (n1 == n2 && d1 == d2) = false) (hl : n1 * d2 < n2 * d1) :
    Calls Tryz.prog 83 #[.agg #[.int .i64 n1, .int .i64 d1], .agg #[.int .i64 n2, .int .i64 d2]] w fun e w' => e = .returned (.int .i64 (-1)) ∧ ∃ q os, w' = grow (w.drewN q) os := by
  obtain ⟨a0, a1, a2, a3⟩ := Fr.good_bd n1 d1 h1
  obtain ⟨b0, b1, b2, b3⟩ := Fr.good_bd n2 d2 h2
  have m1 := wrap_mul n1 d2 (by omega) (by omega) (by omega) (by omega)
  have m2 := wrap_mul n2 d1 (by omega) (by omega) (by omega) (by omega)
  have q1 := frac_eq n1 d1 n2 d2
  have q2 := fun x y => frac_eqg x y n1 d1 n2 d2
  rw [h] at q1
  clear h1 h2 h
  go_enter Tryz.func83, Tryz.ntmps83
  go_wp2
  go_ret
  exact ⟨rfl, 0, _, alloc2_grow _ _ _⟩
set_option maxHeartbeats 400000 in
theorem cmpG_gt (n1 d1 n2 d2 : Int) (w : World) (h1 : Fr.goodB n1 d1 = true) (h2 : Fr.goodB n2 d2 = true) (h : (n1 == n2 && d1 == d2) = false) (hl : ¬ n1 * d2 < n2 * d1) :
    Calls Tryz.prog 83 #[.agg #[.int .i64 n1, .int .i64 d1], .agg #[.int .i64 n2, .int .i64 d2]] w fun e w' => e = .returned (.int .i64 1) ∧ ∃ q os, w' = grow (w.drewN q) os := by
  obtain ⟨a0, a1, a2, a3⟩ := Fr.good_bd n1 d1 h1
  obtain ⟨b0, b1, b2, b3⟩ := Fr.good_bd n2 d2 h2
  have m1 := wrap_mul n1 d2 (by omega) (by omega) (by omega) (by omega)
  have m2 := wrap_mul n2 d1 (by omega) (by omega) (by omega) (by omega)
  have q1 := frac_eq n1 d1 n2 d2
  have q2 := fun x y => frac_eqg x y n1 d1 n2 d2
  rw [h] at q1
  clear h1 h2 h
  go_enter Tryz.func83, Tryz.ntmps83
  go_wp2
  go_ret
  exact ⟨rfl, 0, _, alloc2_grow _ _ _⟩
theorem cmpG_any {p q : Int × Int} {x y : Int} {w : World} (h1 : Sh.goodF p = true) (h2 : Sh.goodF q = true) (hx : p.1 * q.2 < q.1 * p.2 ↔ x < y) (hy : q.1 * p.2 < p.1 * q.2 ↔ y < x) :
    Calls Tryz.prog 83 #[.agg #[.int .i64 p.1, .int .i64 p.2], .agg #[.int .i64 q.1, .int .i64 q.2]] w fun e w' => e = .returned (.int .i64 (cmpI x y)) ∧ ∃ q os, w' = grow (w.drewN q) os := by
  have hcs := Fr.frac_uniq p.1 p.2 q.1 q.2 h1 h2
  unfold cmpI
  cases h : (p.1 == q.1 && p.2 == q.2)
  · by_cases hl : p.1 * q.2 < q.1 * p.2
    · rw [if_pos (hx.1 hl)]
      exact cmpG_lt _ _ _ _ w h1 h2 h hl
    · have hg : q.1 * p.2 < p.1 * q.2 := by
        rcases Int.lt_or_le (q.1 * p.2) (p.1 * q.2) with e | e
        · exact e
        · have := hcs (by omega)
          simp [this.1, this.2] at h
      rw [if_neg (fun e => hl (hx.2 e)), if_pos (hy.1 hg)]
      exact cmpG_gt _ _ _ _ w h1 h2 h hl
  · simp only [Bool.and_eq_true, beq_iff_eq] at h
    obtain ⟨e1, e2⟩ := h
    rw [if_neg (fun e => by have := hx.2 e; rw [e1, e2] at this; omega), if_neg (fun e => by have := hy.2 e; rw [e1, e2] at this; omega), e1, e2]
    exact cmpG_same _ _ w

set_option maxHeartbeats 1000000 in
theorem me_any {W : World} {B b n c i j : Nat} {p q : Int × Int} {x y : Int} (hi : i < n) (hj : j < n) (hBs : B < W.heap.size) (hbs : b < W.heap.size) (hB : W.cell? ⟨B, 0, none⟩ = some (.slice (some ⟨b, 0, none⟩) n c))
    (hp1 : W.cell? ⟨b, i * 2, none⟩ = some (.int .i64 p.1)) (hp2 : W.cell? ⟨b, i * 2 + 1, none⟩ = some (.int .i64 p.2)) (hq1 : W.cell? ⟨b, j * 2, none⟩ = some (.int .i64 q.1)) (hq2 : W.cell? ⟨b, j * 2 + 1, none⟩ = some (.int .i64 q.2))
    (h1 : Sh.goodF p = true) (h2 : Sh.goodF q = true) (hx : q.1 * p.2 < p.1 * q.2 ↔ y < x) (hy : p.1 * q.2 < q.1 * p.2 ↔ x < y) :
    Calls Tryz.prog 82 #[.int .i64 i, .int .i64 j, .pointer (some ⟨B, 0, none⟩)] W fun e w' => e = .returned (.int .i64 (cmpI y x)) ∧ ∃ q os, w' = grow (W.drewN q) os := by
  have i0 : (0 : Int) ≤ (i : Int) := by omega
  have i1 : (i : Int) < (n : Int) := by omega
  have j0 : (0 : Int) ≤ (j : Int) := by omega
  have j1 : (j : Int) < (n : Int) := by omega
  have mixed : Tryz.prog.follows .mixedOrders = true := by kernel_rfl
  have lB := fun m os => cell_grown hBs hB m os
  have lp1 := fun m os => cell_grown hbs hp1 m os
  have lp2 := fun m os => cell_grown hbs hp2 m os
  have lq1 := fun m os => cell_grown hbs hq1 m os
  have lq2 := fun m os => cell_grown hbs hq2 m os
  have HC := hide fun (w : World) => cmpG_any (w := w) h2 h1 hx hy
  clear hi hj hB hp1 hp2 hq1 hq2 h1 h2 hx hy
  obtain ⟨p1, p2⟩ := p
  obtain ⟨q1, q2⟩ := q
  simp only at lp1 lp2 lq1 lq2 HC
  go_enter Tryz.func82, Tryz.ntmps82
  go_wp2_with fail
  go_quiet_grown ((go_at_call 83; exact Calls.grown_of (HC.out _)))
  go_wp2_with fail
  go_ret
  exact ⟨rfl, _, _, rfl⟩
end Go.Proofs.YtlbagigghpiifaaGreat
namespace Go.Proofs.YtlbagigghpiifaaGreat
open Go.RowKit Go.Sort

/-- A comparison of numbers by their values, the greater one first, that may lay blocks. -/
def CmpGr (f : Nat) (cb : Array Value) (vs : List Int) (g : Nat) (w : World) : Prop :=
  ∀ W : World, w.heap.size ≤ W.heap.size → (∀ b o, b < w.heap.size → b ≠ g → W.cell? ⟨b, o, none⟩ = w.cell? ⟨b, o, none⟩) → ∀ i j : Nat, i < vs.length → j < vs.length →
    Calls Tryz.prog f (#[.int .i64 (i : Int), .int .i64 (j : Int)] ++ cb) W fun e w' => e = .returned (.int .i64 (cmpI (Rk.val vs j) (Rk.val vs i))) ∧ ∃ q os, w' = grow (W.drewN q) os
theorem CmpGr.below {f g : Nat} {cb : Array Value} {vs : List Int} {w w' : World} (h : CmpGr f cb vs g w) (hs : w.heap.size ≤ w'.heap.size) (hB : ∀ b, b < w.heap.size → w'.heap[b]? = w.heap[b]?) : CmpGr f cb vs g w' :=
  fun W hz hW => h W (Nat.le_trans hs hz) fun b o hb hne => (hW b o (Nat.lt_of_lt_of_le hb hs) hne).trans (World.cell?_of_block (w := w) (a := ⟨b, o, none⟩) (hB b hb))
theorem cmp_lays17 {w : World} {f g m : Nat} {cb : Array Value} {vs : List Int} (hv : vs.length = m + 1) (hc : CmpGr f cb vs g w) (size : Nat) :
    CmpLays1 Tryz.prog f cb (encF m) (fun x y => cmpI (Rk.val vs y.val) (Rk.val vs x.val)) g 0 size w := by
  intro q os dk _ x y
  refine hc _ ?_ (fun b o hb hne => sort_far hb hne) x.val y.val (by rw [hv]; exact x.isLt) (by rw [hv]; exact y.isLt)
  unfold sortWorld
  rw [size_grow, size_putRow]
  exact Nat.le_add_right _ _
theorem grow_owns {w : World} {base g n c : Nat} {xs : List Value} (os : Array Obj) (h : w.ownsRow base 3 1 (.slice (some ⟨g, 0, none⟩) n c) n xs) (hg : g < w.heap.size) : (grow w os).ownsRow base 3 1 (.slice (some ⟨g, 0, none⟩) n c) n xs :=
  owns_keep h (heap_grow_old w os hg)
theorem grow_grownBy {w w1 : World} {g : Nat} (os : Array Obj) (h : w.grownBy w1 (some g)) : w.grownBy (grow w1 os) (some g) :=
  ⟨h.os, h.tape, h.output, by rw [size_grow]; exact Nat.le_trans h.size (Nat.le_add_right _ _), fun b hb hne => (heap_grow_old w1 os (Nat.lt_of_lt_of_le hb h.size)).trans (h.block b hb hne)⟩
set_option maxHeartbeats 1000000 in
theorem stable_g {w : World} {f m g base : Nat} {cb : Array Value} {vs : List Int} {d : List (Fin (m + 1))} (hm : m + 1 ≤ 12) (hd : d.length = m + 1) (hr : Rk.vals m d = List.range (m + 1)) (hv : vs.length = m + 1)
    (eg : ∀ args w, (callFunc f args).run Tryz.prog w = .ok (.enter f args) w) (hc : CmpGr f cb vs g w)
    (hown : w.ownsRow base 3 1 (.slice (some ⟨g, 0, none⟩) (m + 1) (m + 1)) (m + 1) (ints (nats (Rk.vals m d)))) :
    Calls Tryz.prog 96 #[.slice (some ⟨g, 0, none⟩) (m + 1 : Nat) (m + 1 : Nat), .int .i64 (m + 1 : Nat), .func (.func f) #[] cb] w fun e w' =>
      e = .returned (.tuple #[]) ∧ w'.ownsRow base 3 1 (.slice (some ⟨g, 0, none⟩) (m + 1) (m + 1)) (m + 1) (ints (nats (Rk.rank vs))) ∧ w.grownBy w' (some g) := by
  have hsort : Calls Tryz.prog 108 #[.slice (some ⟨g, 0, none⟩) (m + 1 : Nat) (m + 1 : Nat), .int .i64 (0 : Nat), .int .i64 (m + 1 : Nat), .func (.func f) #[] cb] w fun e w' =>
      e = .returned (.tuple #[]) ∧ w'.ownsRow base 3 1 (.slice (some ⟨g, 0, none⟩) (m + 1) (m + 1)) (m + 1) (ints (nats (Rk.rank vs))) ∧ w.grownBy w' (some g) := by
    have hg := (own_at7 hown).2
    have hsz : d.toArray.size = m + 1 := by simpa using hd
    have h := Any.insertionSortCmpFunc_s Tryz.laysSlF20_f108 (encF m) (fun x y => cmpI (Rk.val vs y.val) (Rk.val vs x.val)) f cb g 0 (m + 1) 0 (m + 1) d.toArray d.toArray w w eg
      (cmp_lays17 hv hc _) ⟨encF_one m, own_holds hd hown, hg⟩ rfl (SW.start (own_holds hd hown)) (Nat.zero_le _) (by rw [hsz]; exact Nat.le_refl _) (by rw [hsz]; omega)
    rw [hsz] at h
    refine h.mono ?_
    rintro e w' ⟨he, q, os, rfl⟩
    obtain ⟨D, hD, hDv⟩ := Rk.sorted vs m d.toArray (by simpa using hr) hv
    rw [ltOf_eq, hD]
    have hp := put_owns (d := D) (xs := nats (Rk.vals m d)) q (by have := congrArg List.length hDv; rw [Rk.rank_len, hv] at this; simpa [Rk.vals] using this) hown
    rw [hDv] at hp
    exact ⟨he, grow_owns os hp (own_at7 hp).2, grow_grownBy os put_grown⟩
  have HS := hide hsort
  have h20 : ¬ (20 : Int) ≤ ((m + 1 : Nat) : Int) := by omega
  have h21 : ¬ (20 : Int) < ((m + 1 : Nat) : Int) := by omega
  clear hsort hown hc eg
  generalize m + 1 = n at HS h20 h21 ⊢
  go_enter Tryz.func96, Tryz.ntmps96
  go_wp2_with fail
  go_loop [7, 8] (fun s t => s = .int .i64 0 ∧ t = .int .i64 20) (fun _ _ => 0)
  case atStart => exact ⟨rfl, rfl⟩
  case round =>
    obtain ⟨rfl, rfl⟩ := hrel
    go_wp2_with fail
    refine HS.out.mono ?_
    rintro e w1 ⟨rfl, h1, h2⟩
    go_wp2_with fail
    go_loop [6, 7, 8, 9] (fun s _ _ _ => s = .int .i64 20) (fun _ _ _ _ => 0)
    case atStart => rfl
    case round =>
      subst hrel
      go_wp2_with fail
      go_end0
      exact ⟨rfl, h1, h2⟩
theorem sort_g {w : World} {f m g base : Nat} {cb : Array Value} {vs : List Int} (hm : m + 1 ≤ 12) (hv : vs.length = m + 1)
    (eg : ∀ args w, (callFunc f args).run Tryz.prog w = .ok (.enter f args) w) (hc : CmpGr f cb vs g w)
    (hown : w.ownsRow base 3 1 (.slice (some ⟨g, 0, none⟩) (m + 1) (m + 1)) (m + 1) (ints (nats (List.range (m + 1))))) :
    Calls Tryz.prog 88 #[.slice (some ⟨g, 0, none⟩) (m + 1 : Nat) (m + 1 : Nat), .func (.func f) #[] cb] w fun e w' =>
      e = .returned (.tuple #[]) ∧ w'.ownsRow base 3 1 (.slice (some ⟨g, 0, none⟩) (m + 1) (m + 1)) (m + 1) (ints (nats (Rk.rank vs))) ∧ w.grownBy w' (some g) := by
  have HS := hide (stable_g hm (fins_len m) (fins_vals m) hv eg hc (by rw [fins_vals]; exact hown))
  clear hown hc eg
  generalize m + 1 = n at HS ⊢
  go_enter Tryz.func88, Tryz.ntmps88
  go_wp2_with fail
  refine HS.out.mono ?_
  rintro e w1 ⟨rfl, h1, h2⟩
  go_wp2_with fail
  go_end0
  exact ⟨rfl, h1, h2⟩
theorem sort_g' {w : World} {f n g base : Nat} {cb : Array Value} {vs : List Int} (hn0 : 1 ≤ n) (hn : n ≤ 12) (hv : vs.length = n)
    (eg : ∀ args w, (callFunc f args).run Tryz.prog w = .ok (.enter f args) w) (hc : CmpGr f cb vs g w)
    (hown : w.ownsRow base 3 1 (.slice (some ⟨g, 0, none⟩) n n) n (ints (nats (List.range n)))) :
    Calls Tryz.prog 88 #[.slice (some ⟨g, 0, none⟩) n n, .func (.func f) #[] cb] w fun e w' =>
      e = .returned (.tuple #[]) ∧ w'.ownsRow base 3 1 (.slice (some ⟨g, 0, none⟩) n n) n (ints (nats (Rk.rank vs))) ∧ w.grownBy w' (some g) := by
  obtain ⟨m, rfl⟩ : ∃ m, n = m + 1 := ⟨n - 1, by omega⟩
  exact sort_g hn hv eg hc hown
set_option maxHeartbeats 2000000 in
theorem sn_g {n f : Nat} {cb : Array Value} {vs : List Int} {w : World} (hv : vs.length = n) (hn0 : 1 ≤ n) (hn : n ≤ 12) (eg : ∀ args w, (callFunc f args).run Tryz.prog w = .ok (.enter f args) w) (hc : CmpGr f cb vs w.heap.size w) :
    Calls Tryz.prog 78 #[.int .i64 n, .func (.func f) #[] cb] w fun e w' => e = .returned (.slice (some ⟨w.heap.size, 0, none⟩) n n) ∧ Below w.heap.size w w' ∧ w'.ownsRow w.heap.size 3 1 (.slice (some ⟨w.heap.size, 0, none⟩) n n) n (ints (nats (Rk.rank vs))) := by
  have hmk := makeI_run n (by omega)
  have HV := hide hv
  have HO := hide (made_own w n (by omega))
  have HE := hide eg
  have HC := hide hc
  clear hv eg hc
  go_enter Tryz.func78, Tryz.ntmps78
  go_wp2_with fail
  go_loopw [6, 11] (fun _ s wr => ∃ (k : Nat) (ys : List Int), s = .int .i64 k ∧ k ≤ n ∧ ys.length = n ∧ Hid (ys.take k = nats (List.range k)) ∧ wr.ownsRow w.heap.size 3 1 (.slice (some ⟨w.heap.size, 0, none⟩) n n) n (ints ys) ∧ Below w.heap.size w wr) (fun _ s _ => n - (intOf s).toNat)
  case atStart => exact ⟨0, List.replicate n 0, rfl, Nat.zero_le _, by simp, hide (by simp [nats]), HO.out, (Below.refl _ _).alloc (Nat.le_refl _) _⟩
  case round =>
    obtain ⟨k, ys, rfl, hk, hy, HT, hown, hB⟩ := hrel
    by_cases hlt : k < n
    · have i0 : (0 : Int) ≤ (k : Int) := by omega
      have i1 : (k : Int) < (n : Int) := by omega
      have c0 : wr.cell? ⟨w.heap.size, k, none⟩ = some (.int .i64 (ys.getD k 0)) := by rw [hown.cellAt k (by omega), ints_get ys k (by omega)]
      have f0 := hown.frozenAt k
      obtain ⟨st1, st2⟩ := hown.stored k (.int .i64 (k : Int))
      rw [ints_set] at st1
      have HST := hide st1
      have HF := hide (fill_step ys k n hy hlt HT.out)
      clear hmk st1 hown
      go_wp2_with fail
      go_roundw
      case rel => exact ⟨k + 1, ys.set k (k : Int), by go_num, by omega, by simpa using hy, HF, HST.out, hB.setCell (Nat.le_refl _) _⟩
      case measure => simp only [intOf]; omega
    · have hke : k = n := by omega
      subst hke
      have hys : ys = nats (List.range k) := by have := HT.out; rwa [← hy, List.take_length, hy] at this
      subst hys
      have HS := hide (sort_g' hn0 hn HV.out HE.out (HC.out.below hB.size hB.block) hown)
      clear hown hmk
      go_wp2_with fail
      refine HS.out.mono ?_
      rintro e w1 ⟨rfl, h1, h2⟩
      go_wp2_with fail
      go_ret
      exact ⟨rfl, hB.trans (grownBy_below h2 (Nat.le_refl _) hB.size), h1⟩
/-- The closure that holds two goods against each other. -/
theorem mfe_cmp {b n cap : Nat} {ps cs : List Int} {w : World} (hn : ps.length = n) (hp : ∀ i, i < n → 1 ≤ ps.getD i 0 ∧ ps.getD i 0 ≤ 30) (hc : ∀ i, i < n → 1 ≤ cs.getD i 0 ∧ cs.getD i 0 ≤ 10) (hb : b < w.heap.size) (hr : RowAt w b 0 (Sh.each Sh.cost ps cs)) :
    CmpGr 82 #[.pointer (some ⟨w.heap.size, 0, none⟩)] (Hs.wt ps cs) (w.heap.size + 1) (w.alloc (.cells #[.slice (some ⟨b, 0, none⟩) n cap] 105)) := by
  intro W hz hW i j hi hj
  rw [Hs.wt_len] at hi hj
  rw [hn] at hi hj
  have hz0 : (w.alloc (.cells #[.slice (some ⟨b, 0, none⟩) n cap] 105)).heap.size = w.heap.size + 1 := by simp
  rw [hz0] at hz hW
  have hB : W.cell? ⟨w.heap.size, 0, none⟩ = some (.slice (some ⟨b, 0, none⟩) n cap) := (hW _ _ (by omega) (by omega)).trans (by simp)
  have hx : ∀ k, k < n → W.cell? ⟨b, k * 2, none⟩ = some (.int .i64 (Sh.cost (ps.getD k 0) (cs.getD k 0)).1) ∧ W.cell? ⟨b, k * 2 + 1, none⟩ = some (.int .i64 (Sh.cost (ps.getD k 0) (cs.getD k 0)).2) := fun k hk => by
    obtain ⟨h1, h2⟩ := hr k (by rw [Sh.each_len, hn]; exact hk)
    rw [Sh.each_at Sh.cost ps cs (by rw [hn]; exact hk), Nat.zero_add] at h1 h2
    exact ⟨(hW _ _ (by omega) (by omega)).trans ((((Below.refl w.heap.size w).alloc (Nat.le_refl _) _).cell (p := ⟨b, k * 2, none⟩) hb).trans h1), (hW _ _ (by omega) (by omega)).trans ((((Below.refl w.heap.size w).alloc (Nat.le_refl _) _).cell (p := ⟨b, k * 2 + 1, none⟩) hb).trans h2)⟩
  obtain ⟨p1, p2⟩ := hp i hi
  obtain ⟨q1, q2⟩ := hp j hj
  obtain ⟨c1, c2⟩ := hc i hi
  obtain ⟨d1, d2⟩ := hc j hj
  rw [Hs.wt_at ps cs (i := i) (by rw [hn]; exact hi), Hs.wt_at ps cs (i := j) (by rw [hn]; exact hj)]
  exact me_any hi hj (by omega) (by omega) hB (hx i hi).1 (hx i hi).2 (hx j hj).1 (hx j hj).2 (Hs.cost_good p1 p2 c1 c2) (Hs.cost_good q1 q2 d1 d2)
    ((Hs.cross_lt (by omega) (by omega)).trans (Hs.wt_lt d1 d2 c1 c2).symm) ((Hs.cross_lt (by omega) (by omega)).trans (Hs.wt_lt c1 c2 d1 d2).symm)
set_option maxHeartbeats 2000000 in
theorem mfe_any {a b o p : Option Addr} {n m q c d e f : Nat} {ps cs : List Int} {w : World} (HM : Hid (cs.length = m)) (HR : Hid (ps.length = m)) (HF : Hid (Sh.flowB ps = true)) (HC : Hid (Hs.cntB cs = true)) (HB : Hid (ARow w b cs)) (HP : Hid (ARow w p ps)) :
    Calls Tryz.prog 66 #[.agg #[.slice a n c, .slice b m d, .slice o q e, .slice p m f]] w fun e w' => ∃ g, e = .returned (.slice (some ⟨g, 0, none⟩) m m) ∧ Below w.heap.size w w' ∧ w.heap.size ≤ g ∧ Ow w' g m (nats (Hs.goodsL ps cs)) := by
  have hb0 := below_new w (.cells #[.slice a n c, .slice b m d, .slice o q e, .slice p m f] 80)
  have HB1 := hide (HB.out.below hb0)
  have HP1 := hide (HP.out.below hb0)
  have HB0 := hide hb0
  have m1 : 1 ≤ m ∧ m ≤ 8 := by have := Sh.flowB_yes HF.out; have := HR.out; omega
  obtain ⟨m1, m8⟩ := m1
  have HS : Hid (Sh.sharedB ps cs = true) := hide (by
    obtain ⟨_, _, h3, h4⟩ := Hs.cntB_yes HC.out
    exact Sh.sharedB_of HF.out (by rw [HM.out, HR.out]) (Pf.allB_of fun i hi => by have := Pf.inB_yes (Pf.allB_get h3 hi); exact Pf.inB_of (by omega) (by omega)) (by omega))
  have HL : Hid ((Sh.each Sh.cost ps cs).length = m) := hide (by rw [Sh.each_len]; exact HR.out)
  have HEK := hide (eachK_any (c := f) (d := d) Sh.cost (enters_of Tryz.func81 (by kernel_rfl) rfl) (hide fun f c w f0 f1 c0 c1 => lowest_pos f c w (by omega) (by omega) (by omega) (by omega)) HP1 HR HB1 HS)
  clear hb0
  go_enter Tryz.func66, Tryz.ntmps66
  go_wp2_with fail
  refine HEK.out.mono ?_
  rintro _ w1 ⟨v, rfl, hb1, own1⟩
  obtain ⟨g, cap, rfl, g0, g1, row1⟩ := (frow_owns HL.out own1).resolve_left (fun h => by have := h.2; omega)
  have HB2 := hide (HB0.out.trans (hb1.mono HB0.out.size))
  have hcmp := mfe_cmp (cap := cap) HR.out (fun i hi => Sh.flowB_at HF.out (by rw [HR.out]; exact hi)) (fun i hi => Hs.cntB_at HC.out (by rw [HM.out]; exact hi)) g1 row1
  have hb2 := below_new w1 (.cells #[.slice (some ⟨g, 0, none⟩) m cap] 105)
  have hz : (w1.alloc (.cells #[.slice (some ⟨g, 0, none⟩) m cap] 105)).heap.size = w1.heap.size + 1 := by simp
  have HSN := hide (sn_g (w := w1.alloc (.cells #[.slice (some ⟨g, 0, none⟩) m cap] 105)) (cb := #[.pointer (some ⟨w1.heap.size, 0, none⟩)]) (vs := Hs.wt ps cs) (by rw [Hs.wt_len]; exact HR.out) m1 (by omega) (enters_of Tryz.func82 (by kernel_rfl) rfl) (by rw [hz]; exact hcmp))
  rw [hz] at HSN
  have HB3 := hide (HB2.out.trans (hb2.mono HB2.out.size))
  have HZ := hide hz
  have hwz := HB2.out.size
  clear hb1 own1 row1 hcmp hb2 hz HEK
  go_wp2_with fail
  refine HSN.out.mono ?_
  rintro _ w2 ⟨rfl, hb3, own3⟩
  obtain ⟨O3, _⟩ := Ow.mk' own3
  have HB4 := hide (HB3.out.trans (hb3.mono (by have := HB3.out.size; have := HZ.out; omega)))
  have HO := hide O3
  clear own3 O3 hb3
  go_wp2_with fail
  go_ret
  exact ⟨_, rfl, HB4.out, by omega, HO.out⟩
end Go.Proofs.YtlbagigghpiifaaGreat
namespace Go.Proofs.YtlbagigghpiifaaGreat
open Go.RowKit

end Go.Proofs.YtlbagigghpiifaaGreat
namespace Go.Proofs.YtlbagigghpiifaaGreat
open Go.RowKit Go.Sort

theorem DyBox.grown {w w' : World} {B g : Nat} {v0 v1 v2 v3 : Value} (h : DyBox w B v0 v1 v2 v3) (hg : w.grownBy w' (some g)) (hne : B ≠ g) : DyBox w' B v0 v1 v2 v3 := by
  have k : ∀ i, w'.cell? ⟨B, i, none⟩ = w.cell? ⟨B, i, none⟩ := fun i => World.cell?_of_block (w := w) (a := ⟨B, i, none⟩) (hg.block B h.2.2.2.2 (by simpa using hne))
  exact ⟨(k 0).trans h.1, (k 1).trans h.2.1, (k 2).trans h.2.2.1, (k 3).trans h.2.2.2.1, Nat.lt_of_lt_of_le h.2.2.2.2 hg.size⟩
theorem grow_set17 {w wr : World} {g : Nat} (hg : w.grownBy wr (some g)) {p : Nat} {v : Value} {w' : World} (h : wr.grownBy w' (some g)) (_ : w' = wr.setCell ⟨g, p, none⟩ v) : w.grownBy w' (some g) :=
  ⟨h.os.trans hg.os, h.tape.trans hg.tape, h.output.trans hg.output, Nat.le_trans hg.size h.size, fun b hb hne => (h.block b (Nat.lt_of_lt_of_le hb hg.size) hne).trans (hg.block b hb hne)⟩
set_option maxHeartbeats 8000000 in
theorem bo_any {a b o p : Option Addr} {n m q c d e f : Nat} {ps cs ws : List Int} {w : World} (HN : Hid (ws.length = n)) (HM : Hid (cs.length = m)) (HR : Hid (ps.length = m)) (HF : Hid (Sh.flowB ps = true)) (HC : Hid (Hs.slotsB cs ws = true)) (HA : Hid (ARow w a ws)) (HB : Hid (ARow w b cs)) (HP : Hid (ARow w p ps)) :
    Calls Tryz.prog 47 #[.agg #[.slice a n c, .slice b m d, .slice o q e, .slice p m f]] w fun e w' => ∃ g, e = .returned (.slice (some ⟨g, 0, none⟩) n n) ∧ Below w.heap.size w w' ∧ w.heap.size ≤ g ∧ Ow w' g n (Hs.ownL ps cs ws) := by
  have hn10 : n ≤ 10 := by have := (Hs.slotsB_yes HC.out).2.2.2; have := HN.out; omega
  have hm8 : m ≤ 8 := by have := (Hs.cntB_yes (Hs.slotsB_yes HC.out).1).2.1; have := HM.out; omega
  have hmk := makeI_run n (by omega)
  have hb0 := below_new w (.cells #[.slice a n c, .slice b m d, .slice o q e, .slice p m f] 80)
  have hx0 := DyBox.new w (.slice a n c) (.slice b m d) (.slice o q e) (.slice p m f) 80
  have hz0 : (w.alloc (.cells #[.slice a n c, .slice b m d, .slice o q e, .slice p m f] 80)).heap.size = w.heap.size + 1 := by simp
  have hm0 := made_own (w.alloc (.cells #[.slice a n c, .slice b m d, .slice o q e, .slice p m f] 80)) n (by omega)
  have hb1 := below_new (w.alloc (.cells #[.slice a n c, .slice b m d, .slice o q e, .slice p m f] 80)) (.cells (madeCells #[.int .i64 0] n) 3)
  rw [hz0] at hm0
  have HX1 := hide (hx0.below hb1)
  have HW1 := hide (hb0.trans (hb1.mono hb0.size))
  have HM1 := hide hm0
  have hz1 : ((w.alloc (.cells #[.slice a n c, .slice b m d, .slice o q e, .slice p m f] 80)).alloc (.cells (madeCells #[.int .i64 0] n) 3)).heap.size = w.heap.size + 2 := by simp
  have HZ := hide hz1
  have HGL := hide (Hs.goodsL_len ps cs)
  have HGA : Hid ((Hs.exp cs (Hs.goodsL ps cs)).length = n) := hide ((Hs.goodsL_all (by rw [HM.out, HR.out]) HC.out).trans HN.out)
  clear hb0 hx0 hz0 hm0 hb1 hz1
  go_enter Tryz.func47, Tryz.ntmps47
  go_wp2_with fail
  generalize hW1 : (w.alloc (.cells #[.slice a n c, .slice b m d, .slice o q e, .slice p m f] 80)).alloc (.cells (madeCells #[.int .i64 0] n) 3) = W1 at *
  clear hW1 hmk
  refine (nf_any HN.out (by omega) (HA.out.below HW1.out)).mono ?_
  rintro _ w2 ⟨rfl, hb2, own2⟩
  obtain ⟨O2, _⟩ := Ow.mk' own2
  have hz2 : w.heap.size + 1 < w2.heap.size := by have := hb2.size; have := HZ.out; omega
  have HX2 := hide (HX1.out.below hb2)
  have HW2 := hide (HW1.out.trans (hb2.mono HW1.out.size))
  have HM2 := hide (owns_keep HM1.out (hb2.block _ (by have := HZ.out; omega)))
  have HS2 := hide O2
  have hG1 : w.heap.size + 1 < W1.heap.size + 1 := by have := HZ.out; omega
  generalize W1.heap.size + 1 = G1 at *
  obtain ⟨x0, x1, x2, x3, _⟩ := HX2.out
  clear own2 O2 hb2 HX1 HW1 HM1 HZ
  go_wp2_with fail
  refine (mfe_any HM HR HF (hide (Hs.slotsB_yes HC.out).1) (hide (HB.out.below HW2.out)) (hide (HP.out.below HW2.out))).mono ?_
  rintro _ w3 ⟨G2, rfl, hb3, hG2, O3⟩
  have HX3 := hide (HX2.out.below hb3)
  have HW3 := hide (HW2.out.trans (hb3.mono HW2.out.size))
  have HM3 := hide (owns_keep HM2.out (hb3.block _ (by omega)))
  have HS3 := hide (HS2.out.below hb3)
  have HG3 := hide O3
  have hz3 := hb3.size
  clear O3 hb3 HX2 HW2 HM2 HS2 x0 x1 x2 x3
  go_wp2_with fail
  go_loopw [4, 6, 7, 9, 22] (fun v4 _ _ _ s wr => ∃ (k t u : Nat) (ys : List Int), v4 = .slice (some ⟨G1, u, none⟩) (n - t : Nat) (n - t : Nat) ∧ (t < n → u = t) ∧ s = .int .i64 k ∧ k ≤ m ∧ t ≤ n ∧ Hid (t = Hs.upto cs (Hs.goodsL ps cs) k) ∧ Hid (ys = putTo (Hs.exp cs (Hs.goodsL ps cs)) (Rk.rank (negs ws)) n t) ∧ Hid (wr.ownsRow (w.heap.size + 1) 3 1 (.slice (some ⟨w.heap.size + 1, 0, none⟩) n n) n (ints ys)) ∧ Hid (w3.grownBy wr (some (w.heap.size + 1)))) (fun _ _ _ _ s _ => m - (intOf s).toNat)
  case atStart => exact ⟨0, 0, 0, List.replicate n 0, by simp, fun _ => rfl, rfl, Nat.zero_le _, Nat.zero_le _, hide rfl, hide rfl, HM3, hide (World.grownBy.refl _ _)⟩
  case round =>
    obtain ⟨k, t, u, ys, rfl, hut, rfl, hk, ht, HTU, HY, HO, HG⟩ := hrel
    obtain ⟨x0, x1, x2, x3, _⟩ := HX3.out.grown HG.out (by omega)
    have HWr := hide (HW3.out.trans (grown_below' HG.out (by omega) HW3.out.size))
    by_cases hkm : k < m
    · have i0 : (0 : Int) ≤ (k : Int) := by omega
      have i1 : (k : Int) < (m : Int) := by omega
      have hkg : k < (Hs.goodsL ps cs).length := by rw [HGL.out, HR.out]; exact hkm
      obtain ⟨_, _, e1, r1⟩ := ((HG3.out.grown HG.out (by omega)).row (by rw [nats_len, HGL.out, HR.out])).at (i := k) (by rw [nats_len]; exact hkg)
      cases e1
      rw [nats_get, Nat.zero_add] at r1
      have hxm : (Hs.goodsL ps cs).getD k 0 < m := by rw [← HR.out]; exact Hs.goodsL_lt (by rw [HR.out]; exact hkm)
      have hc1 := Hs.cntB_at (Hs.slotsB_yes HC.out).1 (i := (Hs.goodsL ps cs).getD k 0) (by rw [HM.out]; exact hxm)
      have HUS := hide (Hs.upto_succ cs (Hs.goodsL ps cs) hkg)
      have hul := Hs.upto_le cs (Hs.goodsL ps cs) (k + 1)
      rw [HUS.out, HGA.out, ← HTU.out] at hul
      have HEA := hide fun (j : Nat) (hj : j < (cs.getD ((Hs.goodsL ps cs).getD k 0) 0).toNat) => Hs.exp_at cs (Hs.goodsL ps cs) hkg hj
      rw [← HTU.out] at HEA HUS
      obtain ⟨bb, ob, rfl, r2⟩ := (HB.out.below HWr.out).at (i := (Hs.goodsL ps cs).getD k 0) (by rw [HM.out]; exact hxm)
      generalize hxx : (Hs.goodsL ps cs).getD k 0 = x at *
      generalize hcc : cs.getD x 0 = cI at *
      obtain ⟨cn, rfl⟩ := Int.eq_ofNat_of_zero_le (show 0 ≤ cI by omega)
      rw [Int.toNat_natCast] at HUS hul HEA
      obtain rfl : t = u := (hut (by omega)).symm
      have j0 : (0 : Int) ≤ (x : Int) := by omega
      have j1 : (x : Int) < (m : Int) := by omega
      have l0 : (0 : Int) ≤ (cn : Int) := by omega
      have l1 : (cn : Int) ≤ ((n - t : Nat) : Int) := by omega
      clear hxx hcc
      go_wp2_with fail
      go_loopw [9, 36] (fun _ s wr => ∃ (j : Nat) (zs : List Int), s = .int .i64 j ∧ j ≤ cn ∧ Hid (zs = putTo (Hs.exp cs (Hs.goodsL ps cs)) (Rk.rank (negs ws)) n (t + j)) ∧ Hid (wr.ownsRow (w.heap.size + 1) 3 1 (.slice (some ⟨w.heap.size + 1, 0, none⟩) n n) n (ints zs)) ∧ Hid (w3.grownBy wr (some (w.heap.size + 1)))) (fun _ s _ => cn - (intOf s).toNat)
      case atStart => exact ⟨0, ys, rfl, Nat.zero_le _, HY, HO, HG⟩
      case round =>
        obtain ⟨j, zs, rfl, hj, HZ, HOI, HGI⟩ := hrel
        by_cases hjc : j < cn
        · have p0 : (0 : Int) ≤ (j : Int) := by omega
          have p1 : (j : Int) < (cn : Int) := by omega
          obtain ⟨_, _, e3, r3⟩ := ((HS3.out.grown HGI.out (by omega)).row (by rw [nats_len, Rk.rank_len, negs_len, HN.out])).at (i := t + j) (by rw [nats_len, Rk.rank_len, negs_len, HN.out]; omega)
          cases e3
          rw [nats_get, Nat.zero_add] at r3
          have hp : (Rk.rank (negs ws)).getD (t + j) 0 < n := by have := rk_nth_lt (vs := negs ws) (k := t + j) (by rw [negs_len, HN.out]; omega); rwa [negs_len, HN.out] at this
          have HST0 : Hid (zs.set ((Rk.rank (negs ws)).getD (t + j) 0) (x : Int) = putTo (Hs.exp cs (Hs.goodsL ps cs)) (Rk.rank (negs ws)) n (t + (j + 1))) := hide (by
            rw [HZ.out, ← Nat.add_assoc]
            show _ = List.set _ _ _
            rw [HEA.out j hjc])
          generalize (Rk.rank (negs ws)).getD (t + j) 0 = y at *
          have y0 : (0 : Int) ≤ (y : Int) := by omega
          have y1 : (y : Int) < (n : Int) := by omega
          have hzl : zs.length = n := by rw [HZ.out, putTo_len]
          have c0 : wr.cell? ⟨w.heap.size + 1, y, none⟩ = some (.int .i64 (zs.getD y 0)) := by rw [HOI.out.cellAt y (by omega), ints_get zs y (by omega)]
          have f0 := HOI.out.frozenAt y
          obtain ⟨st1, st2⟩ := HOI.out.stored y (.int .i64 (x : Int))
          rw [ints_set] at st1
          have HST := hide st1
          have HG4 := hide (grow_set17 HGI.out st2 rfl)
          clear st1 st2 x0 x1 x2 x3 r1 r2
          go_wp2_with fail
          go_roundw
          case rel => exact ⟨j + 1, zs.set y (x : Int), by go_num, by omega, HST0, HST, HG4⟩
          case measure => simp only [intOf]; omega
        · have hje : j = cn := by omega
          subst hje
          clear x0 x1 x2 x3 r1 r2
          go_wp2_with fail
          by_cases hnj : n - t = j
          · simp only [if_pos hnj]
            go_roundw
            case rel => exact ⟨k + 1, t + j, t, zs, by rw [Nat.sub_sub], fun h => by omega, by go_num, by omega, by omega, hide HUS.out.symm, HZ, HOI, HGI⟩
            case measure => simp only [intOf]; omega
          · simp only [if_neg hnj]
            go_roundw
            case rel => exact ⟨k + 1, t + j, t + j, zs, by rw [Nat.sub_sub], fun _ => rfl, by go_num, by omega, by omega, hide HUS.out.symm, HZ, HOI, HGI⟩
            case measure => simp only [intOf]; omega
    · have hke : k = m := by omega
      subst hke
      have htn : t = n := by rw [HTU.out, ← HGA.out, ← Hs.upto_all, HGL.out, HR.out]
      have hys : ys = Hs.ownL ps cs ws := by rw [HY.out, Hs.ownL, HN.out, htn]; rfl
      have ho := HO.out
      rw [hys] at ho
      obtain ⟨O5, _⟩ := Ow.mk' ho
      have HO5 := hide O5
      clear O5 ho hys x0 x1 x2 x3
      go_wp2_with fail
      go_ret
      exact ⟨_, rfl, HWr.out, by omega, HO5.out⟩
end Go.Proofs.YtlbagigghpiifaaGreat
namespace Go.Proofs.YtlbagigghpiifaaGreat
open Go.RowKit Go.Sort

namespace Hs
theorem day_yes {ps cs ws : List Int} (h : dayB ps cs ws = true) : Sh.flowB ps = true ∧ ps.length = cs.length ∧ slotsB cs ws = true := by
  simp only [dayB, Bool.and_eq_true, decide_eq_true_eq] at h
  exact ⟨h.1.1, h.1.2, h.2⟩
end Hs
set_option maxHeartbeats 2000000 in
theorem sf_no {p b a : Option Addr} {n m r c d f : Nat} {ps cs ws : List Int} {w : World} (HR : Hid (ps.length = r)) (HM : Hid (cs.length = m)) (HN : Hid (ws.length = n)) (HP : Hid (ARow w p ps)) (HB : Hid (ARow w b cs)) (HA : Hid (ARow w a ws)) (HD : Hid (Hs.dayB ps cs ws = false)) :
    Calls Tryz.prog 26 #[.slice p r f, .slice b m d, .slice a n c] w fun e w' => e = .returned (.tuple #[.slice none 0 0, .bool false]) ∧ Below w.heap.size w w' := by
  have hb0 := below_new w (.cells #[.slice a n c, .slice b m d, .slice none 0 0, .slice p r f] 80)
  have HX := hide (DyBox.new w (.slice a n c) (.slice b m d) (.slice none 0 0) (.slice p r f) 80)
  have HA1 := hide (HA.out.below hb0)
  have HB1 := hide (HB.out.below hb0)
  have HP1 := hide (HP.out.below hb0)
  have HB0 := hide hb0
  have HE : Hid (Hs.dayB ps cs ws = ((Sh.flowB ps && decide (ps.length = cs.length)) && Hs.slotsB cs ws)) := hide rfl
  clear hb0
  cases h1 : (Sh.flowB ps && decide (ps.length = cs.length))
  · have H1 := hide h1
    clear h1
    go_enter Tryz.func26, Tryz.ntmps26
    go_wp2_with fail
    refine (ip17_eq HM HR HP1 H1).mono ?_
    rintro _ w1 ⟨rfl, hb1⟩
    have HBf := hide (HB0.out.trans (hb1.mono HB0.out.size))
    clear hb1
    go_wp2_with fail
    go_ret2
    exact ⟨rfl, HBf.out⟩
  · have H1 := hide h1
    have H2 : Hid (Hs.slotsB cs ws = false) := hide (by have := HD.out; rw [HE.out, h1, Bool.true_and] at this; exact this)
    clear h1
    go_enter Tryz.func26, Tryz.ntmps26
    go_wp2_with fail
    refine (ip17_eq HM HR HP1 H1).mono ?_
    rintro _ w1 ⟨rfl, hb1⟩
    obtain ⟨x0, x1, x2, x3, _⟩ := HX.out.below hb1
    have HA2 := hide (HA1.out.below hb1)
    have HB2 := hide (HB1.out.below hb1)
    have HBf := hide (HB0.out.trans (hb1.mono HB0.out.size))
    clear hb1
    go_wp2_with fail
    refine (hs_eq HN HM HA2 HB2 H2).mono ?_
    rintro _ w2 ⟨rfl, hb2⟩
    have HBg := hide (HBf.out.trans (hb2.mono HBf.out.size))
    clear hb2
    go_wp2_with fail
    go_ret2
    exact ⟨rfl, HBg.out⟩
set_option maxHeartbeats 2000000 in
theorem sf_yes {p b a : Option Addr} {n m r c d f : Nat} {ps cs ws : List Int} {w : World} (HR : Hid (ps.length = r)) (HM : Hid (cs.length = m)) (HN : Hid (ws.length = n)) (HP : Hid (ARow w p ps)) (HB : Hid (ARow w b cs)) (HA : Hid (ARow w a ws)) (HD : Hid (Hs.dayB ps cs ws = true)) :
    Calls Tryz.prog 26 #[.slice p r f, .slice b m d, .slice a n c] w fun e w' => ∃ g, e = .returned (.tuple #[.slice (some ⟨g, 0, none⟩) n n, .bool true]) ∧ Below w.heap.size w w' ∧ w.heap.size ≤ g ∧ Ow w' g n (Hs.ownL ps cs ws) := by
  obtain ⟨f1, f2, f3⟩ := Hs.day_yes HD.out
  obtain rfl : m = r := by have := HR.out; have := HM.out; omega
  have hb0 := below_new w (.cells #[.slice a n c, .slice b m d, .slice none 0 0, .slice p m f] 80)
  have HX := hide (DyBox.new w (.slice a n c) (.slice b m d) (.slice none 0 0) (.slice p m f) 80)
  have HA1 := hide (HA.out.below hb0)
  have HB1 := hide (HB.out.below hb0)
  have HP1 := hide (HP.out.below hb0)
  have HB0 := hide hb0
  have H1 : Hid ((Sh.flowB ps && decide (ps.length = cs.length)) = true) := hide (by rw [f1, Bool.true_and, decide_eq_true_eq]; exact f2)
  have HF := hide f1
  have H2 := hide f3
  clear hb0 f1 f2 f3
  go_enter Tryz.func26, Tryz.ntmps26
  go_wp2_with fail
  refine (ip17_eq HM HR HP1 H1).mono ?_
  rintro _ w1 ⟨rfl, hb1⟩
  have HX1 := hide (HX.out.below hb1)
  obtain ⟨x0, x1, x2, x3, _⟩ := HX1.out
  have HA2 := hide (HA1.out.below hb1)
  have HB2 := hide (HB1.out.below hb1)
  have HP2 := hide (HP1.out.below hb1)
  have HBf := hide (HB0.out.trans (hb1.mono HB0.out.size))
  clear hb1 HX
  go_wp2_with fail
  refine (hs_eq HN HM HA2 HB2 H2).mono ?_
  rintro _ w2 ⟨rfl, hb2⟩
  clear x0 x1 x2 x3
  obtain ⟨x0, x1, x2, x3, _⟩ := HX1.out.below hb2
  have HA3 := hide (HA2.out.below hb2)
  have HB3 := hide (HB2.out.below hb2)
  have HP3 := hide (HP2.out.below hb2)
  have HBg := hide (HBf.out.trans (hb2.mono HBf.out.size))
  clear hb2 HX1
  go_wp2_with fail
  refine (bo_any HN HM HR HF H2 HA3 HB3 HP3).mono ?_
  rintro _ w3 ⟨g, rfl, hb3, hg, O⟩
  have hz := HBg.out.size
  have HBh := hide (HBg.out.trans (hb3.mono HBg.out.size))
  have HO := hide O
  clear hb3 O
  go_wp2_with fail
  go_ret2
  exact ⟨_, rfl, HBh.out, by omega, HO.out⟩
set_option maxHeartbeats 16000000 in
theorem sgoods_any {a b : Option Addr} {n c d : Nat} {ps cs : List Int} {w : World} (HV : Hid (ps.length = n)) (HM : Hid (cs.length = n)) (hn : n ≤ 12) (HP : Hid (∀ i, i < n → 1 ≤ ps.getD i 0 ∧ ps.getD i 0 ≤ 30)) (HC : Hid (∀ i, i < n → 1 ≤ cs.getD i 0 ∧ cs.getD i 0 ≤ 10)) (HA : Hid (ARow w a ps)) (HB : Hid (ARow w b cs)) :
    Calls Tryz.prog 39 #[.slice a n c, .slice b n d] w fun e w' => ∃ v, e = .returned v ∧ Below w.heap.size w w' ∧ w'.ownsRow w.heap.size 3 1 v n (ints (nats (Rk.rank (Hs.wt ps cs)))) := by
  obtain ⟨i0, hi, hz0, hz1, hz2⟩ := info_parts inf3
  have HWL : Hid ((Hs.wt ps cs).length = n) := hide (by rw [Hs.wt_len]; exact HV.out)
  go_enter Tryz.func39, Tryz.ntmps39
  go_wp2_with fail
  go_loopw [5, 6, 7, 8, 11] (fun v _ _ _ s wr => ∃ (k cv : Nat) (av : Option Addr), v = .slice av k cv ∧ s = .int .i64 k ∧ k ≤ n ∧ (k = 0 → av = none ∧ cv = 0) ∧ wr.ownsRow w.heap.size 3 1 v k (ints (nats (Rk.upto (Hs.wt ps cs) k))) ∧ Below w.heap.size w wr) (fun _ _ _ _ s _ => n - (intOf s).toNat)
  case atStart => exact ⟨0, 0, none, rfl, rfl, Nat.zero_le _, fun _ => ⟨rfl, rfl⟩, World.ownsRow_nil w w.heap.size 3 1, Below.refl _ _⟩
  case round =>
    obtain ⟨k, cv, av, rfl, rfl, hk, hnil, hown, hB⟩ := hrel
    by_cases hlt : k < n
    · have HAr := hide (HA.out.keep hB.size hB.block)
      have HBr := hide (HB.out.keep hB.size hB.block)
      obtain ⟨ba, oa, rfl, r1⟩ := HAr.out.at (i := k) (by rw [HV.out]; exact hlt)
      obtain ⟨bb, ob, rfl, r3⟩ := HBr.out.at (i := k) (by rw [HM.out]; exact hlt)
      have k0 : (0 : Int) ≤ (k : Int) := by omega
      have k1 : (k : Int) < (n : Int) := by omega
      have hs := hB.size
      have hul := Rk.upto_len (Hs.wt ps cs) k
      have HB0 := hide hB
      have HO := hide hown
      have hnl := hide hnil
      clear hown hnil hB
      go_upto_block 2 with fail
      go_cut [7] from 12 to 61 (fun s7 wc => ∃ j : Nat, s7 = .int .i64 j ∧ j ≤ k ∧ Hid (nats (Rk.upto (Hs.wt ps cs) (k + 1)) = (nats (Rk.upto (Hs.wt ps cs) k)).take j ++ [(k : Int)] ++ (nats (Rk.upto (Hs.wt ps cs) k)).drop j) ∧ ∃ q, wc = wr.drewN q)
      case first =>
        obtain ⟨W0, rfl⟩ : ∃ W, W = wr := ⟨_, rfl⟩
        go_wp2_with fail
        go_loopw [7] (fun s wq => ∃ j q : Nat, s = .int .i64 j ∧ j ≤ k ∧ Hid (∀ t, t < j → Rk.val (Hs.wt ps cs) ((Rk.upto (Hs.wt ps cs) k).getD t 0) ≥ Rk.val (Hs.wt ps cs) k) ∧ wq = W0.drewN q) (fun s _ => k - (intOf s).toNat)
        case atStart => exact ⟨0, 0, rfl, Nat.zero_le _, hide fun t ht => absurd ht (Nat.not_lt_zero _), rfl⟩
        case round =>
          obtain ⟨j, q, rfl, hj, HJ, rfl⟩ := hrel
          have rest : (j < k → Rk.val (Hs.wt ps cs) ((Rk.upto (Hs.wt ps cs) k).getD j 0) < Rk.val (Hs.wt ps cs) k) → Hid (nats (Rk.upto (Hs.wt ps cs) (k + 1)) = (nats (Rk.upto (Hs.wt ps cs) k)).take j ++ [(k : Int)] ++ (nats (Rk.upto (Hs.wt ps cs) k)).drop j) := fun h => by
            show nats (Rk.insL (Hs.wt ps cs) k (Rk.upto (Hs.wt ps cs) k)) = _
            rw [Rk.insL_at (Hs.wt ps cs) k (Rk.upto (Hs.wt ps cs) k) j (by rw [hul]; exact hj) HJ.out (fun h' => h (by rw [← hul]; exact h')), nats_ins]
          have REST := hide rest
          clear rest
          by_cases hjk : j < k
          · obtain ⟨g, cap, e, hg0, hgl⟩ := HO.out.form (by omega)
            obtain ⟨rfl, rfl⟩ : av = some ⟨g, 0, none⟩ ∧ cv = cap := by cases e; exact ⟨rfl, rfl⟩
            have j0 : (0 : Int) ≤ (j : Int) := by omega
            have j1 : (j : Int) < (k : Int) := by omega
            have c1 : W0.cell? ⟨g, j, none⟩ = some (.int .i64 ((nats (Rk.upto (Hs.wt ps cs) k)).getD j 0)) := by rw [HO.out.cellAt j (by omega), ints_get _ j (by rw [nats_len, hul]; omega)]
            rw [nats_get] at c1
            have hm : (Rk.upto (Hs.wt ps cs) k).getD j 0 < n := by
              have hmem : (Rk.upto (Hs.wt ps cs) k).getD j 0 ∈ Rk.upto (Hs.wt ps cs) k := by rw [Pf.getD_lt _ _ (by rw [hul]; exact hjk)]; exact List.getElem_mem _
              have := Rk.upto_mem hmem; omega
            generalize hq : (Rk.upto (Hs.wt ps cs) k).getD j 0 = y at c1 hm
            obtain ⟨_, _, e5, r2⟩ := HAr.out.at (i := y) (by rw [HV.out]; exact hm)
            cases e5
            obtain ⟨_, _, e6, r4⟩ := HBr.out.at (i := y) (by rw [HM.out]; exact hm)
            cases e6
            have y0 : (0 : Int) ≤ (y : Int) := by omega
            have y1 : (y : Int) < (n : Int) := by omega
            obtain ⟨pk0, pk1⟩ := HP.out k hlt
            obtain ⟨py0, py1⟩ := HP.out y hm
            obtain ⟨ck0, ck1⟩ := HC.out k hlt
            obtain ⟨cy0, cy1⟩ := HC.out y hm
            have HLT := hide (Hs.wt_lt (p := ps.getD y 0) (q := ps.getD k 0) cy0 cy1 ck0 ck1)
            rw [← Hs.wt_at ps cs (i := y) (by rw [HV.out]; exact hm), ← Hs.wt_at ps cs (i := k) (by rw [HV.out]; exact hlt)] at HLT
            have m1 := wrap_mul (ps.getD y 0) (cs.getD k 0) (by omega) (by omega) (by omega) (by omega)
            have m2 := wrap_mul (ps.getD k 0) (cs.getD y 0) (by omega) (by omega) (by omega) (by omega)
            generalize ps.getD k 0 = pk at *
            generalize ps.getD y 0 = py at *
            generalize cs.getD k 0 = ck at *
            generalize cs.getD y 0 = cy at *
            by_cases hge : pk * cy ≤ py * ck
            · have HJ' : Hid (∀ t, t < j + 1 → Rk.val (Hs.wt ps cs) ((Rk.upto (Hs.wt ps cs) k).getD t 0) ≥ Rk.val (Hs.wt ps cs) k) := hide fun t ht => by
                by_cases e : t = j
                · subst e; rw [hq]
                  rcases Int.lt_or_le (Rk.val (Hs.wt ps cs) y) (Rk.val (Hs.wt ps cs) k) with h | h
                  · have := HLT.out.1 h; omega
                  · exact h
                · exact HJ.out t (by omega)
              clear hq e
              go_wp2_with fail
              go_quiet (fail)
              go_wp2_with fail
              go_roundw
              case rel => exact ⟨j + 1, q + nq, by go_num, by omega, HJ', by first | rfl | rw [World.drewN_drewN]⟩
              case measure => simp only [intOf]; omega
            · have HR := REST.out (fun _ => by rw [hq]; exact HLT.out.2 (by omega))
              have hge' : decide (pk * cy ≤ py * ck) = false := decide_eq_false hge
              clear hq e
              go_wp2_with fail
              go_quiet (fail)
              go_wp2_with fail
              go_meet
              case rel => exact ⟨j, rfl, hj, HR, q + nq, by first | rfl | rw [World.drewN_drewN]⟩
          · have HR := REST.out (fun h => by omega)
            have hje : j = k := by omega
            subst hje
            have hjz' : decide ((j : Int) < (j : Int)) = false := by simp
            clear r1 r3
            go_wp2_with fail
            go_quiet (fail)
            go_wp2_with fail
            go_meet
            case rel => exact ⟨j, rfl, hj, HR, q + nq, by first | rfl | rw [World.drewN_drewN]⟩
      case rest =>
        obtain ⟨j, rfl, hj, HR, q, rfl⟩ := hcut
        have HO2 : Hid ((wr.drewN q).ownsRow w.heap.size 3 1 (.slice av k cv) k (ints (nats (Rk.upto (Hs.wt ps cs) k)))) := HO
        have hB : Below w.heap.size w (wr.drewN q) := below_drewN HB0.out q
        clear HO HB0 HAr HBr r1 r3 hs
        have hs := hB.size
        have HO := HO2
        clear HO2
        generalize wr.drewN q = W2 at *
        by_cases hk0 : k = 0
        · subst hk0
          obtain ⟨rfl, rfl⟩ := hnl.out rfl
          obtain rfl : j = 0 := by omega
          have E0 := empty_row W2
          go_wp2_with (first
            | (at_builtin; refine wpList_append_own _ rfl _ _ 26 rfl W2.heap.size 3 i0 (.int .i64 0) 1 8 Tryz.underlying26 hi hz0 hz1 hz2 rfl (by decide) _ _ _ rfl (E0.alloc _) ⟨W2.heap.size + 1, 0, none⟩ 1 1 (ints [0]) rfl rfl (new_one _ _ (by simp)) (int_cells _) (by unfold maxLen; omega) (by omega) (by simp; omega) ?_))
          intro v2 w2 own2 hg2 _
          have own2' : w2.ownsRow W2.heap.size 3 1 v2 1 (ints [0]) := own2
          go_wp2_with (first
            | (at_builtin; refine wpList_append_own_none rfl _ _ 26 rfl W2.heap.size 3 i0 1 Tryz.underlying26 hi _ _ _ rfl own2' rfl ?_))
          go_wp2_with fail
          go_roundw
          case rel => (obtain ⟨a3, c3, e3, _⟩ := own_any7 (xs := [0]) rfl own2'; exact ⟨1, c3, a3, e3, by go_num, by omega, fun h => by omega, owns_base own2' hs, (hB.alloc hs _).trans (((Below.refl _ _).alloc (by simp; omega) _).trans (grownBy_below hg2 hs (by simp; omega)))⟩)
          case measure => simp only [intOf]; omega
        · obtain ⟨g, cap, e, hg0, hgl⟩ := HO.out.form (by omega)
          obtain ⟨rfl, rfl⟩ : av = some ⟨g, 0, none⟩ ∧ cv = cap := by cases e; exact ⟨rfl, rfl⟩
          clear e
          have E0 := hide (empty_row W2)
          have hcap : k ≤ cv := by
            rcases HO.out.2 with ⟨h0, _⟩ | ⟨g', cap', cur, hv', _, _, h1, _⟩
            · cases h0
            · cases hv'; exact h1
          by_cases hcj : cv = j
          · obtain rfl := hcj.symm
            have HL : Hid ((ints ((nats (Rk.upto (Hs.wt ps cs) k)).take j)).length = j * 1) := by
              show _ = _
              rw [ints_len, List.length_take, nats_len, hul]; omega
            have HN1 : Hid (∀ (t : Nat) (u : Value), (ints ((nats (Rk.upto (Hs.wt ps cs) k)).take j))[t]? = some u → (W2.alloc (.cells #[] 3)).cell? ((⟨g, 0, none⟩ : Addr).add t) = some u) :=
              news_at (cells_kept (((Below.refl _ _).alloc (Nat.le_refl _) _).block g hgl) (own_take HO.out (by rw [nats_len, hul]) hj))
            go_wp2_with (first
              | (at_builtin; refine wpList_append_own _ rfl _ _ 26 rfl W2.heap.size 3 i0 (.int .i64 0) 1 8 Tryz.underlying26 hi hz0 hz1 hz2 rfl (by decide) _ _ _ rfl E0.out ⟨g, 0, none⟩ j j (ints ((nats (Rk.upto (Hs.wt ps cs) k)).take j)) rfl HL.out HN1.out (int_cells _) (by unfold maxLen; omega) (by omega) (by simp) ?_))
            intro v1 w1 own1 hg1 _
            have own1' : w1.ownsRow W2.heap.size 3 1 v1 j (ints ((nats (Rk.upto (Hs.wt ps cs) k)).take j)) := by simpa [ints] using own1
            have hs1 : W2.heap.size ≤ w1.heap.size := Nat.le_trans (by simp) hg1.size
            clear own1
            go_wp2_with (first
              | (at_builtin; refine wpList_append_own _ rfl _ _ 26 rfl W2.heap.size 3 i0 (.int .i64 0) 1 8 Tryz.underlying26 hi hz0 hz1 hz2 rfl (by decide) _ _ _ rfl (own1'.alloc _) ⟨w1.heap.size, 0, none⟩ 1 1 (ints [(k : Int)]) rfl rfl (new_one _ _ rfl) (int_cells _) (by unfold maxLen; omega) (by omega) (by simp; omega) ?_))
            intro v2 w2 own2 hg2 _
            have own2' : w2.ownsRow W2.heap.size 3 1 v2 (j + 1) (ints ((nats (Rk.upto (Hs.wt ps cs) k)).take j ++ [(k : Int)])) := by rw [ints_app]; exact own2
            have hs2 : W2.heap.size ≤ w2.heap.size := Nat.le_trans hs1 (Nat.le_trans (by simp) hg2.size)
            have HN2 : Hid (∀ (t : Nat) (u : Value), (ints ((nats (Rk.upto (Hs.wt ps cs) k)).drop j))[t]? = some u → w2.cell? ((⟨g, 0, none⟩ : Addr).add t) = some u) := by
              rw [List.drop_eq_nil_of_le (by rw [nats_len, hul]; omega)]; exact fun t u h => by simp [ints] at h
            have HL2 : Hid ((ints ((nats (Rk.upto (Hs.wt ps cs) k)).drop j)).length = 0 * 1) := by
              show _ = _
              rw [ints_len, List.length_drop, nats_len, hul]; omega
            have HB2 : Hid (Below w.heap.size w w2) := hide ((hB.alloc hs _).trans ((grownBy_below hg1 hs (by simp; omega)).trans (((Below.refl _ _).alloc (by omega) _).trans (by
              refine ⟨hg2.os, hg2.tape, hg2.output, hg2.size, fun b hb => hg2.block b (by simp; omega) (far_block own1' (by omega))⟩))))
            clear own2 hg1 hg2 own1'
            go_wp2_with (first
              | (at_builtin; refine wpList_append_own _ rfl _ _ 26 rfl W2.heap.size 3 i0 (.int .i64 0) 1 8 Tryz.underlying26 hi hz0 hz1 hz2 rfl (by decide) _ _ _ rfl own2' ⟨g, 0, none⟩ 0 0 (ints ((nats (Rk.upto (Hs.wt ps cs) k)).drop j)) rfl HL2.out HN2.out (int_cells _) (by unfold maxLen; omega) (by omega) hs2 ?_))
            intro v3 w3 own3 hg3 _
            have own3' : w3.ownsRow W2.heap.size 3 1 v3 (k + 1) (ints (nats (Rk.upto (Hs.wt ps cs) (k + 1)))) := by
              rw [HR.out, ints_app]
              have e : j + 1 + 0 = k + 1 := by omega
              rw [e] at own3
              exact own3
            clear own3
            go_wp2_with fail
            go_roundw
            case rel => (obtain ⟨a3, c3, e3, _⟩ := own_any7 (by rw [nats_len, Rk.upto_len]) own3'; exact ⟨k + 1, c3, a3, e3, by go_num, by omega, fun h => by omega, owns_base own3' hs, HB2.out.trans ⟨hg3.os, hg3.tape, hg3.output, hg3.size, fun b hb => hg3.block b (by omega) (far_block own2' (by omega))⟩⟩)
            case measure => simp only [intOf]; omega
          · have hcl : j < cv := by omega
            have HL : Hid ((ints ((nats (Rk.upto (Hs.wt ps cs) k)).take j)).length = j * 1) := by
              show _ = _
              rw [ints_len, List.length_take, nats_len, hul]; omega
            have HN1 : Hid (∀ (t : Nat) (u : Value), (ints ((nats (Rk.upto (Hs.wt ps cs) k)).take j))[t]? = some u → (W2.alloc (.cells #[] 3)).cell? ((⟨g, 0, none⟩ : Addr).add t) = some u) :=
              news_at (cells_kept (((Below.refl _ _).alloc (Nat.le_refl _) _).block g hgl) (own_take HO.out (by rw [nats_len, hul]) hj))
            go_wp2_with (first
              | (at_builtin; refine wpList_append_own _ rfl _ _ 26 rfl W2.heap.size 3 i0 (.int .i64 0) 1 8 Tryz.underlying26 hi hz0 hz1 hz2 rfl (by decide) _ _ _ rfl E0.out ⟨g, 0, none⟩ j cv (ints ((nats (Rk.upto (Hs.wt ps cs) k)).take j)) rfl HL.out HN1.out (int_cells _) (by unfold maxLen; omega) (by omega) (by simp) ?_))
            intro v1 w1 own1 hg1 _
            have own1' : w1.ownsRow W2.heap.size 3 1 v1 j (ints ((nats (Rk.upto (Hs.wt ps cs) k)).take j)) := by simpa [ints] using own1
            have hs1 : W2.heap.size ≤ w1.heap.size := Nat.le_trans (by simp) hg1.size
            have hgk1 := hg1.block g (by simp; omega) (far_block E0.out hgl)
            clear own1
            go_wp2_with (first
              | (at_builtin; refine wpList_append_own _ rfl _ _ 26 rfl W2.heap.size 3 i0 (.int .i64 0) 1 8 Tryz.underlying26 hi hz0 hz1 hz2 rfl (by decide) _ _ _ rfl (own1'.alloc _) ⟨w1.heap.size, 0, none⟩ 1 1 (ints [(k : Int)]) rfl rfl (new_one _ _ rfl) (int_cells _) (by unfold maxLen; omega) (by omega) (by simp; omega) ?_))
            intro v2 w2 own2 hg2 _
            have own2' : w2.ownsRow W2.heap.size 3 1 v2 (j + 1) (ints ((nats (Rk.upto (Hs.wt ps cs) k)).take j ++ [(k : Int)])) := by rw [ints_app]; exact own2
            have hs2 : W2.heap.size ≤ w2.heap.size := Nat.le_trans hs1 (Nat.le_trans (by simp) hg2.size)
            have hgk2 := (hg2.block g (by simp; omega) (far_block own1' hgl)).trans (((Below.refl _ _).alloc (Nat.le_refl _) _).block g (by omega))
            have HN2 : Hid (∀ (t : Nat) (u : Value), (ints ((nats (Rk.upto (Hs.wt ps cs) k)).drop j))[t]? = some u → w2.cell? ((⟨g, j, none⟩ : Addr).add t) = some u) :=
              news_at (cells_kept (hgk2.trans (hgk1.trans (((Below.refl _ _).alloc (Nat.le_refl _) _).block g hgl))) (own_drop HO.out (by rw [nats_len, hul]) j))
            have HL2 : Hid ((ints ((nats (Rk.upto (Hs.wt ps cs) k)).drop j)).length = (k - j) * 1) := by
              show _ = _
              rw [ints_len, List.length_drop, nats_len, hul]; omega
            have HB2 : Hid (Below w.heap.size w w2) := hide ((hB.alloc hs _).trans ((grownBy_below hg1 hs (by simp; omega)).trans (((Below.refl _ _).alloc (by omega) _).trans (by
              refine ⟨hg2.os, hg2.tape, hg2.output, hg2.size, fun b hb => hg2.block b (by simp; omega) (far_block own1' (by omega))⟩))))
            clear own2 hgk2 hgk1 hg1 hg2 own1'
            go_wp2_with (first
              | (at_builtin; refine wpList_append_own _ rfl _ _ 26 rfl W2.heap.size 3 i0 (.int .i64 0) 1 8 Tryz.underlying26 hi hz0 hz1 hz2 rfl (by decide) _ _ _ rfl own2' ⟨g, j, none⟩ (k - j) (cv - j) (ints ((nats (Rk.upto (Hs.wt ps cs) k)).drop j)) rfl HL2.out HN2.out (int_cells _) (by unfold maxLen; omega) (by omega) hs2 ?_))
            intro v3 w3 own3 hg3 _
            have own3' : w3.ownsRow W2.heap.size 3 1 v3 (k + 1) (ints (nats (Rk.upto (Hs.wt ps cs) (k + 1)))) := by
              rw [HR.out, ints_app]
              have e : j + 1 + (k - j) = k + 1 := by omega
              rw [e] at own3
              exact own3
            clear own3
            go_wp2_with fail
            go_roundw
            case rel => (obtain ⟨a3, c3, e3, _⟩ := own_any7 (by rw [nats_len, Rk.upto_len]) own3'; exact ⟨k + 1, c3, a3, e3, by go_num, by omega, fun h => by omega, owns_base own3' hs, HB2.out.trans ⟨hg3.os, hg3.tape, hg3.output, hg3.size, fun b hb => hg3.block b (by omega) (far_block own2' (by omega))⟩⟩)
            case measure => simp only [intOf]; omega
    · have hke : k = n := by omega
      subst hke
      have hrk : Rk.upto (Hs.wt ps cs) k = Rk.rank (Hs.wt ps cs) := by unfold Rk.rank; rw [HWL.out]
      rw [hrk] at hown
      go_wp2_with fail
      go_ret
      exact ⟨_, rfl, hB, hown⟩
end Go.Proofs.YtlbagigghpiifaaGreat
namespace Go.Proofs.YtlbagigghpiifaaGreat
open Go.RowKit

/-- One number of each of two lists, and all that was there, while an answer is made. -/
theorem two_call {w w1 w2 : World} {ba oa bb ob : Nat} {v1 v2 : Option Value} (ha : ba < w.heap.size) (hb : bb < w.heap.size)
    (s : w1.cell? ⟨ba, oa, none⟩ = v1 ∧ w1.cell? ⟨bb, ob, none⟩ = v2 ∧ Below w.heap.size w w1 ∧ w.heap.size < w1.heap.size) (h : Below w1.heap.size w1 w2) :
    w2.cell? ⟨ba, oa, none⟩ = v1 ∧ w2.cell? ⟨bb, ob, none⟩ = v2 ∧ Below w.heap.size w w2 ∧ w.heap.size < w2.heap.size := by
  obtain ⟨s1, s2, s3, s4⟩ := s
  obtain ⟨hc, _⟩ := bcell h
  exact ⟨(hc _ _ (by omega)).trans s1, (hc _ _ (by omega)).trans s2, s3.trans (h.mono s3.size), Nat.lt_of_lt_of_le s4 h.size⟩
theorem two_set {w w1 : World} {ba oa bb ob i : Nat} {v : Value} {v1 v2 : Option Value} (ha : ba < w.heap.size) (hb : bb < w.heap.size)
    (s : w1.cell? ⟨ba, oa, none⟩ = v1 ∧ w1.cell? ⟨bb, ob, none⟩ = v2 ∧ Below w.heap.size w w1 ∧ w.heap.size < w1.heap.size) :
    (w1.setCell ⟨w.heap.size, i, none⟩ v).cell? ⟨ba, oa, none⟩ = v1 ∧ (w1.setCell ⟨w.heap.size, i, none⟩ v).cell? ⟨bb, ob, none⟩ = v2 ∧ Below w.heap.size w (w1.setCell ⟨w.heap.size, i, none⟩ v) ∧ w.heap.size < (w1.setCell ⟨w.heap.size, i, none⟩ v).heap.size := by
  obtain ⟨s1, s2, s3, s4⟩ := s
  have hc : ∀ x o, x ≠ w.heap.size → (w1.setCell ⟨w.heap.size, i, none⟩ v).cell? ⟨x, o, none⟩ = w1.cell? ⟨x, o, none⟩ := fun x o h => World.cell?_setCell_other _ _ _ _ (fun e => h (by injection e with e1; exact e1.symm))
  exact ⟨(hc _ _ (by omega)).trans s1, (hc _ _ (by omega)).trans s2, s3.setCell (Nat.le_refl _) v, by simpa using s4⟩
/-- The answer's own variable, behind a call. -/
theorem res_new {w w2 : World} {t : TypeId} (hb : Below (w.alloc (.cells #[.int .i64 0, .int .i64 0] t)).drew.heap.size (w.alloc (.cells #[.int .i64 0, .int .i64 0] t)).drew w2) :
    w2.cell? ⟨w.heap.size, 0, none⟩ = some (.int .i64 0) ∧ w2.cell? ⟨w.heap.size, 1, none⟩ = some (.int .i64 0) ∧ w2.frozen? ⟨w.heap.size, 0, none⟩ = false ∧ w2.frozen? ⟨w.heap.size, 1, none⟩ = false :=
  new_var (W := (w.alloc (.cells #[.int .i64 0, .int .i64 0] t)).drew) hb _ _ _ (by simp [go_sem]) (by simp [go_sem]) (by simp [go_sem]) (by simp [go_sem])
theorem res_new' {w w2 : World} {t : TypeId} (hb : Below (w.alloc (.cells #[.int .i64 0, .int .i64 0] t)).heap.size (w.alloc (.cells #[.int .i64 0, .int .i64 0] t)) w2) :
    w2.cell? ⟨w.heap.size, 0, none⟩ = some (.int .i64 0) ∧ w2.cell? ⟨w.heap.size, 1, none⟩ = some (.int .i64 0) ∧ w2.frozen? ⟨w.heap.size, 0, none⟩ = false ∧ w2.frozen? ⟨w.heap.size, 1, none⟩ = false :=
  new_var hb _ _ _ (by simp [go_sem]) (by simp [go_sem]) (by simp [go_sem]) (by simp [go_sem])
/-- The k-th of both lists. -/
theorem at_both {w : World} {a b : Option Addr} {n k : Nat} {fs cs : List Int} (h : Hid (ARow w a fs)) (hn : Hid (fs.length = n)) (h' : Hid (ARow w b cs)) (hs : Hid (Sh.sharedB fs cs = true)) (hk : k < n) :
    ∃ ba oa bb ob, a = some ⟨ba, oa, none⟩ ∧ b = some ⟨bb, ob, none⟩ ∧ ba < w.heap.size ∧ bb < w.heap.size ∧ w.cell? ⟨ba, oa + k, none⟩ = some (.int .i64 (fs.getD k 0)) ∧ w.cell? ⟨bb, ob + k, none⟩ = some (.int .i64 (cs.getD k 0)) ∧
      (1 ≤ fs.getD k 0 ∧ fs.getD k 0 ≤ 30) ∧ (1 ≤ cs.getD k 0 ∧ cs.getD k 0 ≤ 40) := by
  have hm : cs.length = n := by rw [(Sh.sharedB_yes hs.out).2.1]; exact hn.out
  have hk1 : k < fs.length := by rw [hn.out]; exact hk
  have b1 := Sh.flowB_at (Sh.sharedB_yes hs.out).1 hk1
  have b2 := Sh.sharedB_at hs.out hk1
  rcases h.out with e | ⟨ba, oa, rfl, hba, hca⟩
  · rw [e] at hk1; simp at hk1
  rcases h'.out with e | ⟨bb, ob, rfl, hbb, hcb⟩
  · rw [e] at hm; simp at hm; omega
  exact ⟨ba, oa, bb, ob, rfl, rfl, hba, hbb, hca k hk1, hcb k (by omega), b1, b2⟩

set_option maxHeartbeats 1000000 in
theorem gtg_any {a b : Option Addr} {n c d : Nat} {fs cs : List Int} {w : World} (h : Hid (ARow w a fs)) (hn : Hid (fs.length = n)) (h' : Hid (ARow w b cs)) (hs : Hid (Sh.sharedB fs cs = true)) :
    Calls Tryz.prog 61 #[.slice a n c, .slice b n d] w fun e w' => e = .returned (.int .i64 ((Sh.next fs cs : Nat) : Int)) ∧ Below w.heap.size w w' := by
  have e1 : ∀ args w, (callFunc 75 args).run Tryz.prog w = .ok (.enter 75 args) w := enters_of Tryz.func75 (by kernel_rfl) rfl
  have e2 : ∀ args w, (callFunc 76 args).run Tryz.prog w = .ok (.enter 76 args) w := enters_of Tryz.func76 (by kernel_rfl) rfl
  have hl := Sh.flowB_yes (Sh.sharedB_yes hs.out).1
  have hn1 : 0 < n ∧ n ≤ 1000 := by have := hn.out; omega
  have HL : Hid ((Sh.each Sh.gain fs cs).length = n) := hide (by rw [Sh.each_len]; exact hn.out)
  have HG := hide (Sh.gains_good hs.out)
  have HE : Hid (Sh.best Sh.more (Sh.each Sh.gain fs cs) n = Sh.next fs cs) := hide (by unfold Sh.next; rw [hn.out])
  clear hl
  go_enter Tryz.func61, Tryz.ntmps61
  go_wp2_with (first
    | (go_at_call 74; refine (eachK_any Sh.gain e1 (hide fun f c w f0 f1 c0 c1 => gainAt_any f0 f1 c0 c1) h hn h' hs).mono ?_; rintro e w1 ⟨v, rfl, hb1, own1⟩; obtain ⟨g, cap, rfl, g0, g1, row1⟩ := (frow_owns HL.out own1).resolve_left (fun h => by have := h.2; omega); have R1 := hide row1; clear row1 own1)
    | (go_at_call 73; refine (firstB_any Sh.more e2 (hide fun p q w hp hq => more_any hp hq) R1 HL g1 hn1.1 hn1.2 HG).mono ?_; rintro e w2 ⟨rfl, hb2⟩))
  go_ret
  exact ⟨ret_int (by rw [HE.out]), hb1.trans (hb2.mono hb1.size)⟩
set_option maxHeartbeats 2000000 in
theorem sgain_any {a b : Option Addr} {n c d k : Nat} {fs cs : List Int} {w : World} (h : Hid (ARow w a fs)) (hn : Hid (fs.length = n)) (h' : Hid (ARow w b cs)) (hs : Hid (Sh.sharedB fs cs = true)) (hk : k < n) :
    Calls Tryz.prog 54 #[.slice a n c, .slice b n d, .int .i64 (k : Int)] w fun e w' => e = .returned (.agg #[.int .i64 (Sh.gain (fs.getD k 0) (cs.getD k 0)).1, .int .i64 (Sh.gain (fs.getD k 0) (cs.getD k 0)).2]) ∧ Below w.heap.size w w' := by
  obtain ⟨ba, oa, bb, ob, rfl, rfl, hba, hbb, r1, r2, ⟨f0, f1⟩, ⟨c0, c1⟩⟩ := at_both h hn h' hs hk
  have k0 : (0 : Int) ≤ (k : Int) := by omega
  have k1 : (k : Int) < (n : Int) := by omega
  generalize fs.getD k 0 = x at *
  generalize cs.getD k 0 = y at *
  obtain ⟨d0, d1⟩ := Sh.gain_den c0 c1
  have m1 : wrap64 (y * (y + 1)) = y * (y + 1) := wrap_id _ (by omega) (by omega)
  have m0 : wrap64 (y + 1) = y + 1 := wrap_id _ (by omega) (by omega)
  have m1' : IntKind.i64.wrap (y * (y + 1)) = y * (y + 1) := by rw [IntKind.wrap_i64]; omega
  have m0' : IntKind.i64.wrap (y + 1) = y + 1 := by rw [IntKind.wrap_i64]; omega
  have hb0 : Below w.heap.size w (w.alloc (.cells #[.int .i64 0, .int .i64 0] 89)) := (Below.refl _ _).alloc (Nat.le_refl _) _
  have q1 := (hb0.cell (p := ⟨ba, oa + k, none⟩) hba).trans r1
  have q2 := (hb0.cell (p := ⟨bb, ob + k, none⟩) hbb).trans r2
  show Calls Tryz.prog 54 _ w fun e w' => e = .returned (.agg #[.int .i64 (Fr.mkN x (y * (y + 1))), .int .i64 (Fr.mkD x (y * (y + 1)))]) ∧ Below w.heap.size w w'
  go_enter Tryz.func54, Tryz.ntmps54
  go_wp2_with fail
  go_region_held3 (fun w' => w'.cell? ⟨ba, oa + k, none⟩ = some (.int .i64 x) ∧ w'.cell? ⟨bb, ob + k, none⟩ = some (.int .i64 y) ∧ Below w.heap.size w w' ∧ w.heap.size < w'.heap.size)
    (first | exact ⟨q1, q2, hb0.drew, by simp⟩ | assumption | exact two_call hba hbb ‹_› (by assumption) | exact two_set hba hbb (two_set hba hbb ‹_›) | fail)
    (first | (go_at_call 68; refine (make_pos x (y * (y + 1)) _ (by omega) (by omega) d0 (by omega)).mono ?_; rintro e w3 ⟨rfl, hb3⟩; obtain ⟨c4, c5, g4, g5⟩ := res_new hb3) | fail)
  obtain ⟨_, _, hB, _⟩ := ‹_ ∧ _ ∧ _ ∧ _›
  go_wp2_with fail
  exact bodyPost_ret (v := .agg #[.int .i64 (Fr.mkN x (y * (y + 1))), .int .i64 (Fr.mkD x (y * (y + 1)))]) (by simp [results, Tryz.results54, go_sem, c4, c5]) rfl ⟨rfl, hB⟩
set_option maxHeartbeats 2000000 in
theorem snext_any {a b : Option Addr} {n c d : Nat} {fs cs : List Int} {w : World} (h : Hid (ARow w a fs)) (hn : Hid (fs.length = n)) (h' : Hid (ARow w b cs)) (hs : Hid (Sh.sharedB fs cs = true)) :
    Calls Tryz.prog 37 #[.slice a n c, .slice b n d] w fun e w' => e = .returned (.int .i64 ((Sh.next fs cs : Nat) : Int)) ∧ Below w.heap.size w w' := by
  have hl := Sh.flowB_yes (Sh.sharedB_yes hs.out).1
  have hn1 : 0 < n ∧ n ≤ 1000 := by have := hn.out; omega
  clear hl
  have HL : Hid ((Sh.each Sh.gain fs cs).length = n) := hide (by rw [Sh.each_len]; exact hn.out)
  have HE : Hid (Sh.best Sh.more (Sh.each Sh.gain fs cs) n = Sh.next fs cs) := hide (by unfold Sh.next; rw [hn.out])
  have HG := hide (Sh.gains_good hs.out)
  obtain ⟨n0, n8⟩ := hn1
  go_enter Tryz.func37, Tryz.ntmps37
  go_wp2_with fail
  go_loopw [5, 6, 9] (fun s5 _ s wr => ∃ k m : Nat, s5 = .int .i64 m ∧ s = .int .i64 k ∧ k ≤ n ∧ m < n ∧ Hid (m = Sh.best Sh.more (Sh.each Sh.gain fs cs) k) ∧ Below w.heap.size w wr) (fun _ _ s _ => n - (intOf s).toNat)
  case atStart => exact ⟨0, 0, rfl, rfl, Nat.zero_le _, n0, hide rfl, Below.refl _ _⟩
  case round =>
    obtain ⟨k, m, rfl, rfl, hk, hmn, HM, hB⟩ := hrel
    by_cases hlt : k < n
    · have HS : Hid (Sh.best Sh.more (Sh.each Sh.gain fs cs) (k + 1) = if Sh.less (Sh.gain (fs.getD m 0) (cs.getD m 0)) (Sh.gain (fs.getD k 0) (cs.getD k 0)) = true then k else m) := hide (by rw [Sh.best, ← HM.out, Sh.each_at _ _ _ (by rw [hn.out]; exact hlt), Sh.each_at _ _ _ (by rw [hn.out]; exact hmn)]; rfl)
      have HG1 := HG.out k (by rw [HL.out]; exact hlt)
      have HG2 := HG.out m (by rw [HL.out]; exact hmn)
      rw [Sh.each_at _ _ _ (by rw [hn.out]; exact hlt)] at HG1
      rw [Sh.each_at _ _ _ (by rw [hn.out]; exact hmn)] at HG2
      have HC1 := hide (sgain_any (c := c) (d := d) (hide (h.out.below hB)) hn (hide (h'.out.below hB)) hs hmn)
      have HC2 := hide (fun w1 (hb1 : Below wr.heap.size wr w1) => sgain_any (c := c) (d := d) (hide ((h.out.below hB).below hb1)) hn (hide ((h'.out.below hB).below hb1)) hs hlt)
      generalize Sh.gain (fs.getD m 0) (cs.getD m 0) = p at *
      generalize Sh.gain (fs.getD k 0) (cs.getD k 0) = q at *
      have HL3 := hide (fun w' => sless_any (w := w') HG2 HG1)
      clear HG1 HG2
      cases hc : Sh.less p q
      · rw [hc] at HL3
        have HN : Hid (m = Sh.best Sh.more (Sh.each Sh.gain fs cs) (k + 1)) := hide (by rw [HS.out, hc]; rfl)
        clear hc HS
        go_wp2_with fail
        refine HC1.out.mono ?_
        rintro e w1 ⟨rfl, hb1⟩
        go_wp2_with fail
        refine (HC2.out w1 hb1).mono ?_
        rintro e w2 ⟨rfl, hb2⟩
        go_wp2_with fail
        refine (HL3.out w2).mono ?_
        rintro e w3 ⟨rfl, hb3⟩
        have hB3 := ((hB.trans (hb1.mono hB.size)).trans (hb2.mono (Nat.le_trans hB.size hb1.size))).trans (hb3.mono (Nat.le_trans (Nat.le_trans hB.size hb1.size) hb2.size))
        go_wp2_with fail
        go_roundw
        case rel => exact ⟨k + 1, m, rfl, by go_num, by omega, hmn, HN, hB3⟩
        case measure => simp only [intOf]; omega
      · rw [hc] at HL3
        have HN : Hid (k = Sh.best Sh.more (Sh.each Sh.gain fs cs) (k + 1)) := hide (by rw [HS.out, hc]; rfl)
        clear hc HS
        go_wp2_with fail
        refine HC1.out.mono ?_
        rintro e w1 ⟨rfl, hb1⟩
        go_wp2_with fail
        refine (HC2.out w1 hb1).mono ?_
        rintro e w2 ⟨rfl, hb2⟩
        go_wp2_with fail
        refine (HL3.out w2).mono ?_
        rintro e w3 ⟨rfl, hb3⟩
        have hB3 := ((hB.trans (hb1.mono hB.size)).trans (hb2.mono (Nat.le_trans hB.size hb1.size))).trans (hb3.mono (Nat.le_trans (Nat.le_trans hB.size hb1.size) hb2.size))
        go_wp2_with fail
        go_roundw
        case rel => exact ⟨k + 1, k, rfl, by go_num, by omega, hlt, HN, hB3⟩
        case measure => simp only [intOf]; omega
    · have hke : k = n := by omega
      subst hke
      go_wp2_with fail
      go_ret
      exact ⟨ret_int (by rw [HM.out, HE.out]), hB⟩
def nextN (fs cs : List Int) : Int := if Sh.sharedB fs cs = true then ((Sh.next fs cs : Nat) : Int) else 0
theorem shared_len {fs cs : List Int} {n m : Nat} (hn : Hid (fs.length = n)) (hm : Hid (cs.length = m)) (hs : Sh.sharedB fs cs = true) : m = n := by
  have := (Sh.sharedB_yes hs).2.1; have := hn.out; have := hm.out; omega
end Go.Proofs.YtlbagigghpiifaaGreat
namespace Go.Proofs.YtlbagigghpiifaaGreat
open Go.RowKit

def gainB (fs cs : List Int) (k : Int) : Bool := Sh.sharedB fs cs && Pf.inB k 0 ((fs.length : Int) - 1)
def gainF (fs cs : List Int) (k : Int) : Int × Int := if gainB fs cs k = true then Sh.gain (fs.getD k.toNat 0) (cs.getD k.toNat 0) else (0, 0)
def fb (p : Int × Int) (b : Bool) : Value := .tuple #[.agg #[.int .i64 p.1, .int .i64 p.2], .bool b]
theorem fb_eq (p : Int × Int) (b : Bool) : fb p b = .tuple #[.agg #[.int .i64 p.1, .int .i64 p.2], .bool b] := rfl
theorem below_up {w wr w2 : World} {o : Obj} (HB : Below (w.heap.size + 1) (w.alloc o) wr) (hb : Below wr.heap.size wr w2) (hs : w.heap.size + 1 ≤ wr.heap.size) : Below (w.alloc o).heap.size (w.alloc o) w2 := by
  have e : (w.alloc o).heap.size = w.heap.size + 1 := by simp
  rw [e]; exact HB.trans (hb.mono hs)


def costB (fs cs : List Int) : Bool := Sh.sharedB fs cs && Fr.sumB (Sh.each Sh.cost fs cs)
def costF (fs cs : List Int) : Int × Int := if Sh.sharedB fs cs = true then (Fr.sumN (Sh.each Sh.cost fs cs), Fr.sumD (Sh.each Sh.cost fs cs)) else (0, 0)
end Go.Proofs.YtlbagigghpiifaaGreat
namespace Go.Proofs.YtlbagigghpiifaaGreat
open Go.RowKit

namespace Hs
def trB (ps cs ws os : List Int) : Bool := dayB ps cs ws && fitB cs os
def trF (ps cs ws os : List Int) : Int × Int := if trB ps cs ws os = true then (Fr.sumN (farL ps cs ws os), Fr.sumD (farL ps cs ws os)) else (0, 0)
def trG (ps cs ws os : List Int) : Bool := trB ps cs ws os && Fr.sumB (farL ps cs ws os)
theorem tr_yes {ps cs ws os : List Int} {n m : Nat} (hm : cs.length = m) (hn : ws.length = n) (h : trB ps cs ws os = true) : ps.length = m ∧ os.length = n ∧ n ≤ 10 ∧ m ≤ 8 ∧ (∀ i, i < m → 1 ≤ ps.getD i 0 ∧ ps.getD i 0 ≤ 30) ∧ (∀ i, i < m → 1 ≤ cs.getD i 0 ∧ cs.getD i 0 ≤ 10) ∧ (∀ i, i < n → 0 ≤ ws.getD i 0 ∧ ws.getD i 0 ≤ 1000) ∧ (∀ i, i < n → 0 ≤ os.getD i 0 ∧ os.getD i 0 < (m : Int)) := by
  rw [trB, Bool.and_eq_true] at h
  obtain ⟨h1, h2⟩ := h
  obtain ⟨f1, f2, f3⟩ := day_yes h1
  obtain ⟨c1, c2, c3, c4⟩ := slotsB_yes f3
  have hl := fit_len h2
  have h8 := (cntB_yes c1).2.1
  have hq : os.length = n := by omega
  refine ⟨by omega, hq, by omega, by omega, fun i hi => Sh.flowB_at f1 (by omega), fun i hi => cntB_at c1 (by omega), fun i hi => Pf.inB_yes (Pf.allB_get c3 (by omega)), fun i hi => ?_⟩
  have := fit_at h2 (i := i) (by omega)
  omega
end Hs
/-- The answer's variable, behind whatever was laid since. -/
theorem res17 {w W1 : World} {o : Obj} {t : TypeId} (h : Below ((w.alloc (.cells #[.int .i64 0, .int .i64 0] t)).alloc o).heap.size ((w.alloc (.cells #[.int .i64 0, .int .i64 0] t)).alloc o) W1) :
    W1.cell? ⟨w.heap.size, 0, none⟩ = some (.int .i64 0) ∧ W1.cell? ⟨w.heap.size, 1, none⟩ = some (.int .i64 0) ∧ W1.frozen? ⟨w.heap.size, 0, none⟩ = false ∧ W1.frozen? ⟨w.heap.size, 1, none⟩ = false := by
  have hz : w.heap.size < (w.alloc (.cells #[.int .i64 0, .int .i64 0] t)).heap.size := by simp
  have hb := (below_new (w.alloc (.cells #[.int .i64 0, .int .i64 0] t)) o).trans (h.mono (by simp))
  exact ⟨(hb.cell (p := ⟨w.heap.size, 0, none⟩) hz).trans (by simp [go_sem]), (hb.cell (p := ⟨w.heap.size, 1, none⟩) hz).trans (by simp [go_sem]), (hb.frozen (p := ⟨w.heap.size, 0, none⟩) hz).trans (by simp [go_sem]), (hb.frozen (p := ⟨w.heap.size, 1, none⟩) hz).trans (by simp [go_sem])⟩
theorem below_res17 {w W1 : World} {o : Obj} {t : TypeId} (h : Below ((w.alloc (.cells #[.int .i64 0, .int .i64 0] t)).alloc o).heap.size ((w.alloc (.cells #[.int .i64 0, .int .i64 0] t)).alloc o) W1) (u v : Value) :
    Below w.heap.size w ((W1.setCell ⟨w.heap.size, 0, none⟩ u).setCell ⟨w.heap.size, 1, none⟩ v) := by
  have b1 := below_new w (.cells #[.int .i64 0, .int .i64 0] t)
  have hb := b1.trans (((below_new (w.alloc (.cells #[.int .i64 0, .int .i64 0] t)) o).trans (h.mono (by simp))).mono b1.size)
  exact (hb.setCell (p := ⟨w.heap.size, 0, none⟩) (Nat.le_refl _) u).setCell (p := ⟨w.heap.size, 1, none⟩) (Nat.le_refl _) v
end Go.Proofs.YtlbagigghpiifaaGreat
namespace Go.Proofs.YtlbagigghpiifaaGreat
open Go.RowKit

end Go.Proofs.YtlbagigghpiifaaGreat
namespace Go.Proofs.YtlbagigghpiifaaGreat
open Go.RowKit

/-- The byte at a place, as a number. -/
def byteI (s : ByteArray) (i : Nat) : Int := ((s.data[i]?.getD 0).toNat : Int)
def letB (b : Int) : Bool := decide (97 ≤ b) && decide (b ≤ 122)
/-- One to eight letters a to z. -/
def nameB (s : ByteArray) : Bool := Pf.inB (s.size : Int) 1 8 && (List.range s.size).all fun i => letB (byteI s i)
theorem nameB_at {s : ByteArray} (h : nameB s = true) {i : Nat} (hi : i < s.size) : letB (byteI s i) = true := by
  simp only [nameB, Bool.and_eq_true] at h
  exact List.all_eq_true.1 h.2 i (by simpa using hi)
theorem nameB_of {s : ByteArray} (h1 : Pf.inB (s.size : Int) 1 8 = true) (h : ∀ i, i < s.size → letB (byteI s i) = true) : nameB s = true := by
  simp only [nameB, Bool.and_eq_true]
  exact ⟨h1, List.all_eq_true.2 fun i hi => h i (by simpa using hi)⟩
theorem nameB_len {s : ByteArray} (h : Pf.inB (s.size : Int) 1 8 = false) : nameB s = false := by simp [nameB, h]
theorem nameB_not {s : ByteArray} {i : Nat} (hi : i < s.size) (h : letB (byteI s i) = false) : nameB s = false := by
  cases e : nameB s
  · rfl
  · rw [nameB_at e hi] at h; cases h
theorem byte_get {s : ByteArray} {i : Nat} (hi : i < s.size) : ((s[i]'hi).toNat : Int) = byteI s i := by
  unfold byteI
  rw [Array.getElem?_eq_getElem (show i < s.data.size from hi)]
  rfl

theorem ix_run {s : ByteArray} {k : Nat} (hk : k < s.size) (W : World) : (Instr.index 9 (.string s) (.int .i64 (k : Int))).run Tryz.prog W = .ok (.int .u8 (byteI s k)) W := by
  rw [run_index_string W 9 s .i64 (k : Int) Tryz.underlying9, dif_pos ⟨by omega, by omega⟩]
  congr 2
  exact byte_get hk

set_option maxHeartbeats 1000000 in
theorem isName_any (s : ByteArray) (w : World) (hs : s.size ≤ 4000000000000) :
    Calls Tryz.prog 69 #[.string s] w fun e w' => e = .returned (.bool (nameB s)) ∧ w' = w := by
  cases hl : Pf.inB (s.size : Int) 1 8
  · have HN := hide (nameB_len hl)
    go_enter Tryz.func69, Tryz.ntmps69
    go_wp2_with ((go_at_call 60; refine (between_eq hl).mono ?_; rintro e w1 ⟨rfl, rfl⟩))
    go_ret
    exact ⟨ret_bool HN.out.symm, rfl⟩
  · have HL := hide hl
    go_enter Tryz.func69, Tryz.ntmps69
    go_wp2_with ((go_at_call 60; refine (between_eq hl).mono ?_; rintro e w1 ⟨rfl, hw1⟩; subst hw1))
    go_loop [2, 3, 10] (fun s2 _ t => ∃ k : Nat, s2 = .bool false ∧ t = .int .i64 k ∧ k ≤ s.size ∧ Hid (∀ i, i < k → letB (byteI s i) = true)) (fun _ _ t => s.size - (intOf t).toNat)
    case atStart => exact ⟨0, rfl, rfl, Nat.zero_le _, hide fun i hi => absurd hi (Nat.not_lt_zero _)⟩
    case round =>
      obtain ⟨k, rfl, rfl, hk, HA⟩ := hrel
      by_cases hlt : k < s.size
      · have i0 : (0 : Int) ≤ (k : Int) := by omega
        have i1 : (k : Int) < (s.size : Int) := by omega
        have hix := ix_run hlt
        generalize hx : byteI s k = x at hix
        cases hb : letB x
        · have HN := hide (nameB_not hlt (by rw [hx]; exact hb))
          clear hx
          by_cases h97 : x < 97
          · go_wp2_with fail
            go_ret
            exact ⟨ret_bool HN.out.symm, rfl⟩
          · have h122 : 122 < x := by simp [letB] at hb; omega
            go_wp2_with fail
            go_ret
            exact ⟨ret_bool HN.out.symm, rfl⟩
        · have HY : Hid (∀ i, i < k + 1 → letB (byteI s i) = true) := hide fun i hi => by
            by_cases e : i = k
            · subst e; rw [hx]; exact hb
            · exact HA.out i (by omega)
          have hb' : 97 ≤ x ∧ x ≤ 122 := by simpa [letB] using hb
          obtain ⟨g1, g2⟩ := hb'
          have h97 : ¬ x < 97 := by omega
          have h122 : ¬ 122 < x := by omega
          clear hx hb
          go_wp2_with fail
          go_round
          case rel => exact ⟨k + 1, rfl, by go_num, by omega, HY⟩
          case measure => simp only [intOf]; omega
      · have hke : k = s.size := by omega
        subst hke
        have HY := hide (nameB_of HL.out HA.out)
        go_wp2_with fail
        go_ret
        exact ⟨ret_bool HY.out.symm, rfl⟩

set_option maxHeartbeats 1000000 in
theorem l3Name_any (s : ByteArray) (w : World) (hs : s.size ≤ 4000000000000) :
    Calls Tryz.prog 84 #[.string s] w fun e w' => e = .returned (.bool (nameB s)) ∧ w' = w := by
  go_enter Tryz.func84, Tryz.ntmps84
  go_wp2_with fail
  go_loop [2, 3] (fun s2 t => ∃ k : Nat, s2 = .bool false ∧ t = .int .i64 k ∧ k ≤ s.size ∧ Hid (∀ i, i < k → letB (byteI s i) = true)) (fun _ t => s.size - (intOf t).toNat)
  case atStart => exact ⟨0, rfl, rfl, Nat.zero_le _, hide fun i hi => absurd hi (Nat.not_lt_zero _)⟩
  case round =>
    obtain ⟨k, rfl, rfl, hk, HA⟩ := hrel
    by_cases hlt : k < s.size
    · have i0 : (0 : Int) ≤ (k : Int) := by omega
      have i1 : (k : Int) < (s.size : Int) := by omega
      have hix := ix_run hlt
      generalize hx : byteI s k = x at hix
      cases hb : letB x
      · have HN := hide (nameB_not hlt (by rw [hx]; exact hb))
        clear hx
        by_cases h97 : x < 97
        · go_wp2_with fail
          go_ret
          exact ⟨ret_bool HN.out.symm, rfl⟩
        · have h122 : 122 < x := by simp [letB] at hb; omega
          go_wp2_with fail
          go_ret
          exact ⟨ret_bool HN.out.symm, rfl⟩
      · have HY : Hid (∀ i, i < k + 1 → letB (byteI s i) = true) := hide fun i hi => by
          by_cases e : i = k
          · subst e; rw [hx]; exact hb
          · exact HA.out i (by omega)
        have hb' : 97 ≤ x ∧ x ≤ 122 := by simpa [letB] using hb
        obtain ⟨g1, g2⟩ := hb'
        have h97 : ¬ x < 97 := by omega
        have h122 : ¬ 122 < x := by omega
        clear hx hb
        go_wp2_with fail
        go_round
        case rel => exact ⟨k + 1, rfl, by go_num, by omega, HY⟩
        case measure => simp only [intOf]; omega
    · have hke : k = s.size := by omega
      subst hke
      cases hl : Pf.inB (s.size : Int) 1 8
      · have HN := hide (nameB_len hl)
        go_wp2_with ((go_at_call 36; refine (in_eq hl).mono ?_; rintro e w1 ⟨rfl, rfl⟩))
        go_ret
        exact ⟨ret_bool HN.out.symm, rfl⟩
      · have HY := hide (nameB_of hl HA.out)
        go_wp2_with ((go_at_call 36; refine (in_eq hl).mono ?_; rintro e w1 ⟨rfl, rfl⟩))
        go_ret
        exact ⟨ret_bool HY.out.symm, rfl⟩
end Go.Proofs.YtlbagigghpiifaaGreat
namespace Go.Proofs.YtlbagigghpiifaaGreat
open Go.RowKit

abbrev Gd := ByteArray × Int
def gd0 : Gd := (⟨#[]⟩, 0)
/-- A slice of goods, wherever it lies. -/
def GRow (w : World) (a : Option Addr) (gs : List Gd) : Prop := gs = [] ∨ ∃ b off, a = some ⟨b, off, none⟩ ∧ b < w.heap.size ∧ ∀ i, i < gs.length → w.cell? ⟨b, off + i * 2, none⟩ = some (.string (gs.getD i gd0).1) ∧ w.cell? ⟨b, off + i * 2 + 1, none⟩ = some (.int .i64 (gs.getD i gd0).2)
theorem GRow.keep {w w' : World} {a : Option Addr} {gs : List Gd} (h : GRow w a gs) (hs : w.heap.size ≤ w'.heap.size) (hB : ∀ b, b < w.heap.size → w'.heap[b]? = w.heap[b]?) : GRow w' a gs := by
  rcases h with h | ⟨b, off, ha, hb, hc⟩
  · exact Or.inl h
  · exact Or.inr ⟨b, off, ha, Nat.lt_of_lt_of_le hb hs, fun i hi => ⟨(World.cell?_of_block (w := w) (a := ⟨b, off + i * 2, none⟩) (hB b hb)).trans (hc i hi).1, (World.cell?_of_block (w := w) (a := ⟨b, off + i * 2 + 1, none⟩) (hB b hb)).trans (hc i hi).2⟩⟩
theorem GRow.below {w w' : World} {a : Option Addr} {gs : List Gd} (h : GRow w a gs) (hB : Below w.heap.size w w') : GRow w' a gs := h.keep hB.size hB.block
theorem GRow.at {w : World} {a : Option Addr} {gs : List Gd} (h : GRow w a gs) {i : Nat} (hi : i < gs.length) : ∃ b off, a = some ⟨b, off, none⟩ ∧ b < w.heap.size ∧ w.cell? ⟨b, off + i * 2, none⟩ = some (.string (gs.getD i gd0).1) ∧ w.cell? ⟨b, off + i * 2 + 1, none⟩ = some (.int .i64 (gs.getD i gd0).2) := by
  rcases h with h | ⟨b, off, ha, hb, hc⟩
  · rw [h] at hi; simp at hi
  · exact ⟨b, off, ha, hb, hc i hi⟩
theorem GRow.take {w : World} {a : Option Addr} {gs : List Gd} (h : GRow w a gs) (k : Nat) : GRow w a (gs.take k) := by
  rcases h with h | ⟨b, off, ha, hb, hc⟩
  · left; rw [h]; simp
  · exact Or.inr ⟨b, off, ha, hb, fun i hi => by
      simp only [List.length_take] at hi
      have e : (gs.take k).getD i gd0 = gs.getD i gd0 := by simp [show i < k by omega]
      rw [e]; exact hc i (by omega)⟩
/-- Whether one of them has the name. -/
def hasB (gs : List Gd) (s : ByteArray) : Bool := gs.any fun g => g.1.toList == s.toList
theorem hasB_of {gs : List Gd} {s : ByteArray} {i : Nat} (hi : i < gs.length) (h : ((gs.getD i gd0).1.toList == s.toList) = true) : hasB gs s = true := by
  refine List.any_eq_true.2 ⟨gs.getD i gd0, ?_, h⟩
  rw [Pf.getD_lt _ _ hi]; exact List.getElem_mem hi
theorem hasB_no {gs : List Gd} {s : ByteArray} (h : ∀ i, i < gs.length → ((gs.getD i gd0).1.toList == s.toList) = false) : hasB gs s = false := by
  cases e : hasB gs s
  · rfl
  · obtain ⟨g, hg, hg'⟩ := List.any_eq_true.1 e
    obtain ⟨i, hi, rfl⟩ := List.getElem_of_mem hg
    have := h i hi
    rw [Pf.getD_lt _ _ hi, hg'] at this; cases this

/-- The number of the first good of a name, -1 where there is none. -/
def fnd (gs : List Gd) (s : ByteArray) : Nat := gs.findIdx fun g => g.1.toList == s.toList
def fndI (gs : List Gd) (s : ByteArray) : Int := if fnd gs s < gs.length then (fnd gs s : Int) else -1
theorem fndI_at {gs : List Gd} {s : ByteArray} {k : Nat} (hk : k < gs.length) (h : ((gs.getD k gd0).1.toList == s.toList) = true) (ha : ∀ i, i < k → ((gs.getD i gd0).1.toList == s.toList) = false) : fndI gs s = k := by
  have e : fnd gs s = k := by
    unfold fnd
    refine (List.findIdx_eq hk).2 ⟨?_, fun j hj => ?_⟩
    · simpa [hk] using h
    · have hj' : j < gs.length := by omega
      simpa [hj'] using ha j hj
  rw [fndI, e, if_pos hk]
theorem fndI_no {gs : List Gd} {s : ByteArray} (h : ∀ i, i < gs.length → ((gs.getD i gd0).1.toList == s.toList) = false) : fndI gs s = -1 := by
  have e : fnd gs s = gs.length := by
    unfold fnd
    refine List.findIdx_eq_length.2 fun x hx => ?_
    obtain ⟨i, hi, rfl⟩ := List.getElem_of_mem hx
    simpa [hi] using h i hi
  rw [fndI, e, if_neg (Nat.lt_irrefl _)]
theorem fndI_has (gs : List Gd) (s : ByteArray) : decide (0 ≤ fndI gs s) = hasB gs s := by
  unfold fndI fnd hasB
  by_cases h : (gs.findIdx fun g => g.1.toList == s.toList) < gs.length
  · rw [if_pos h]
    have h2 : (gs.any fun g => g.1.toList == s.toList) = true := List.any_eq_true.2 ⟨_, List.getElem_mem h, List.findIdx_getElem (w := h)⟩
    rw [h2]; exact decide_eq_true (Int.natCast_nonneg _)
  · rw [if_neg h]
    have h2 : (gs.any fun g => g.1.toList == s.toList) = false := by
      cases e : (gs.any fun g => g.1.toList == s.toList)
      · rfl
      · obtain ⟨x, hx, hp⟩ := List.any_eq_true.1 e
        exact absurd (List.findIdx_lt_length_of_exists (p := fun g : Gd => g.1.toList == s.toList) ⟨x, hx, hp⟩) h
    rw [h2]; rfl
theorem fndI_lt (gs : List Gd) (s : ByteArray) : -1 ≤ fndI gs s ∧ fndI gs s < gs.length ∨ fndI gs s = -1 := by
  unfold fndI
  by_cases h : fnd gs s < gs.length
  · rw [if_pos h]; left; omega
  · rw [if_neg h]; right; rfl

set_option maxHeartbeats 1000000 in
theorem same_any (s t : ByteArray) (z : Int) (B : Nat) (w : World) (hB : w.cell? ⟨B, 0, none⟩ = some (.string t)) (hl : B < w.heap.size) :
    Calls Tryz.prog 93 #[.agg #[.string s, .int .i64 z], .pointer (some ⟨B, 0, none⟩)] w fun e w' => e = .returned (.bool (s.toList == t.toList)) ∧ Below w.heap.size w w' := by
  have hc : ∀ o : Obj, (w.alloc o).cell? ⟨B, 0, none⟩ = some (.string t) := fun o => ((((Below.refl _ _).alloc (Nat.le_refl _) o)).cell (p := ⟨B, 0, none⟩) hl).trans hB
  go_enter Tryz.func93, Tryz.ntmps93
  go_wp2_with fail
  go_ret
  exact ⟨rfl, (Below.refl _ _).alloc (Nat.le_refl _) _⟩

set_option maxHeartbeats 2000000 in
theorem index_any {a : Option Addr} {n c B : Nat} {gs : List Gd} {t : ByteArray} {w : World} (hn : gs.length = n) (hn' : n ≤ 1048576) (h : GRow w a gs) (hB : w.cell? ⟨B, 0, none⟩ = some (.string t)) (hl : B < w.heap.size) :
    Calls Tryz.prog 92 #[.slice a n c, .func (.func 93) #[] #[.pointer (some ⟨B, 0, none⟩)]] w fun e w' => e = .returned (.int .i64 (fndI gs t)) ∧ Below w.heap.size w w' := by
  have H := hide h
  have HN := hide hn
  have HB := hide hB
  have eg : ∀ args w, (callFunc 93 args).run Tryz.prog w = .ok (.enter 93 args) w := enters_of Tryz.func93 (by kernel_rfl) rfl
  clear h hn hB
  go_enter Tryz.func92, Tryz.ntmps92
  go_wp2_with fail
  go_loopw [4, 5, 8] (fun _ _ s wr => ∃ k : Nat, s = .int .i64 k ∧ k ≤ n ∧ Hid (∀ i, i < k → ((gs.getD i gd0).1.toList == t.toList) = false) ∧ Hid (Below w.heap.size w wr)) (fun _ _ s _ => n - (intOf s).toNat)
  case atStart => exact ⟨0, rfl, Nat.zero_le _, hide fun i hi => absurd hi (Nat.not_lt_zero _), hide (Below.refl _ _)⟩
  case round =>
    obtain ⟨k, rfl, hk, HA, HBl⟩ := hrel
    by_cases hlt : k < n
    · obtain ⟨b, off, rfl, hb, r1, r2⟩ := (H.out.below HBl.out).at (i := k) (by rw [HN.out]; exact hlt)
      have i0 : (0 : Int) ≤ (k : Int) := by omega
      have i1 : (k : Int) < (n : Int) := by omega
      have hcB : wr.cell? ⟨B, 0, none⟩ = some (.string t) := (HBl.out.cell (p := ⟨B, 0, none⟩) hl).trans HB.out
      have hlB : B < wr.heap.size := Nat.lt_of_lt_of_le hl HBl.out.size
      generalize hx : (gs.getD k gd0).1 = x at r1
      generalize (gs.getD k gd0).2 = z at r2
      have hcall := hide (same_any x t z B wr hcB hlB)
      cases he : (x.toList == t.toList)
      · have HY : Hid (∀ i, i < k + 1 → ((gs.getD i gd0).1.toList == t.toList) = false) := hide fun i hi => by
          by_cases e : i = k
          · subst e; rw [hx]; exact he
          · exact HA.out i (by omega)
        rw [he] at hcall
        clear hx hcB he
        go_wp2_with (go_at_fn 93; refine hcall.out.mono ?_; rintro e w1 ⟨rfl, hb1⟩)
        go_roundw
        case rel => exact ⟨k + 1, by go_num, by omega, HY, hide (HBl.out.trans (hb1.mono HBl.out.size))⟩
        case measure => simp only [intOf]; omega
      · have HY := hide (fndI_at (gs := gs) (s := t) (k := k) (by rw [HN.out]; exact hlt) (by rw [hx]; exact he) HA.out)
        rw [he] at hcall
        clear hx hcB he
        go_wp2_with (go_at_fn 93; refine hcall.out.mono ?_; rintro e w1 ⟨rfl, hb1⟩)
        go_ret
        exact ⟨by rw [HY.out]; rfl, HBl.out.trans (hb1.mono HBl.out.size)⟩
    · have hke : k = n := by omega
      subst hke
      have HY := hide (fndI_no (gs := gs) (s := t) (fun i hi => HA.out i (by rw [← HN.out]; exact hi)))
      go_wp2_with fail
      go_ret
      exact ⟨by rw [HY.out]; rfl, HBl.out⟩
set_option maxHeartbeats 1000000 in
theorem number_any {a : Option Addr} {n c : Nat} {gs : List Gd} {t : ByteArray} {w : World} (hn : gs.length = n) (hn' : n ≤ 1048576) (h : GRow w a gs) :
    Calls Tryz.prog 86 #[.slice a n c, .string t] w fun e w' => e = .returned (.int .i64 (fndI gs t)) ∧ Below w.heap.size w w' := by
  have bn := (Below.refl w.heap.size w).alloc (Nat.le_refl _) (.cells #[.string t] 9)
  have H := hide (index_any (c := c) (B := w.heap.size) (t := t) hn hn' (h.below bn) (by simp [go_sem]) (by simp))
  clear h hn
  go_enter Tryz.func86, Tryz.ntmps86
  go_wp2_with (go_at_call 92; refine H.out.mono ?_; rintro e w1 ⟨rfl, hb1⟩)
  go_ret
  exact ⟨rfl, bn.trans (hb1.mono (by simp))⟩
set_option maxHeartbeats 1000000 in
theorem hasName_any {a : Option Addr} {n c : Nat} {gs : List Gd} {t : ByteArray} {w : World} (hn : gs.length = n) (hn' : n ≤ 1048576) (h : GRow w a gs) :
    Calls Tryz.prog 70 #[.slice a n c, .string t] w fun e w' => e = .returned (.bool (hasB gs t)) ∧ Below w.heap.size w w' := by
  have H := hide (number_any (c := c) (t := t) hn hn' h)
  have HH := hide (fndI_has gs t)
  clear h hn
  generalize fndI gs t = F at H HH
  go_enter Tryz.func70, Tryz.ntmps70
  go_wp2_with (go_at_call 86; refine H.out.mono ?_; rintro e w1 ⟨rfl, hb1⟩)
  go_ret
  exact ⟨by rw [← HH.out]; rfl, hb1⟩
end Go.Proofs.YtlbagigghpiifaaGreat
namespace Go.Proofs.YtlbagigghpiifaaGreat
open Go.RowKit

def okG (gs : List Gd) (i : Nat) : Bool := nameB (gs.getD i gd0).1 && (Pf.inB (gs.getD i gd0).2 1 100 && !hasB (gs.take i) (gs.getD i gd0).1)
def goodsB (gs : List Gd) : Bool := decide (gs.length ≤ 12) && (List.range gs.length).all fun i => okG gs i
theorem goodsB_len {gs : List Gd} (h : goodsB gs = true) : gs.length ≤ 12 := by
  simp only [goodsB, Bool.and_eq_true, decide_eq_true_eq] at h; exact h.1
theorem goodsB_at {gs : List Gd} (h : goodsB gs = true) {i : Nat} (hi : i < gs.length) : okG gs i = true := by
  simp only [goodsB, Bool.and_eq_true] at h
  exact List.all_eq_true.1 h.2 i (by simpa using hi)
theorem goodsB_of {gs : List Gd} (h1 : gs.length ≤ 12) (h : ∀ i, i < gs.length → okG gs i = true) : goodsB gs = true := by
  simp only [goodsB, Bool.and_eq_true, decide_eq_true_eq]
  exact ⟨h1, List.all_eq_true.2 fun i hi => h i (by simpa using hi)⟩
theorem goodsB_many {gs : List Gd} (h : 12 < gs.length) : goodsB gs = false := by simp [goodsB, show ¬ gs.length ≤ 12 by omega]
theorem goodsB_not {gs : List Gd} {i : Nat} (hi : i < gs.length) (h : okG gs i = false) : goodsB gs = false := by
  cases e : goodsB gs
  · rfl
  · rw [goodsB_at e hi] at h; cases h
theorem okG_n1 {gs : List Gd} {i : Nat} (h : nameB (gs.getD i gd0).1 = false) : okG gs i = false := by unfold okG; rw [h]; rfl
theorem okG_n2 {gs : List Gd} {i : Nat} (h : Pf.inB (gs.getD i gd0).2 1 100 = false) : okG gs i = false := by unfold okG; rw [h]; simp
theorem okG_n3 {gs : List Gd} {i : Nat} (h : hasB (gs.take i) (gs.getD i gd0).1 = true) : okG gs i = false := by unfold okG; rw [h]; simp
theorem okG_y {gs : List Gd} {i : Nat} (h1 : nameB (gs.getD i gd0).1 = true) (h2 : Pf.inB (gs.getD i gd0).2 1 100 = true) (h3 : hasB (gs.take i) (gs.getD i gd0).1 = false) : okG gs i = true := by unfold okG; rw [h1, h2, h3]; rfl
/-- No name is too long to be gone through. -/
def Short (gs : List Gd) : Prop := ∀ i, (gs.getD i gd0).1.size ≤ 1048576

/-- What stays while a good is looked at: its two fields. -/
theorem kG_call {w w1 w2 : World} {V : Nat} {v0 v1 : Value} (s : w1.cell? ⟨V, 0, none⟩ = some v0 ∧ w1.cell? ⟨V, 1, none⟩ = some v1 ∧ Below w.heap.size w w1 ∧ w.heap.size ≤ V ∧ V < w1.heap.size) (h : Below w1.heap.size w1 w2) :
    w2.cell? ⟨V, 0, none⟩ = some v0 ∧ w2.cell? ⟨V, 1, none⟩ = some v1 ∧ Below w.heap.size w w2 ∧ w.heap.size ≤ V ∧ V < w2.heap.size := by
  obtain ⟨s0, s1, s2, s3, s4⟩ := s
  obtain ⟨hc, _⟩ := bcell h
  exact ⟨(hc _ _ s4).trans s0, (hc _ _ s4).trans s1, s2.trans (h.mono (by omega)), s3, Nat.lt_of_lt_of_le s4 h.size⟩
theorem kG_same {w w1 w2 : World} {V : Nat} {v0 v1 : Value} (s : w1.cell? ⟨V, 0, none⟩ = some v0 ∧ w1.cell? ⟨V, 1, none⟩ = some v1 ∧ Below w.heap.size w w1 ∧ w.heap.size ≤ V ∧ V < w1.heap.size) (h : w2 = w1) :
    w2.cell? ⟨V, 0, none⟩ = some v0 ∧ w2.cell? ⟨V, 1, none⟩ = some v1 ∧ Below w.heap.size w w2 ∧ w.heap.size ≤ V ∧ V < w2.heap.size := h ▸ s

theorem isName_eq {s : ByteArray} {w : World} {b : Bool} (hs : s.size ≤ 1048576) (h : Hid (nameB s = b)) :
    Calls Tryz.prog 69 #[.string s] w fun e w' => e = .returned (.bool b) ∧ w' = w := h.out ▸ isName_any s w (by omega)
theorem hasName_eq {a : Option Addr} {k c : Nat} {gs : List Gd} {t : ByteArray} {w w1 : World} {b : Bool} (H : Hid (GRow w a gs)) (hk : k ≤ gs.length) (hk' : k ≤ 12) (hb : Hid (hasB (gs.take k) t = b)) (hB : Below w.heap.size w w1) :
    Calls Tryz.prog 70 #[.slice a k c, .string t] w1 fun e w' => e = .returned (.bool b) ∧ Below w1.heap.size w1 w' :=
  hb.out ▸ hasName_any (by simp; omega) (by omega) ((H.out.below hB).take k)
set_option maxHeartbeats 1000000 in
theorem gg_many {a : Option Addr} {n c : Nat} {w : World} (h : 12 < n) :
    Calls Tryz.prog 55 #[.slice a n c] w fun e w' => e = .returned (.bool false) ∧ Below w.heap.size w w' := by
  have h1 : (12 : Int) < n := by omega
  go_enter Tryz.func55, Tryz.ntmps55
  go_wp2_with fail
  go_ret
  exact ⟨rfl, Below.refl _ _⟩
set_option maxHeartbeats 8000000 in
set_option maxRecDepth 100000 in
theorem gg_few {a : Option Addr} {n c : Nat} {gs : List Gd} {w : World} (hn : gs.length = n) (hn' : n ≤ 12) (hc : n ≤ c) (hs : Short gs) (h : GRow w a gs) :
    Calls Tryz.prog 55 #[.slice a n c] w fun e w' => e = .returned (.bool (goodsB gs)) ∧ Below w.heap.size w w' := by
  have h1 : ¬ (12 : Int) < n := by omega
  have H := hide h
  have HN := hide hn
  have HSh := hide hs
  clear h hn hs
  go_enter Tryz.func55, Tryz.ntmps55
  go_wp2_with fail
  go_loopw [2, 3, 4, 10] (fun s2 _ _ s wr => ∃ k : Nat, s2 = .bool false ∧ s = .int .i64 k ∧ k ≤ n ∧ Hid (∀ i, i < k → okG gs i = true) ∧ Hid (Below w.heap.size w wr)) (fun _ _ _ s _ => n - (intOf s).toNat)
  case atStart => exact ⟨0, rfl, rfl, Nat.zero_le _, hide fun i hi => absurd hi (Nat.not_lt_zero _), hide (Below.refl _ _)⟩
  case round =>
    obtain ⟨k, rfl, rfl, hk, HA, HBl⟩ := hrel
    by_cases hlt : k < n
    · obtain ⟨b, off, rfl, hb, r1, r2⟩ := (H.out.below HBl.out).at (i := k) (by rw [HN.out]; exact hlt)
      have i0 : (0 : Int) ≤ (k : Int) := by omega
      have i1 : (k : Int) < (n : Int) := by omega
      have i2 : (k : Int) ≤ (n : Int) := by omega
      have i3 : (k : Int) ≤ (c : Int) := by omega
      have hsz := HSh.out k
      have hklen : k < gs.length := by rw [HN.out]; exact hlt
      have HOK : Hid (okG gs k = true → ∀ i, i < k + 1 → okG gs i = true) := hide fun he i hi => by
        by_cases e : i = k
        · subst e; exact he
        · exact HA.out i (by omega)
      have HN1 := hide (fun (h : okG gs k = false) => goodsB_not hklen h)
      have O1 := hide (@okG_n1 gs k)
      have O2 := hide (@okG_n2 gs k)
      have O3 := hide (@okG_n3 gs k)
      have O4 := hide (@okG_y gs k)
      generalize (gs.getD k gd0).1 = x at *
      generalize (gs.getD k gd0).2 = z at *
      have hBz := HBl.out.size
      have bn := (Below.refl wr.heap.size wr).alloc (Nat.le_refl _) (.cells #[.string x, .int .i64 z] 71)
      have HBn := hide (HBl.out.trans (bn.mono hBz))
      clear bn hklen
      cases hnm : nameB x
      · have HF := hide (HN1.out (O1.out hnm))
        have HNM := hide hnm
        clear hnm
        go_wp2_with fail
        go_quiet ((go_at_call 69; exact Calls.quiet_of_same (isName_eq hsz HNM)))
        go_wp2_with fail
        go_ret
        exact ⟨ret_bool HF.out.symm, below_drewN HBn.out _⟩
      · have HNM := hide hnm
        cases hin : Pf.inB z 1 100
        · have HF := hide (HN1.out (O2.out hin))
          clear hnm
          go_wp2_with fail
          go_quiet (first
            | (go_at_call 69; exact Calls.quiet_of_same (isName_eq hsz HNM))
            | (go_at_call 60; exact Calls.quiet_of_same (between_eq hin)))
          go_wp2_with fail
          go_ret
          exact ⟨ret_bool HF.out.symm, below_drewN HBn.out _⟩
        · cases hhs : hasB (gs.take k) x
          · have HF := hide (HOK.out (O4.out hnm hin hhs))
            have HHS := hide hhs
            clear hnm hhs
            go_wp2_with fail
            go_region_held3 (fun w' => w'.cell? ⟨wr.heap.size, 0, none⟩ = some (.string x) ∧ w'.cell? ⟨wr.heap.size, 1, none⟩ = some (.int .i64 z) ∧ Below w.heap.size w w' ∧ w.heap.size ≤ wr.heap.size ∧ wr.heap.size < w'.heap.size)
              (first | exact ⟨by simp [go_sem], by simp [go_sem], HBn.out.drew, hBz, by simp⟩ | assumption | exact kG_call ‹_› (by assumption))
              (first
              | (go_at_call 69; refine (isName_eq hsz HNM).mono ?_; rintro e w1 ⟨rfl, rfl⟩)
              | (go_at_call 60; refine (between_eq hin).mono ?_; rintro e w1 ⟨rfl, rfl⟩)
              | (go_at_call 70; refine (hasName_eq H (by rw [HN.out]; omega) (by omega) HHS (‹_ ∧ _ ∧ _ ∧ _ ∧ _›).2.2.1).mono ?_; rintro e w1 ⟨rfl, hb1⟩))
            obtain ⟨_, _, hBe, _, _⟩ := ‹_ ∧ _ ∧ _ ∧ _ ∧ _›
            go_wp2_with fail
            go_roundw
            case rel => exact ⟨k + 1, rfl, by go_num, by omega, HF, hide hBe⟩
            case measure => simp only [intOf]; omega
          · have HF := hide (HN1.out (O3.out hhs))
            have HHS := hide hhs
            clear hnm hhs
            go_wp2_with fail
            go_region_held3 (fun w' => w'.cell? ⟨wr.heap.size, 0, none⟩ = some (.string x) ∧ w'.cell? ⟨wr.heap.size, 1, none⟩ = some (.int .i64 z) ∧ Below w.heap.size w w' ∧ w.heap.size ≤ wr.heap.size ∧ wr.heap.size < w'.heap.size)
              (first | exact ⟨by simp [go_sem], by simp [go_sem], HBn.out.drew, hBz, by simp⟩ | assumption | exact kG_call ‹_› (by assumption))
              (first
              | (go_at_call 69; refine (isName_eq hsz HNM).mono ?_; rintro e w1 ⟨rfl, rfl⟩)
              | (go_at_call 60; refine (between_eq hin).mono ?_; rintro e w1 ⟨rfl, rfl⟩)
              | (go_at_call 70; refine (hasName_eq H (by rw [HN.out]; omega) (by omega) HHS (‹_ ∧ _ ∧ _ ∧ _ ∧ _›).2.2.1).mono ?_; rintro e w1 ⟨rfl, hb1⟩))
            obtain ⟨_, _, hBe, _, _⟩ := ‹_ ∧ _ ∧ _ ∧ _ ∧ _›
            go_wp2_with fail
            go_ret
            exact ⟨ret_bool HF.out.symm, hBe⟩
    · have hke : k = n := by omega
      subst hke
      have HY := hide (goodsB_of (by rw [HN.out]; exact hn') (fun i hi => HA.out i (by rw [← HN.out]; exact hi)))
      go_wp2_with fail
      go_ret
      exact ⟨ret_bool HY.out.symm, HBl.out⟩
theorem gg_any {a : Option Addr} {n c : Nat} {gs : List Gd} {w : World} (hn : gs.length = n) (hc : n ≤ c) (hs : Short gs) (h : GRow w a gs) :
    Calls Tryz.prog 55 #[.slice a n c] w fun e w' => e = .returned (.bool (goodsB gs)) ∧ Below w.heap.size w w' := by
  by_cases h12 : n ≤ 12
  · exact gg_few hn h12 hc hs h
  · rw [goodsB_many (by omega)]; exact gg_many (by omega)
end Go.Proofs.YtlbagigghpiifaaGreat
