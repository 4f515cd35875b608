/-
  What areChosen, BoundOf and ValueOf of the program, and l6Places, l6Gain, BoundOf and ValueOf of the model answer.
-/
import Derived.Test.YtpabfmcoadolcabCe
namespace Go.Proofs.Ytpabfmcoadolcab
open Go.RowKit

def chB (L : List (List Int)) (p : Int) : Bool := Of.offersB L && Pf.inB p 0 40
theorem chB_yes {L : List (List Int)} {p : Int} (h : chB L p = true) : Of.offersB L = true ∧ 0 ≤ p ∧ p ≤ 40 := by
  simp only [chB, Bool.and_eq_true] at h
  exact ⟨h.1, Pf.inB_yes h.2⟩

set_option maxHeartbeats 1000000 in
theorem ach_any {a : Option Addr} {n c : Nat} {L : List (List Int)} {p : Int} {w : World} (hn : L.length = n) (h : ORow w a L) :
    Calls Try.prog 14 #[.slice a n c, .int .i64 p] w fun e w' => e = .returned (.bool (chB L p)) ∧ Below w.heap.size w w' := by
  have HC := hide (gof_any (c := c) hn h)
  unfold chB
  clear h hn
  cases hg : Of.offersB L
  · rw [hg] at HC
    clear hg
    go_enter Try.func14, Try.ntmps14
    go_wp2_with ((go_at_call 24; refine HC.out.mono ?_; rintro e w1 ⟨rfl, hb1⟩))
    go_ret
    exact ⟨rfl, hb1⟩
  · rw [hg] at HC
    clear hg
    cases hp : Pf.inB p 0 40
    · go_enter Try.func14, Try.ntmps14
      go_wp2_with (first | (go_at_call 24; refine HC.out.mono ?_; rintro e w1 ⟨rfl, hb1⟩) | (go_at_call 15; refine (between_eq hp).mono ?_; rintro e w2 ⟨rfl, rfl⟩))
      go_ret
      exact ⟨rfl, hb1⟩
    · go_enter Try.func14, Try.ntmps14
      go_wp2_with (first | (go_at_call 24; refine HC.out.mono ?_; rintro e w1 ⟨rfl, hb1⟩) | (go_at_call 15; refine (between_eq hp).mono ?_; rintro e w2 ⟨rfl, rfl⟩))
      go_ret
      exact ⟨rfl, hb1⟩
theorem ach_eq {a : Option Addr} {n c : Nat} {L : List (List Int)} {p : Int} {w : World} {b : Bool} (hn : L.length = n) (h : ORow w a L) (hb : chB L p = b) :
    Calls Try.prog 14 #[.slice a n c, .int .i64 p] w fun e w' => e = .returned (.bool b) ∧ Below w.heap.size w w' := hb ▸ ach_any hn h

set_option maxHeartbeats 400000 in
theorem pl_eq {p : Int} {w : World} {b : Bool} (h : Pf.inB p 0 40 = b) :
    Calls Try.prog 11 #[.int .i64 p] w fun e w' => e = .returned (.bool b) ∧ w' = w := by
  go_enter Try.func11, Try.ntmps11
  go_wp2_with ((go_at_call 21; refine (in_eq h).mono ?_; rintro e w2 ⟨rfl, rfl⟩))
  go_ret
  exact ⟨rfl, rfl⟩

set_option maxHeartbeats 1000000 in
theorem gn_any {a : Option Addr} {n c k : Nat} {o : List Int} {w : World} (hn : o.length = n) (hk : k ≤ n) (hl : n ≤ 1000) (h : ARow w a o) :
    Calls Try.prog 22 #[.agg #[.slice a n c], .int .i64 k] w fun e w' => e = .returned (.int .i64 (Of.gain o k)) ∧ Below w.heap.size w w' := by
  cases k with
  | zero =>
    go_enter Try.func22, Try.ntmps22
    go_wp2_with fail
    go_ret
    exact ⟨rfl, o_below_new _ _⟩
  | succ k =>
    obtain ⟨b, off, rfl, r1⟩ := h.at' (i := k) (by omega)
    have hz : (((k + 1 : Nat) : Int) == 0) = false := by simp; omega
    have j0 : (0 : Int) ≤ (k : Int) := by omega
    have j1 : (k : Int) < (n : Int) := by omega
    have j2 : wrap64 (((k + 1 : Nat) : Int) - 1) = (k : Int) := by rw [wrap_id' _ (by omega) (by omega)]; omega
    rw [Of.gain_succ]
    generalize o.getD k 0 = x at *
    generalize hK : ((k + 1 : Nat) : Int) = K at *
    clear hK
    go_enter Try.func22, Try.ntmps22
    go_wp2_with fail
    go_ret
    exact ⟨rfl, o_below_new _ _⟩
end Go.Proofs.Ytpabfmcoadolcab
