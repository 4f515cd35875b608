/-
  What RankBy answers, the program's and the model's.
-/
import Derived.Test.YtegonbilomcpkaaBase
import Derived.Test.YtegonbilomcpkaaPb
namespace Go.Proofs.Ytegonbilomcpkaa
open Go.RowKit Go.Sort

def goodV (vs : List Int) : Bool := decide (vs.length ≤ 12) && Pf.allB vs (-1000000) 10000000
theorem goodV_yes {vs : List Int} (h : goodV vs = true) : vs.length ≤ 12 ∧ Pf.allB vs (-1000000) 10000000 = true := by simpa [goodV] using h
theorem goodV_many {vs : List Int} (h : ¬ vs.length ≤ 12) : goodV vs = false := by simp [goodV, h]
theorem goodV_no {vs : List Int} (h : goodV vs = false) (h2 : vs.length ≤ 12) : Pf.allB vs (-1000000) 10000000 = false := by simpa [goodV, h2] using h

set_option maxRecDepth 100000 in
set_option maxHeartbeats 1000000 in
theorem rb_many {a : Option Addr} {n c : Nat} {w : World} (h : 12 < n) :
    Calls Try.prog 27 #[.slice a n c] w fun e w' => e = .returned (.tuple #[.slice none 0 0, .bool false]) ∧ Below w.heap.size w w' := by
  have h1 : (12 : Int) < n := by omega
  go_enter Try.func27, Try.ntmps27
  go_wp2_with fail
  go_ret2
  exact ⟨rfl, Below.refl _ _⟩
set_option maxRecDepth 100000 in
set_option maxHeartbeats 2000000 in
theorem rb_few {a : Option Addr} {n c : Nat} {vs : List Int} {w : World} (hv : vs.length = n) (hn : n ≤ 12) (ha : ARow w a vs) :
    Calls Try.prog 27 #[.slice a n c] w fun e w' => Below w.heap.size w w' ∧
      ((goodV vs = false ∧ e = .returned (.tuple #[.slice none 0 0, .bool false])) ∨ (goodV vs = true ∧ ∃ g, e = .returned (.tuple #[.slice (some ⟨g, 0, none⟩) n n, .bool true]) ∧ w'.ownsRow w.heap.size 3 1 (.slice (some ⟨g, 0, none⟩) n n) n (ints (nats (Rk.rank vs))))) := by
  have h1 : ¬ (12 : Int) < n := by omega
  have H := hide ha
  have HV := hide hv
  have HG : Hid (goodV vs = Pf.allB vs (-1000000) 10000000) := hide (by unfold goodV; simp [hv, hn])
  clear ha hv
  cases hb : Pf.allB vs (-1000000) 10000000
  · have HB := hide hb
    have HN : Hid (goodV vs = false) := hide (HG.out.trans hb)
    clear hb
    go_enter Try.func27, Try.ntmps27
    go_wp2_with (go_at_call 56; refine (areb_eqn H HV (by omega) HB).mono ?_; rintro e w1 ⟨rfl, rfl⟩)
    go_ret2
    exact ⟨Below.refl _ _, Or.inl ⟨HN.out, rfl⟩⟩
  · have HB := hide hb
    have HN : Hid (goodV vs = true) := hide (HG.out.trans hb)
    clear hb
    go_enter Try.func27, Try.ntmps27
    go_wp2_with (first
      | (go_at_call 56; refine (areb_eqn H HV (by omega) HB).mono ?_; rintro e w1 ⟨rfl, rfl⟩)
      | (go_at_call 50; refine (rank_any HV.out hn H.out).mono ?_; rintro e w1 ⟨rfl, hb1, own1⟩))
    go_ret2
    exact ⟨hb1, Or.inr ⟨HN.out, _, rfl, own1⟩⟩
theorem rb_any {a : Option Addr} {n c : Nat} {vs : List Int} {w : World} (hv : vs.length = n) (ha : ARow w a vs) :
    Calls Try.prog 27 #[.slice a n c] w fun e w' => Below w.heap.size w w' ∧
      ((goodV vs = false ∧ e = .returned (.tuple #[.slice none 0 0, .bool false])) ∨ (goodV vs = true ∧ ∃ g, e = .returned (.tuple #[.slice (some ⟨g, 0, none⟩) n n, .bool true]) ∧ w'.ownsRow w.heap.size 3 1 (.slice (some ⟨g, 0, none⟩) n n) n (ints (nats (Rk.rank vs))))) := by
  by_cases h : n ≤ 12
  · exact rb_few hv h ha
  · exact (rb_many (by omega)).mono fun e w' ⟨he, hb⟩ => ⟨hb, Or.inl ⟨goodV_many (by omega), he⟩⟩
theorem rb_no {a : Option Addr} {n c : Nat} {vs : List Int} {w : World} (hv : vs.length = n) (ha : ARow w a vs) (h : goodV vs = false) :
    Calls Try.prog 27 #[.slice a n c] w fun e w' => e = .returned (.tuple #[.slice none 0 0, .bool false]) ∧ Below w.heap.size w w' :=
  (rb_any hv ha).mono fun e w' ⟨hb, h'⟩ => by
    rcases h' with ⟨_, he⟩ | ⟨h2, _⟩
    · exact ⟨he, hb⟩
    · rw [h] at h2; cases h2
theorem rb_yes {a : Option Addr} {n c : Nat} {vs : List Int} {w : World} (hv : vs.length = n) (ha : ARow w a vs) (h : goodV vs = true) :
    Calls Try.prog 27 #[.slice a n c] w fun e w' => ∃ g, e = .returned (.tuple #[.slice (some ⟨g, 0, none⟩) n n, .bool true]) ∧ Below w.heap.size w w' ∧ w'.ownsRow w.heap.size 3 1 (.slice (some ⟨g, 0, none⟩) n n) n (ints (nats (Rk.rank vs))) :=
  (rb_any hv ha).mono fun e w' ⟨hb, h'⟩ => by
    rcases h' with ⟨h2, _⟩ | ⟨_, g, he, ho⟩
    · rw [h] at h2; cases h2
    · exact ⟨g, he, hb, ho⟩

set_option maxRecDepth 100000 in
set_option maxHeartbeats 1000000 in
theorem srb_many {a : Option Addr} {n c : Nat} {w : World} (h : 12 < n) :
    Calls Try.prog 28 #[.slice a n c] w fun e w' => e = .returned (.tuple #[.slice none 0 0, .bool false]) ∧ Below w.heap.size w w' := by
  have h1 : (12 : Int) < n := by omega
  go_enter Try.func28, Try.ntmps28
  go_wp2_with fail
  go_ret2
  exact ⟨rfl, Below.refl _ _⟩
theorem all_eqn {a : Option Addr} {n c : Nat} {xs : List Int} {lo hi : Int} {w : World} {r : Bool} (h : Hid (ARow w a xs)) (hn : Hid (xs.length = n)) (hl : n ≤ 12) (hr : Hid (Pf.allB xs lo hi = r)) :
    Calls Try.prog 44 #[.slice a n c, .int .i64 lo, .int .i64 hi] w fun e w' => e = .returned (.bool r) ∧ w' = w := by
  have := hn.out
  subst this
  exact all_eq h.out (by omega) hr.out
set_option maxRecDepth 100000 in
set_option maxHeartbeats 1000000 in
theorem srb_bad {a : Option Addr} {n c : Nat} {vs : List Int} {w : World} (hv : vs.length = n) (hn : n ≤ 12) (ha : ARow w a vs) (h : Pf.allB vs (-1000000) 10000000 = false) :
    Calls Try.prog 28 #[.slice a n c] w fun e w' => e = .returned (.tuple #[.slice none 0 0, .bool false]) ∧ Below w.heap.size w w' := by
  have h1 : ¬ (12 : Int) < n := by omega
  have HA := hide ha
  have HV := hide hv
  have HH := hide h
  clear ha hv h
  go_enter Try.func28, Try.ntmps28
  go_wp2_with ((go_at_call 44; refine (all_eqn HA HV hn HH).mono ?_; rintro e w1 ⟨rfl, rfl⟩))
  go_ret2
  exact ⟨rfl, Below.refl _ _⟩
set_option maxRecDepth 100000 in
set_option maxHeartbeats 1000000 in
theorem srb_good {a : Option Addr} {n c : Nat} {vs : List Int} {w : World} (hv : vs.length = n) (hn : n ≤ 12) (ha : ARow w a vs) (h : Pf.allB vs (-1000000) 10000000 = true) :
    Calls Try.prog 28 #[.slice a n c] w fun e w' => ∃ v, e = .returned (.tuple #[v, .bool true]) ∧ Below w.heap.size w w' ∧ w'.ownsRow w.heap.size 3 1 v n (ints (nats (Rk.rank vs))) := by
  have h1 : ¬ (12 : Int) < n := by omega
  have HA := hide ha
  have HV := hide hv
  have HH := hide h
  clear ha hv h
  go_enter Try.func28, Try.ntmps28
  go_wp2_with (first
    | (go_at_call 44; refine (all_eqn HA HV hn HH).mono ?_; rintro e w1 ⟨rfl, rfl⟩)
    | (go_at_call 53; refine (srank_any HV.out hn HA.out).mono ?_; rintro e w1 ⟨v, rfl, hb1, own1⟩))
  go_ret2
  exact ⟨_, rfl, hb1, own1⟩
theorem srb_no {a : Option Addr} {n c : Nat} {vs : List Int} {w : World} (hv : vs.length = n) (ha : ARow w a vs) (h : goodV vs = false) :
    Calls Try.prog 28 #[.slice a n c] w fun e w' => e = .returned (.tuple #[.slice none 0 0, .bool false]) ∧ Below w.heap.size w w' := by
  by_cases h2 : n ≤ 12
  · exact srb_bad hv h2 ha (goodV_no h (by omega))
  · exact srb_many (by omega)
theorem srb_yes {a : Option Addr} {n c : Nat} {vs : List Int} {w : World} (hv : vs.length = n) (ha : ARow w a vs) (h : goodV vs = true) :
    Calls Try.prog 28 #[.slice a n c] w fun e w' => ∃ v, e = .returned (.tuple #[v, .bool true]) ∧ Below w.heap.size w w' ∧ w'.ownsRow w.heap.size 3 1 v n (ints (nats (Rk.rank vs))) :=
  srb_good hv (by have := (goodV_yes h).1; omega) ha (goodV_yes h).2
end Go.Proofs.Ytegonbilomcpkaa
