/-
  Items: which are good, of both; the least boxes, of both.
-/
import Derived.Test.YtoalcmfpbjmapaaPb
namespace Go.Proofs.Ytoalcmfpbjmapaa.It

def goodB (xs : List Int) : Bool := decide (xs.length ≤ 9) && Pf.allB xs 1 20
def lbI (xs : List Int) : Int := if goodB xs then (xs.sum + 20 - 1) / 20 else 0
theorem good_len {xs : List Int} (h : goodB xs = true) : xs.length ≤ 9 := by
  simp only [goodB, Bool.and_eq_true, decide_eq_true_eq] at h; exact h.1
theorem good_all {xs : List Int} (h : goodB xs = true) : Pf.allB xs 1 20 = true := by
  simp only [goodB, Bool.and_eq_true] at h; exact h.2
theorem good_at {xs : List Int} (h : goodB xs = true) {i : Nat} (hi : i < xs.length) : 1 ≤ xs.getD i 0 ∧ xs.getD i 0 ≤ 20 := Pf.inB_yes (Pf.allB_get (good_all h) hi)
theorem good_wide {xs : List Int} (h : goodB xs = true) : Pf.allB xs (-10000000) 10000000 = true := by
  refine Pf.allB_of fun i hi => ?_
  have := good_at h hi
  exact Pf.inB_of (by omega) (by omega)
theorem good_sum {xs : List Int} (h : goodB xs = true) : 0 ≤ xs.sum ∧ xs.sum ≤ 180 := by
  have h1 := Pf.sum_bd (good_all h)
  have h2 := good_len h
  omega
end Go.Proofs.Ytoalcmfpbjmapaa.It
namespace Go.Proofs.Ytoalcmfpbjmapaa
open Go.RowKit

theorem same_bel {f : Nat} {vs : Array Value} {w : World} {r : Ending} (h : Calls Try.prog f vs w fun e w' => e = r ∧ w' = w) : Calls Try.prog f vs w fun e w' => e = r ∧ Below w.heap.size w w' := h.mono fun _ _ ⟨h1, h2⟩ => ⟨h1, h2 ▸ Below.refl _ _⟩
theorem all_12 {a : Option Addr} {n c : Nat} {xs : List Int} {lo hi : Int} {w : World} {r : Bool} (h : Hid (ARow w a xs)) (hn : Hid (xs.length = n)) (hl : n ≤ 1000) (hr : Hid (Pf.allB xs lo hi = r)) :
    Calls Try.prog 29 #[.slice a n c, .int .i64 lo, .int .i64 hi] w fun e w' => e = .returned (.bool r) ∧ w' = w := by
  have := hn.out
  subst this
  exact all_eq h.out (by omega) hr.out
set_option maxHeartbeats 400000 in
theorem gi_any {a : Option Addr} {n c : Nat} {xs : List Int} {w : World} (hx : xs.length = n) (ha : ARow w a xs) :
    Calls Try.prog 11 #[.slice a n c] w fun e w' => e = .returned (.bool (It.goodB xs)) ∧ w' = w := by
  have HA := hide ha
  have HX := hide hx
  by_cases h9 : n ≤ 9
  · have HR : Hid (Pf.allB xs 1 20 = It.goodB xs) := hide (by simp [It.goodB, hx, h9])
    generalize It.goodB xs = R at *
    have i9 : (n : Int) ≤ 9 := by omega
    clear ha hx
    go_enter Try.func11, Try.ntmps11
    go_wp2_with fail
    refine (areb_eqn HA HX (by omega) HR).mono ?_
    rintro e w1 ⟨rfl, rfl⟩
    go_wp2_with fail
    go_ret
    exact ⟨rfl, rfl⟩
  · have HR : Hid (It.goodB xs = false) := hide (by simp [It.goodB, hx, h9])
    generalize It.goodB xs = R at *
    have i9 : ¬ (n : Int) ≤ 9 := by omega
    clear ha hx
    go_enter Try.func11, Try.ntmps11
    go_wp2_with fail
    go_ret
    exact ⟨ret_bool HR.out.symm, rfl⟩
theorem gi_eq {a : Option Addr} {n c : Nat} {xs : List Int} {w : World} {r : Bool} (hx : Hid (xs.length = n)) (ha : Hid (ARow w a xs)) (h : Hid (It.goodB xs = r)) :
    Calls Try.prog 11 #[.slice a n c] w fun e w' => e = .returned (.bool r) ∧ w' = w := h.out ▸ gi_any hx.out ha.out
set_option maxHeartbeats 400000 in
theorem sgi_any {a : Option Addr} {n c : Nat} {xs : List Int} {w : World} (hx : xs.length = n) (ha : ARow w a xs) :
    Calls Try.prog 9 #[.slice a n c] w fun e w' => e = .returned (.bool (It.goodB xs)) ∧ w' = w := by
  have HA := hide ha
  have HX := hide hx
  by_cases h9 : n ≤ 9
  · have HR : Hid (Pf.allB xs 1 20 = It.goodB xs) := hide (by simp [It.goodB, hx, h9])
    generalize It.goodB xs = R at *
    have i9 : (n : Int) ≤ 9 := by omega
    clear ha hx
    go_enter Try.func9, Try.ntmps9
    go_wp2_with fail
    refine (all_12 HA HX (by omega) HR).mono ?_
    rintro e w1 ⟨rfl, rfl⟩
    go_wp2_with fail
    go_ret
    exact ⟨rfl, rfl⟩
  · have HR : Hid (It.goodB xs = false) := hide (by simp [It.goodB, hx, h9])
    generalize It.goodB xs = R at *
    have i9 : ¬ (n : Int) ≤ 9 := by omega
    clear ha hx
    go_enter Try.func9, Try.ntmps9
    go_wp2_with fail
    go_ret
    exact ⟨ret_bool HR.out.symm, rfl⟩
theorem sgi_eq {a : Option Addr} {n c : Nat} {xs : List Int} {w : World} {r : Bool} (hx : Hid (xs.length = n)) (ha : Hid (ARow w a xs)) (h : Hid (It.goodB xs = r)) :
    Calls Try.prog 9 #[.slice a n c] w fun e w' => e = .returned (.bool r) ∧ w' = w := h.out ▸ sgi_any hx.out ha.out
set_option maxHeartbeats 400000 in
theorem dv12 {Y : Int} {w : World} (h0 : 0 ≤ Y) (h1 : Y ≤ 1000) :
    Calls Try.prog 56 #[.int .i64 Y, .int .i64 20] w fun e w' => e = .returned (.int .i64 ((Y + 20 - 1) / 20)) ∧ w' = w := by
  go_enter Try.func56, Try.ntmps56
  go_wp2_with fail
  go_ret
  exact ⟨rfl, rfl⟩
theorem isum_n {a : Option Addr} {n c : Nat} {xs : List Int} {w : World} {S : Int} (hx : Hid (xs.length = n)) (ha : Hid (ARow w a xs)) (hg : Hid (It.goodB xs = true)) (hs : Hid (xs.sum = S)) :
    Calls Try.prog 57 #[.slice a n c] w fun e w' => e = .returned (.int .i64 S) ∧ w' = w := by
  have h1 := hx.out
  have h2 := hs.out
  subst h1 h2
  exact isum_any ha.out (by have := It.good_len hg.out; omega) (It.good_wide hg.out)
set_option maxHeartbeats 400000 in
theorem lb_any {a : Option Addr} {n c : Nat} {xs : List Int} {w : World} (hx : Hid (xs.length = n)) (ha : Hid (ARow w a xs)) (hg : Hid (It.goodB xs = true)) :
    Calls Try.prog 39 #[.slice a n c] w fun e w' => e = .returned (.int .i64 (It.lbI xs)) ∧ w' = w := by
  have HR : Hid (It.lbI xs = (xs.sum + 20 - 1) / 20) := hide (by simp [It.lbI, hg.out])
  obtain ⟨s0, s1⟩ := It.good_sum hg.out
  obtain ⟨S, hS⟩ : ∃ S, xs.sum = S := ⟨_, rfl⟩
  have HS := hide hS
  rw [hS] at HR s0 s1
  generalize It.lbI xs = R at *
  clear hS
  go_enter Try.func39, Try.ntmps39
  go_wp2_with fail
  refine (isum_n hx ha hg HS).mono ?_
  rintro e w1 ⟨rfl, rfl⟩
  go_wp2_with fail
  refine (dv12 s0 (by omega)).mono ?_
  rintro e w1 ⟨rfl, rfl⟩
  go_wp2_with fail
  go_ret
  exact ⟨by rw [HR.out]; rfl, rfl⟩
set_option maxHeartbeats 400000 in
theorem lbx_any {a : Option Addr} {n c : Nat} {xs : List Int} {w : World} (hx : xs.length = n) (ha : ARow w a xs) :
    Calls Try.prog 28 #[.slice a n c] w fun e w' => e = .returned (.tuple #[.int .i64 (It.lbI xs), .bool (It.goodB xs)]) ∧ w' = w := by
  have HA := hide ha
  have HX := hide hx
  cases hg : It.goodB xs
  · have HR : Hid (It.lbI xs = 0) := hide (by simp [It.lbI, hg])
    have HG := hide hg
    generalize It.lbI xs = R at *
    clear ha hx hg
    go_enter Try.func28, Try.ntmps28
    go_wp2_with fail
    refine (gi_eq HX HA HG).mono ?_
    rintro e w1 ⟨rfl, rfl⟩
    go_wp2_with fail
    refine bodyPost_ret (v := .tuple #[.int .i64 0, .bool false]) (by simp [results, Try.results28, go_sem]) rfl ?_
    exact ⟨by rw [HR.out], rfl⟩
  · have HG := hide hg
    have HL := hide (lb_any (c := c) HX HA HG)
    generalize It.lbI xs = R at *
    clear ha hx hg
    go_enter Try.func28, Try.ntmps28
    go_wp2_with fail
    refine (gi_eq HX HA HG).mono ?_
    rintro e w1 ⟨rfl, rfl⟩
    go_wp2_with fail
    refine HL.out.mono ?_
    rintro e w1 ⟨rfl, rfl⟩
    go_wp2_with fail
    refine bodyPost_ret (v := .tuple #[.int .i64 R, .bool true]) (by simp [results, Try.results28, go_sem]) rfl ?_
    exact ⟨rfl, rfl⟩
theorem sisum_n {a : Option Addr} {n c : Nat} {xs : List Int} {w : World} {S : Int} (hx : Hid (xs.length = n)) (ha : Hid (ARow w a xs)) (hg : Hid (It.goodB xs = true)) (hs : Hid (xs.sum = S)) :
    Calls Try.prog 45 #[.slice a n c] w fun e w' => e = .returned (.int .i64 S) ∧ w' = w := by
  have h1 := hx.out
  have h2 := hs.out
  subst h1 h2
  exact sisum_any ha.out (by have := It.good_len hg.out; omega) (It.good_wide hg.out)
set_option maxHeartbeats 400000 in
theorem slbx_any {a : Option Addr} {n c : Nat} {xs : List Int} {w : World} (hx : xs.length = n) (ha : ARow w a xs) :
    Calls Try.prog 27 #[.slice a n c] w fun e w' => e = .returned (.tuple #[.int .i64 (It.lbI xs), .bool (It.goodB xs)]) ∧ w' = w := by
  have HA := hide ha
  have HX := hide hx
  cases hg : It.goodB xs
  · have HR : Hid (It.lbI xs = 0) := hide (by simp [It.lbI, hg])
    have HG := hide hg
    generalize It.lbI xs = R at *
    clear ha hx hg
    go_enter Try.func27, Try.ntmps27
    go_wp2_with fail
    refine (sgi_eq HX HA HG).mono ?_
    rintro e w1 ⟨rfl, rfl⟩
    go_wp2_with fail
    refine bodyPost_ret (v := .tuple #[.int .i64 0, .bool false]) (by simp [results, Try.results27, go_sem]) rfl ?_
    exact ⟨by rw [HR.out], rfl⟩
  · have HG := hide hg
    have HR : Hid (It.lbI xs = (xs.sum + 20 - 1) / 20) := hide (by simp [It.lbI, hg])
    obtain ⟨s0, s1⟩ := It.good_sum hg
    obtain ⟨S, hS⟩ : ∃ S, xs.sum = S := ⟨_, rfl⟩
    have HS := hide hS
    rw [hS] at HR s0 s1
    generalize It.lbI xs = R at *
    clear ha hx hg hS
    go_enter Try.func27, Try.ntmps27
    go_wp2_with fail
    refine (sgi_eq HX HA HG).mono ?_
    rintro e w1 ⟨rfl, rfl⟩
    go_wp2_with fail
    refine (sisum_n HX HA HG HS).mono ?_
    rintro e w1 ⟨rfl, rfl⟩
    go_wp2_with fail
    refine bodyPost_ret (v := .tuple #[.int .i64 ((S + 20 - 1) / 20), .bool true]) (by simp [results, Try.results27, go_sem]) rfl ?_
    exact ⟨by rw [HR.out], rfl⟩
end Go.Proofs.Ytoalcmfpbjmapaa
