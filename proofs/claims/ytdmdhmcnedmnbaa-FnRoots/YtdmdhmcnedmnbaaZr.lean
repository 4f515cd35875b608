/-
  What the draws of chapter 2 hand out: some number, two short rows; and sameInts of the laws.
-/
import Derived.Test.YtdmdhmcnedmnbaaS
import Derived.Test.YtdmdhmcnedmnbaaXi
namespace Go.Proofs.Ytdmdhmcnedmnbaa
open Go.RowKit

theorem nine_cells (w : World) (vs : List Int) (t : TypeId) : ∀ i, i < vs.length → ∃ z : Int, (w.alloc (.cells (ints vs).toArray t)).cell? ⟨w.heap.size, i, none⟩ = some (.int .i64 z) := by
  intro i hi
  refine ⟨vs.getD i 0, ?_⟩
  have := ints_get vs i hi
  simp only [World.cell?, (MapKept.heap_alloc w _).1]
  simpa using this

set_option maxHeartbeats 1000000 in
theorem square_any {c len cap N : Nat} {a : Option Addr} {w : World} (hc : Cur w c a len cap N) (hN : N ≤ 800000000) :
    Calls Try.prog 51 #[.pointer (some ⟨c, 0, none⟩)] w fun e w' => ∃ r : Int, e = .returned (.int .i64 r) ∧ Kp c w w' := by
  have HC := hide hc
  have hcl := hc.1
  clear hc
  go_enter Try.func51, Try.ntmps51
  go_wp2_with fail
  refine (one_any 3 (by omega) HC.out (by omega)).mono ?_
  rintro e w1 ⟨r, rfl, hc1, hk1⟩
  have HC1 := hide hc1
  have HK1 := hide hk1
  have hs1 : c < w1.heap.size := hc1.1
  clear hc1 hk1
  cases r
  · go_wp2_with fail
    refine (pick_any 256 (by omega) HC1.out (by omega)).mono ?_
    rintro e w2 ⟨x, rfl, x0, x1, hc2, hk2⟩
    have HC2 := hide hc2
    have HK2 := hide hk2
    clear hc2 hk2
    go_wp2_with fail
    refine (pick_any 20 (by omega) HC2.out (by omega)).mono ?_
    rintro e w3 ⟨y, rfl, y0, y1, hc3, hk3⟩
    have HC3 := hide hc3
    have HK3 := hide hk3
    clear hc3 hk3
    go_wp2_with fail
    refine (pick_any 3 (by omega) HC3.out (by omega)).mono ?_
    rintro e w4 ⟨z, rfl, z0, z1, hc4, hk4⟩
    have HC4 := hide hc4
    have HK4 := hide hk4
    have hs4 : c < w4.heap.size := hc4.1
    clear hc4 hk4
    go_wp2_with fail
    refine (among_any (l := 4) (HC4.out.below (below_alloc w4 _)) (by omega) (by omega) (by omega) (by simp) (by omega) (nine_cells w4 [1, 1, 2, _] 3)).mono ?_
    rintro e w5 ⟨q, rfl, hc5, hk5⟩
    have HK5 := hide (((Kp.refl c w4).alloc _).trans hk5)
    clear hc5 hk5
    go_wp2_with fail
    go_ret
    exact ⟨_, rfl, (((HK1.out.trans HK2.out).trans HK3.out).trans HK4.out).trans HK5.out⟩
  · go_wp2_with fail
    refine (among_any (l := 10) (HC1.out.below (below_alloc w1 _)) (by omega) (by omega) (by omega) (by simp) (by omega) (nine_cells w1 [-1, 0, 1, 2, 3, 4, 1000000000000, 1000000000001, 999999999999, 999999] 3)).mono ?_
    rintro e w5 ⟨q, rfl, hc5, hk5⟩
    have HK5 := hide (((Kp.refl c w1).alloc _).trans hk5)
    clear hc5 hk5
    go_wp2_with fail
    go_ret
    exact ⟨_, rfl, HK1.out.trans HK5.out⟩

set_option maxHeartbeats 400000 in
theorem drawRoot_any (a : Option Addr) (len cap : Nat) (w : World) (hs : Src w a len) :
    Calls Try.prog 17 #[.slice a len cap] w fun e w' => ∃ n : Int, e = .returned (.int .i64 n) ∧ Below w.heap.size w w' := by
  have HC := hide (cur_new (cap := cap) hs)
  clear hs
  go_enter Try.func17, Try.ntmps17
  go_wp2_with fail
  refine (square_any HC.out (by omega)).mono ?_
  rintro e w1 ⟨n, rfl, hk⟩
  have hB : Below w.heap.size w w1 := ((Below.refl _ _).alloc (Nat.le_refl _) _).trans (hk.below (Nat.le_refl _) (by simp))
  clear hk
  go_wp2_with fail
  go_ret
  exact ⟨n, rfl, hB⟩
set_option maxHeartbeats 400000 in
theorem drawHeron_any (a : Option Addr) (len cap : Nat) (w : World) (hs : Src w a len) :
    Calls Try.prog 22 #[.slice a len cap] w fun e w' => ∃ n : Int, e = .returned (.int .i64 n) ∧ Below w.heap.size w w' := by
  have HS := hide hs
  clear hs
  go_enter Try.func22, Try.ntmps22
  go_wp2_with fail
  refine (drawRoot_any a len cap _ HS.out).mono ?_
  rintro e w1 ⟨n, rfl, hB⟩
  go_wp2_with fail
  go_ret
  exact ⟨n, rfl, hB⟩

set_option maxHeartbeats 400000 in
theorem same_zero (a b : Option Addr) (c d : Nat) (w : World) :
    Calls Try.prog 25 #[.slice a 0 c, .slice b 0 d] w fun e w' => e = .returned (.bool true) ∧ w' = w := by
  go_enter Try.func25, Try.ntmps25
  go_wp2_with fail
  go_loop [13] (fun s => s = .int .i64 0) (fun s => 0)
  case atStart => rfl
  case round =>
    subst hrel
    go_wp2_with fail
    go_ret
    exact ⟨rfl, rfl⟩
set_option maxHeartbeats 1000000 in
theorem same_any (xs : List Int) (b o c b' o' c' : Nat) (w : World) (hl : xs.length ≤ 4000000000000) (h1 : ∀ i, i < xs.length → w.cell? ⟨b, o + i, none⟩ = some (.int .i64 (xs.getD i 0))) (h2 : ∀ i, i < xs.length → w.cell? ⟨b', o' + i, none⟩ = some (.int .i64 (xs.getD i 0))) :
    Calls Try.prog 25 #[.slice (some ⟨b, o, none⟩) xs.length c, .slice (some ⟨b', o', none⟩) xs.length c'] w fun e w' => e = .returned (.bool true) ∧ ∃ m, w' = w.drewN m := by
  have hne : ((xs.length : Int) != (xs.length : Int)) = false := by simp
  have H1 := hide h1
  have H2 := hide h2
  clear h1 h2
  go_enter Try.func25, Try.ntmps25
  go_wp2_with fail
  go_loopw [13] (fun s wr => ∃ k : Nat, s = .int .i64 k ∧ k ≤ xs.length ∧ ∃ m, wr = w.drewN m) (fun s _ => xs.length - (intOf s).toNat)
  case atStart => exact ⟨0, rfl, Nat.zero_le _, 0, rfl⟩
  case round =>
    obtain ⟨k, rfl, hk, m, rfl⟩ := hrel
    by_cases hlt : k < xs.length
    · have r1 := H1.out k hlt
      have r2 := H2.out k hlt
      have i0 : (0 : Int) ≤ (k : Int) := by omega
      have i1 : (k : Int) < (xs.length : Int) := by omega
      generalize xs.getD k 0 = x at *
      have hxx : (x != x) = false := by simp
      go_wp2_with fail
      go_region
      go_wp2_with fail
      exact ⟨⟨k + 1, by go_num, by omega, m + 1, rfl⟩, by simp only [intOf]; omega⟩
    · go_wp2_with fail
      go_ret
      exact ⟨rfl, m, rfl⟩
end Go.Proofs.Ytdmdhmcnedmnbaa
