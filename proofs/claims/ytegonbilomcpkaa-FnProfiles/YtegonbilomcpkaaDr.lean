/-
  Draws of chapter 3: what DrawRankBy hands out: some list.
-/
import Derived.Test.YtegonbilomcpkaaDu
namespace Go.Proofs.Ytegonbilomcpkaa
open Go.RowKit

theorem mul_bd {r z : Int} (r0 : 0 ≤ r) (r1 : r < 6) (z0 : -1 ≤ z) (z1 : z ≤ 5000000) : -5 ≤ r * z ∧ r * z ≤ 25000000 := by
  have : r = 0 ∨ r = 1 ∨ r = 2 ∨ r = 3 ∨ r = 4 ∨ r = 5 := by omega
  rcases this with rfl | rfl | rfl | rfl | rfl | rfl <;> omega
theorem four_cells (w : World) (t : TypeId) {z0 z1 z2 z3 lo hi : Int} (h0 : lo ≤ z0 ∧ z0 ≤ hi) (h1 : lo ≤ z1 ∧ z1 ≤ hi) (h2 : lo ≤ z2 ∧ z2 ≤ hi) (h3 : lo ≤ z3 ∧ z3 ≤ hi) : ∀ i, i < 4 → ∃ z : Int, (w.alloc (.cells #[.int .i64 z0, .int .i64 z1, .int .i64 z2, .int .i64 z3] t)).cell? ⟨w.heap.size, i, none⟩ = some (.int .i64 z) ∧ lo ≤ z ∧ z ≤ hi := by
  intro i hi
  have : i = 0 ∨ i = 1 ∨ i = 2 ∨ i = 3 := by omega
  rcases this with rfl | rfl | rfl | rfl
  · exact ⟨z0, by simp, h0⟩
  · exact ⟨z1, by simp, h1⟩
  · exact ⟨z2, by simp, h2⟩
  · exact ⟨z3, by simp, h3⟩
theorem five_cells (w : World) (t : TypeId) {z0 z1 z2 z3 z4 lo hi : Int} (h0 : lo ≤ z0 ∧ z0 ≤ hi) (h1 : lo ≤ z1 ∧ z1 ≤ hi) (h2 : lo ≤ z2 ∧ z2 ≤ hi) (h3 : lo ≤ z3 ∧ z3 ≤ hi) (h4 : lo ≤ z4 ∧ z4 ≤ hi) : ∀ i, i < 5 → ∃ z : Int, (w.alloc (.cells #[.int .i64 z0, .int .i64 z1, .int .i64 z2, .int .i64 z3, .int .i64 z4] t)).cell? ⟨w.heap.size, i, none⟩ = some (.int .i64 z) ∧ lo ≤ z ∧ z ≤ hi := by
  intro i hi
  have : i = 0 ∨ i = 1 ∨ i = 2 ∨ i = 3 ∨ i = 4 := by omega
  rcases this with rfl | rfl | rfl | rfl | rfl
  · exact ⟨z0, by simp, h0⟩
  · exact ⟨z1, by simp, h1⟩
  · exact ⟨z2, by simp, h2⟩
  · exact ⟨z3, by simp, h3⟩
  · exact ⟨z4, by simp, h4⟩
theorem asize (w : World) (o : Obj) : (w.alloc o).heap.size = w.heap.size + 1 := by simp
/-- A cursor in a block of its own. -/
theorem kp_new {w w' : World} {o : Obj} (h : Kp w.heap.size (w.alloc o) w') : Below w.heap.size w w' :=
  ((Below.refl _ _).alloc (Nat.le_refl _) o).trans (h.below (Nat.le_refl _) (by simp))
set_option maxRecDepth 100000 in
set_option maxHeartbeats 2000000 in
theorem drawRank_any {a : Option Addr} {len cap : Nat} {w : World} (hs : Hid (Src w a len)) :
    Calls Try.prog 26 #[.slice a len cap] w fun e w' => ∃ a1 c1 xs, e = .returned (.slice a1 xs.length c1) ∧ xs.length ≤ 13 ∧ ARow w' a1 xs ∧ Below w.heap.size w w' := by
  obtain ⟨i0, hi, hz0, hz1, hz2⟩ := info_parts infI
  have HC := hide (cur_new (cap := cap) hs.out)
  have HOLD := hide HC.out.old
  have HKN : Hid (∀ w', Kp w.heap.size (w.alloc (.cells #[.slice a len cap, .int .i64 0, .int .u64 0] 60)) w' → Below w.heap.size w w') := hide fun w' h => kp_new h
  have hcw : w.heap.size < (w.alloc (.cells #[.slice a len cap, .int .i64 0, .int .u64 0] 60)).heap.size := by simp
  go_enter Try.func26, Try.ntmps26
  go_wp2_with fail
  generalize w.alloc (.cells #[.slice a len cap, .int .i64 0, .int .u64 0] 60) = W at *
  generalize hce : w.heap.size = c at *
  have HE := hide hce
  clear hce
  refine (pick_any 9 (by omega) HC.out (by omega)).mono ?_
  rintro e w1 ⟨r1, rfl, p0, p1, hc1, hk1⟩
  have HC1 := hide hc1
  have HK1 := hide hk1
  clear hc1 hk1
  go_upto_if 12 with (go_at_call 42; refine (one_any 20 (by omega) HC1.out (by omega)).mono ?_; rintro e w2 ⟨r2, rfl, hc2, hk2⟩; have HC2 := hide hc2; have HK2 := hide (HK1.out.trans hk2); clear hc2 hk2)
  go_cut [5] (fun s5 wc => ∃ k : Nat, s5 = .int .i64 k ∧ k ≤ 13 ∧ Hid (Cur wc c a len cap 6) ∧ Hid (Kp c W wc))
  case first =>
    cases r2
    · go_wp2_with fail
      go_meet
      case rel => exact ⟨r1.toNat, by rw [Int.toNat_of_nonneg p0], by omega, hide (HC2.out.le (by omega)), HK2⟩
    · go_wp2_with fail
      refine (pick_any 2 (by omega) HC2.out (by omega)).mono ?_
      rintro e w3 ⟨z, rfl, z0, z1, hc3, hk3⟩
      have HK3 := hide (HK2.out.trans hk3)
      have HC3 := hide hc3
      clear hc3 hk3
      go_wp2_with fail
      go_meet
      case rel => exact ⟨(12 + z).toNat, by rw [Int.toNat_of_nonneg (by omega)], by omega, hide (HC3.out.le (by omega)), HK3⟩
  case rest =>
    obtain ⟨k0, rfl, hk0, HC4, HK4⟩ := hcut
    go_wp2_with fail
    go_loopw [4, 5] (fun v s wr => ∃ (k : Nat) (xs : List Int), s = .int .i64 k ∧ xs.length + k ≤ 13 ∧ wr.ownsRow W.heap.size 3 1 v xs.length (ints xs) ∧ Hid (Cur wr c a len cap (6 + 4 * xs.length)) ∧ Hid (Kp c W wr)) (fun _ s _ => (intOf s).toNat)
    case atStart => exact ⟨k0, [], rfl, by simp; omega, World.ownsRow_nil _ _ _ _, hide (HC4.out.le (by simp)), HK4⟩
    case round =>
      obtain ⟨k, xs, rfl, hlen, hown, HCR, HKR⟩ := hrel
      by_cases hk : 0 < k
      · go_wp2_with fail
        refine (pick_any 6 (by omega) HCR.out (by omega)).mono ?_
        rintro e w3 ⟨r3, rfl, q0, q1, hc3, hk3⟩
        have own3 := own_kp hown hk3 hcw
        have HC3 := hide hc3
        have HK3 := hide (HKR.out.trans hk3)
        clear hc3 hk3
        go_wp2_with fail
        refine (amongB_any (lo := -1) (hi := 5000000) (HC3.out.below (below_alloc w3 _)) (by omega) (by omega) (by omega) (by simp) (by have := HC3.out.1; omega) (five_cells w3 _ (by omega) (by omega) (by omega) (by omega) (by omega))).mono ?_
        rintro e w4 ⟨z, rfl, z0, z1, hc4, hk4⟩
        have own4 := own_kp (own3.alloc _) hk4 hcw
        have HC4' := hide hc4
        have HK4' := hide ((HK3.out.alloc _).trans hk4)
        have hs4 := HK4'.out.size
        obtain ⟨m0, m1⟩ := mul_bd q0 (by omega) z0 z1
        have e1 : wrap64 (r3 * z) = r3 * z := wrap_id' _ (by omega) (by omega)
        have e2 : IntKind.i64.wrap (r3 * z) = r3 * z := by rw [IntKind.wrap_i64]; omega
        clear hc4 hk4
        go_wp2_with (first
          | (at_builtin; refine wpList_append_own _ rfl _ _ 27 rfl W.heap.size 3 i0 (.int .i64 0) 1 8 Try.underlying27 hi hz0 hz1 hz2 rfl (by decide) _ _ _ rfl (own4.alloc _) ⟨w4.heap.size, 0, none⟩ 1 1 (ints [r3 * z]) rfl rfl (newI_one _ _ rfl) (intI_cells _) (by unfold maxLen; omega) (by omega) (by simp; omega) ?_))
        intro v' w5 hown' hgrow _
        have HK5 := hide (kp_grow HK4'.out own4 hgrow)
        have HC5 := hide (cur_grow HC4'.out hcw HOLD.out hs4 own4 hgrow)
        have HO5 : Hid (w5.ownsRow W.heap.size 3 1 v' (xs ++ [r3 * z]).length (ints (xs ++ [r3 * z]))) := hide (by rw [ints_snoc, List.length_append]; exact hown')
        clear hown' hgrow own4 own3
        go_wp2_with fail
        go_roundw
        case rel => exact ⟨k - 1, xs ++ [r3 * z], by rw [show ((k - 1 : Nat) : Int) = (k : Int) - 1 by omega], by simp; omega, HO5.out, hide (HC5.out.le (by simp; omega)), HK5⟩
        case measure => simp only [intOf]; omega
      · have hk' : k = 0 := by omega
        subst hk'
        obtain ⟨av, cv, rfl, ra⟩ := own_slice rfl hown
        have HRA := hide ra
        clear hown ra
        go_wp2_with fail
        go_ret
        exact ⟨_, _, xs, rfl, by omega, HRA.out, by rw [HE.out]; exact HKN.out _ HKR.out⟩
end Go.Proofs.Ytegonbilomcpkaa
