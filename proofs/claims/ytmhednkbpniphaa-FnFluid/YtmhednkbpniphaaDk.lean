/-
  Draws of chapter 5: DrawLeastCost, DrawIsWithin hand out some list and numbers, some fraction and bounds.
-/
import Derived.Test.YtmhednkbpniphaaDa
import Derived.Test.YtmhednkbpniphaaDc
import Derived.Test.YtmhednkbpniphaaUv
namespace Go.Proofs.Ytmhednkbpniphaa
open Go.RowKit

theorem Four.kp {w w' : World} {x c : Nat} {p q r s : Int} (h : Four w x p q r s) (hk : Kp c w w') (hne : x ≠ c) : Four w' x p q r s := by
  obtain ⟨h0, h1, h2, h3, h4, h5, h6, h7, h8⟩ := h
  exact ⟨(hk.cell h8 hne).trans h0, (hk.cell h8 hne).trans h1, (hk.cell h8 hne).trans h2, (hk.cell h8 hne).trans h3, (hk.frozen h8 hne).trans h4, (hk.frozen h8 hne).trans h5, (hk.frozen h8 hne).trans h6, (hk.frozen h8 hne).trans h7, Nat.lt_of_lt_of_le h8 hk.size⟩
theorem Res2.kp {w w' : World} {x c : Nat} (h : Res2 w x) (hk : Kp c w w') (hne : x ≠ c) : Res2 w' x := by
  obtain ⟨h0, h1, h2, h3, h4⟩ := h
  exact ⟨(hk.cell h4 hne).trans h0, (hk.cell h4 hne).trans h1, (hk.frozen h4 hne).trans h2, (hk.frozen h4 hne).trans h3, Nat.lt_of_lt_of_le h4 hk.size⟩
theorem eight_cells (w : World) (t : TypeId) (z0 z1 z2 z3 z4 z5 z6 z7 : Int) : ∀ i, i < 8 → ∃ z : Int, (w.alloc (.cells #[.int .i64 z0, .int .i64 z1, .int .i64 z2, .int .i64 z3, .int .i64 z4, .int .i64 z5, .int .i64 z6, .int .i64 z7] t)).cell? ⟨w.heap.size, i, none⟩ = some (.int .i64 z) := by
  intro i hi
  have : i = 0 ∨ i = 1 ∨ i = 2 ∨ i = 3 ∨ i = 4 ∨ i = 5 ∨ i = 6 ∨ i = 7 := by omega
  rcases this with rfl | rfl | rfl | rfl | rfl | rfl | rfl | rfl
  · exact ⟨z0, by simp⟩
  · exact ⟨z1, by simp⟩
  · exact ⟨z2, by simp⟩
  · exact ⟨z3, by simp⟩
  · exact ⟨z4, by simp⟩
  · exact ⟨z5, by simp⟩
  · exact ⟨z6, by simp⟩
  · exact ⟨z7, by simp⟩
theorem seven_cells (w : World) (t : TypeId) {z0 z1 z2 z3 z4 z5 z6 lo hi : Int} (h : (lo ≤ z0 ∧ z0 ≤ hi) ∧ (lo ≤ z1 ∧ z1 ≤ hi) ∧ (lo ≤ z2 ∧ z2 ≤ hi) ∧ (lo ≤ z3 ∧ z3 ≤ hi) ∧ (lo ≤ z4 ∧ z4 ≤ hi) ∧ (lo ≤ z5 ∧ z5 ≤ hi) ∧ (lo ≤ z6 ∧ z6 ≤ hi)) : ∀ i, i < 7 → ∃ z : Int, (w.alloc (.cells #[.int .i64 z0, .int .i64 z1, .int .i64 z2, .int .i64 z3, .int .i64 z4, .int .i64 z5, .int .i64 z6] t)).cell? ⟨w.heap.size, i, none⟩ = some (.int .i64 z) ∧ lo ≤ z ∧ z ≤ hi := by
  intro i hi
  have : i = 0 ∨ i = 1 ∨ i = 2 ∨ i = 3 ∨ i = 4 ∨ i = 5 ∨ i = 6 := by omega
  rcases this with rfl | rfl | rfl | rfl | rfl | rfl | rfl
  · exact ⟨z0, by simp, h.1⟩
  · exact ⟨z1, by simp, h.2.1⟩
  · exact ⟨z2, by simp, h.2.2.1⟩
  · exact ⟨z3, by simp, h.2.2.2.1⟩
  · exact ⟨z4, by simp, h.2.2.2.2.1⟩
  · exact ⟨z5, by simp, h.2.2.2.2.2.1⟩
  · exact ⟨z6, by simp, h.2.2.2.2.2.2⟩
set_option maxRecDepth 100000 in
set_option maxHeartbeats 400000 in
theorem croom_any {c len cap N : Nat} {a : Option Addr} {w : World} (hc : Cur w c a len cap N) (hN : N ≤ 800000000) :
    Calls Try.prog 27 #[.pointer (some ⟨c, 0, none⟩)] w fun e w' => ∃ r : Int, e = .returned (.int .i64 r) ∧ Cur w' c a len cap (N + 2) ∧ Kp c w w' := by
  have HC := hide hc
  clear hc
  go_enter Try.func27, Try.ntmps27
  go_wp2_with fail
  refine (among_any (HC.out.below (below_alloc w _)) (by omega) (by omega) (by omega) (by simp) (by have := HC.out.1; omega) (eight_cells w _ _ _ _ _ _ _ _ _)).mono ?_
  rintro e w2 ⟨z, rfl, hc2, hk2⟩
  have hk2' : Kp c w w2 := ((Kp.refl c w).alloc _).trans hk2
  go_wp2_with fail
  go_ret
  exact ⟨_, rfl, hc2, hk2'⟩
set_option maxRecDepth 100000 in
set_option maxHeartbeats 1000000 in
theorem drawLC_any {a : Option Addr} {len cap : Nat} {w : World} (hs : Hid (Src w a len)) :
    Calls Try.prog 20 #[.slice a len cap] w fun e w' => ∃ a1 c1 xs r f, e = .returned (.tuple #[.slice a1 xs.length c1, .int .i64 r, .int .i64 f]) ∧ xs.length ≤ 9 ∧ 0 ≤ f ∧ f ≤ 101 ∧ ARow w' a1 xs ∧ Below w.heap.size w w' := by
  have HC := hide (cur_new (cap := cap) hs.out)
  go_enter Try.func20, Try.ntmps20
  go_wp2_with fail
  refine (flow_any HC.out (by omega)).mono ?_
  rintro e w1 ⟨v1, xs, rfl, hx, own1, hc1, hk1⟩
  rw [asize] at own1
  obtain ⟨a1, c1, rfl, _⟩ := own_slice rfl own1
  have HO1 := hide own1
  have HC1 := hide hc1
  have HK1 := hide hk1
  clear own1 hc1 hk1
  go_wp2_with fail
  refine (croom_any HC1.out (by omega)).mono ?_
  rintro e w2 ⟨p, rfl, hc2, hk2⟩
  have HO2 := hide (own_kp HO1.out hk2 (Nat.lt_succ_self _))
  have HC2 := hide hc2
  have HK2 := hide (HK1.out.trans hk2)
  clear hc2 hk2 HO1 HC1 HK1
  go_wp2_with fail
  refine (amongB_any (lo := 0) (hi := 101) (HC2.out.below (below_alloc w2 _)) (by omega) (by omega) (by omega) (by simp) (by have := HC2.out.1; omega) (seven_cells w2 _ ⟨by omega, by omega, by omega, by omega, by omega, by omega, by omega⟩)).mono ?_
  rintro e w3 ⟨f, rfl, f0, f1, hc3, hk3⟩
  have hk3' : Kp w.heap.size w2 w3 := ((Kp.refl _ w2).alloc _).trans hk3
  obtain ⟨a1', c1', e1, r1⟩ := own_slice rfl (own_kp HO2.out hk3' (Nat.lt_succ_self _))
  cases e1
  have HR := hide (And.intro r1 (kp_new (HK2.out.trans hk3')))
  clear hc3 hk3 hk3' r1
  go_wp2_with fail
  refine bodyPost_ret (v := .tuple #[.slice a1 xs.length c1, .int .i64 p, .int .i64 f]) (by simp [results, Try.results20, go_sem]) rfl ?_
  exact ⟨a1, c1, xs, p, f, rfl, hx, f0, f1, HR.out⟩
end Go.Proofs.Ytmhednkbpniphaa
