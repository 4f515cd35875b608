/-
  What the Draw functions of chapter 4 hand out: some lists, some number; what sumOf of the laws answers; SubFrac at any fractions.
-/
import Derived.Test.YtljccbnkibfimaaDb
import Derived.Test.YtljccbnkibfimaaC
namespace Go.Proofs.Ytljccbnkibfimaa
open Go.RowKit

theorem asize (w : World) (o : Obj) : (w.alloc o).heap.size = w.heap.size + 1 := by simp
/-- A cursor in a block of its own. -/
theorem kp_new {w w' : World} {o : Obj} (h : Kp w.heap.size (w.alloc o) w') : Below w.heap.size w w' :=
  ((Below.refl _ _).alloc (Nat.le_refl _) o).trans (h.below (Nat.le_refl _) (by simp))
set_option maxRecDepth 100000 in
set_option maxHeartbeats 1000000 in
theorem drawCost_any {a : Option Addr} {len cap : Nat} {w : World} (hs : Hid (Src w a len)) :
    Calls Try.prog 51 #[.slice a len cap] w fun e w' => ∃ a1 c1 a2 c2 xs ys, e = .returned (.tuple #[.slice a1 xs.length c1, .slice a2 ys.length c2]) ∧ xs.length ≤ 9 ∧ ys.length ≤ 9 ∧ ARow w' a1 xs ∧ ARow w' a2 ys ∧ Below w.heap.size w w' := by
  have HC := hide (cur_new (cap := cap) hs.out)
  go_enter Try.func51, Try.ntmps51
  go_wp2_with fail
  refine (flow_any HC.out (by omega)).mono ?_
  rintro e w1 ⟨v1, xs, rfl, hx, own1, hc1, hk1⟩
  rw [asize] at own1
  obtain ⟨a1, c1, rfl, _⟩ := own_slice rfl own1
  have HO1 := hide own1
  have HC1 := hide hc1
  have HK1 := hide hk1
  clear own1 hc1 hk1
  go_wp2_with fail
  refine (countsFor_any HC1.out (by omega) (hide rfl) hx HO1.out).mono ?_
  rintro e w2 ⟨v2, ys, rfl, hy, own2, hc2, hk2⟩
  obtain ⟨a2, c2, rfl, r2⟩ := own_slice rfl own2
  obtain ⟨a1', c1', e1, r1⟩ := own_slice rfl (own_kp HO1.out hk2 (Nat.lt_succ_self _))
  cases e1
  have HR := hide (And.intro r1 (And.intro r2 (kp_new (HK1.out.trans hk2))))
  clear own2 hc2 hk2 r1 r2
  go_wp2_with fail
  go_ret2
  exact ⟨a1, c1, a2, c2, xs, ys, rfl, hx, hy, HR.out⟩
set_option maxRecDepth 100000 in
set_option maxHeartbeats 400000 in
theorem drawStable_any {a : Option Addr} {len cap : Nat} {w : World} (hs : Hid (Src w a len)) :
    Calls Try.prog 16 #[.slice a len cap] w fun e w' => ∃ a1 c1 a2 c2 xs ys, e = .returned (.tuple #[.slice a1 xs.length c1, .slice a2 ys.length c2]) ∧ xs.length ≤ 9 ∧ ys.length ≤ 9 ∧ ARow w' a1 xs ∧ ARow w' a2 ys ∧ Below w.heap.size w w' := by
  go_enter Try.func16, Try.ntmps16
  go_wp2_with (go_at_call 51; refine (drawCost_any hs).mono ?_; rintro e w1 ⟨a1, c1, a2, c2, xs, ys, rfl, hx, hy, r1, r2, hb⟩; have HR := hide (And.intro r1 (And.intro r2 hb)); clear r1 r2 hb)
  go_ret2
  exact ⟨a1, c1, a2, c2, xs, ys, rfl, hx, hy, HR.out⟩
set_option maxRecDepth 100000 in
set_option maxHeartbeats 1000000 in
theorem drawGain_any {a : Option Addr} {len cap : Nat} {w : World} (hs : Hid (Src w a len)) :
    Calls Try.prog 23 #[.slice a len cap] w fun e w' => ∃ a1 c1 a2 c2 xs ys k, e = .returned (.tuple #[.slice a1 xs.length c1, .slice a2 ys.length c2, .int .i64 k]) ∧ xs.length ≤ 9 ∧ ys.length ≤ 9 ∧ ARow w' a1 xs ∧ ARow w' a2 ys ∧ Below w.heap.size w w' := by
  have HC := hide (cur_new (cap := cap) hs.out)
  go_enter Try.func23, Try.ntmps23
  go_wp2_with fail
  refine (flow_any HC.out (by omega)).mono ?_
  rintro e w1 ⟨v1, xs, rfl, hx, own1, hc1, hk1⟩
  rw [asize] at own1
  obtain ⟨a1, c1, rfl, _⟩ := own_slice rfl own1
  have HO1 := hide own1
  have HC1 := hide hc1
  have HK1 := hide hk1
  clear own1 hc1 hk1
  go_wp2_with fail
  refine (countsFor_any HC1.out (by omega) (hide rfl) hx HO1.out).mono ?_
  rintro e w2 ⟨v2, ys, rfl, hy, own2, hc2, hk2⟩
  obtain ⟨a2, c2, rfl, _⟩ := own_slice rfl own2
  have HO1' := hide (own_kp HO1.out hk2 (Nat.lt_succ_self _))
  have HO2 := hide own2
  have HC2 := hide hc2
  have HK2 := hide (HK1.out.trans hk2)
  have hz : w.heap.size < w1.heap.size := by have := HK1.out.size; simp at this; omega
  clear own2 hc2 hk2
  have hle : (xs.length : Int) ≤ 9 := by omega
  go_wp2_with fail
  refine (pick_any ((xs.length : Int) + 2) (by omega) HC2.out (by omega)).mono ?_
  rintro e w3 ⟨r3, rfl, q0, q1, hc3, hk3⟩
  obtain ⟨a2', c2', e2, r2⟩ := own_slice rfl (own_kp HO2.out hk3 hz)
  cases e2
  obtain ⟨a1', c1', e1, r1⟩ := own_slice rfl (own_kp HO1'.out hk3 (Nat.lt_succ_self _))
  cases e1
  have HR := hide (And.intro r1 (And.intro r2 (kp_new (HK2.out.trans hk3))))
  clear hc3 hk3 r1 r2
  go_wp2_with fail
  refine bodyPost_ret (v := .tuple #[.slice a1 xs.length c1, .slice a2 ys.length c2, .int .i64 (r3 - 1)]) (by simp [results, Try.results23, go_sem]) rfl ?_
  exact ⟨a1, c1, a2, c2, xs, ys, r3 - 1, rfl, hx, hy, HR.out⟩
set_option maxRecDepth 100000 in
set_option maxHeartbeats 1000000 in
theorem drawKinds_any {a : Option Addr} {len cap : Nat} {w : World} (hs : Hid (Src w a len)) :
    Calls Try.prog 39 #[.slice a len cap] w fun e w' => ∃ a1 c1 xs p, e = .returned (.tuple #[.slice a1 xs.length c1, .int .i64 p]) ∧ xs.length ≤ 9 ∧ 0 ≤ p ∧ p ≤ 41 ∧ ARow w' a1 xs ∧ Below w.heap.size w w' := by
  have HC := hide (cur_new (cap := cap) hs.out)
  go_enter Try.func39, Try.ntmps39
  go_wp2_with fail
  refine (flow_any HC.out (by omega)).mono ?_
  rintro e w1 ⟨v1, xs, rfl, hx, own1, hc1, hk1⟩
  rw [asize] at own1
  obtain ⟨a1, c1, rfl, _⟩ := own_slice rfl own1
  have HO1 := hide own1
  have HC1 := hide hc1
  have HK1 := hide hk1
  clear own1 hc1 hk1
  go_wp2_with fail
  refine (placesFor_any HC1.out (by omega) hx).mono ?_
  rintro e w2 ⟨p, rfl, p0, p1, hc2, hk2⟩
  obtain ⟨a1', c1', e1, r1⟩ := own_slice rfl (own_kp HO1.out hk2 (Nat.lt_succ_self _))
  cases e1
  have HR := hide (And.intro r1 (kp_new (HK1.out.trans hk2)))
  clear hc2 hk2 r1
  go_wp2_with fail
  go_ret2
  exact ⟨a1, c1, xs, p, rfl, hx, p0, p1, HR.out⟩
set_option maxRecDepth 100000 in
set_option maxHeartbeats 400000 in
theorem drawShare_any {a : Option Addr} {len cap : Nat} {w : World} (hs : Hid (Src w a len)) :
    Calls Try.prog 6 #[.slice a len cap] w fun e w' => ∃ a1 c1 xs p, e = .returned (.tuple #[.slice a1 xs.length c1, .int .i64 p]) ∧ xs.length ≤ 9 ∧ 0 ≤ p ∧ p ≤ 41 ∧ ARow w' a1 xs ∧ Below w.heap.size w w' := by
  go_enter Try.func6, Try.ntmps6
  go_wp2_with (go_at_call 39; refine (drawKinds_any hs).mono ?_; rintro e w1 ⟨a1, c1, xs, p, rfl, hx, p0, p1, r1, hb⟩; have HR := hide (And.intro r1 hb); clear r1 hb)
  go_ret2
  exact ⟨a1, c1, xs, p, rfl, hx, p0, p1, HR.out⟩
set_option maxRecDepth 100000 in
set_option maxHeartbeats 1000000 in
theorem lsum_any {a : Option Addr} {c : Nat} {xs : List Int} {w : World} (h : ARow w a xs) (hl : xs.length ≤ 1000) (hb : Pf.allB xs (-10000000) 10000000 = true) :
    Calls Try.prog 13 #[.slice a xs.length c] w fun e w' => e = .returned (.int .i64 xs.sum) ∧ w' = w := by
  have H := hide h
  have HB := hide hb
  clear h hb
  go_enter Try.func13, Try.ntmps13
  go_wp2_with fail
  go_loop [3, 5, 8] (fun s3 _ s => ∃ (k : Nat) (n : Int), s3 = .int .i64 n ∧ s = .int .i64 k ∧ k ≤ xs.length ∧ Hid (n = (xs.take k).sum) ∧ -10000000000 ≤ n ∧ n ≤ 10000000000) (fun _ _ s => xs.length - (intOf s).toNat)
  case atStart => exact ⟨0, 0, rfl, rfl, Nat.zero_le _, hide (by simp), by omega, by omega⟩
  case round =>
    obtain ⟨k, n, rfl, rfl, hk, HN, hn0, hn1⟩ := hrel
    by_cases hlt : k < xs.length
    · obtain ⟨b, off, rfl, r1⟩ := H.out.at hlt
      have i0 : (0 : Int) ≤ (k : Int) := by omega
      have i1 : (k : Int) < (xs.length : Int) := by omega
      have hs := Pf.take_sum_succ xs k hlt
      have hx := Pf.inB_yes (Pf.allB_get HB.out hlt)
      have ht := Pf.sum_bd (Pf.allB_take HB.out (k + 1))
      rw [show (xs.take (k + 1)).length = k + 1 by simp; omega] at ht
      rw [hs, ← HN.out] at ht
      rw [← HN.out] at hs
      have HS := hide hs
      generalize xs.getD k 0 = x at *
      clear hs
      obtain ⟨hx0, hx1⟩ := hx
      have ht0 : -10000000000 ≤ n + x := by omega
      have ht1 : n + x ≤ 10000000000 := by omega
      clear ht
      go_wp2_with fail
      go_round
      case rel => exact ⟨k + 1, n + x, by go_num, by go_num, by omega, hide HS.out.symm, by omega, by omega⟩
      case measure => simp only [intOf]; omega
    · have hke : k = xs.length := by omega
      subst hke
      have HE := HN.out
      rw [List.take_length] at HE
      have HE' := hide HE
      clear HE
      go_wp2_with fail
      go_ret
      exact ⟨ret_int HE'.out, rfl⟩
theorem lsum_eqn {a : Option Addr} {n c : Nat} {xs : List Int} {w : World} (h : Hid (ARow w a xs)) (hn : Hid (xs.length = n)) (hl : n ≤ 1000) (hr : Hid (Pf.allB xs 1 40 = true)) :
    Calls Try.prog 13 #[.slice a n c] w fun e w' => e = .returned (.int .i64 xs.sum) ∧ w' = w := by
  have := hn.out
  subst this
  exact lsum_any h.out (by omega) (Pf.allB_of fun i hi => by have := Pf.inB_yes (Pf.allB_get hr.out hi); exact Pf.inB_of (by omega) (by omega))
theorem subG_any (p q : Int × Int) (w : World) :
    Calls Try.prog 25 #[.agg #[.int .i64 p.1, .int .i64 p.2], .agg #[.int .i64 q.1, .int .i64 q.2]] w fun e w' => e = .returned (.tuple #[.agg #[.int .i64 (Fr.subN p.1 p.2 q.1 q.2), .int .i64 (Fr.subD p.1 p.2 q.1 q.2)], .bool (Fr.subB p.1 p.2 q.1 q.2)]) ∧ Below w.heap.size w w' := by
  unfold Fr.subN Fr.subD Fr.subB
  cases h1 : Fr.goodB p.1 p.2
  · simpa using sub_no1 p.1 p.2 q.1 q.2 w h1
  · cases h2 : Fr.goodB q.1 q.2
    · simpa using sub_no2 p.1 p.2 q.1 q.2 w h1 h2
    · simpa using sub_yes p.1 p.2 q.1 q.2 w h1 h2
end Go.Proofs.Ytljccbnkibfimaa
