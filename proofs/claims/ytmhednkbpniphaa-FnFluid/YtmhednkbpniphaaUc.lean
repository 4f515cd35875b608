/-
  What the partings of a room answer, the program's and the model's: parts in memory of their own.
-/
import Derived.Test.YtmhednkbpniphaaUa
import Derived.Test.YtmhednkbpniphaaSi
import Derived.Test.YtmhednkbpniphaaWr
namespace Go.Proofs.Ytmhednkbpniphaa
open Go.RowKit

set_option maxRecDepth 100000 in
set_option maxHeartbeats 400000 in
theorem room_any {a : Option Addr} {n c : Nat} {p : Int} {fs : List Int} {w : World} (h : Hid (ARow w a fs)) (hn : Hid (fs.length = n)) :
    Calls Try.prog 40 #[.slice a n c, .int .i64 p] w fun e w' => e = .returned (.bool (Fd.roomB fs p)) ∧ w' = w := by
  have HE : Hid (Fd.roomB fs p = (Sh.flowB fs && Pf.inB p 8 1000)) := hide rfl
  cases h1 : Sh.flowB fs
  · have HF : Hid (false = Fd.roomB fs p) := hide (by rw [HE.out, h1]; rfl)
    have H1 := hide h1
    clear h1
    go_enter Try.func40, Try.ntmps40
    go_wp2_with (go_at_call 31; refine (flows_eq h hn H1).mono ?_; rintro e w1 ⟨rfl, rfl⟩)
    go_ret
    exact ⟨ret_bool HF.out, rfl⟩
  · have HF : Hid (Pf.inB p 8 1000 = Fd.roomB fs p) := hide (by rw [HE.out, h1]; rfl)
    have H1 := hide h1
    clear h1
    go_enter Try.func40, Try.ntmps40
    go_wp2_with (first
      | (go_at_call 31; refine (flows_eq h hn H1).mono ?_; rintro e w1 ⟨rfl, rfl⟩)
      | (go_at_call 41; refine (between_eq HF.out).mono ?_; rintro e w1 ⟨rfl, rfl⟩))
    go_ret
    exact ⟨rfl, rfl⟩
theorem room_eq {a : Option Addr} {n c : Nat} {p : Int} {fs : List Int} {w : World} {r : Bool} (h : Hid (ARow w a fs)) (hn : Hid (fs.length = n)) (hr : Hid (Fd.roomB fs p = r)) :
    Calls Try.prog 40 #[.slice a n c, .int .i64 p] w fun e w' => e = .returned (.bool r) ∧ w' = w := hr.out ▸ room_any h hn
set_option maxRecDepth 100000 in
set_option maxHeartbeats 400000 in
theorem sroom_any {a : Option Addr} {n c : Nat} {p : Int} {fs : List Int} {w : World} (h : Hid (ARow w a fs)) (hn : Hid (fs.length = n)) :
    Calls Try.prog 49 #[.slice a n c, .int .i64 p] w fun e w' => e = .returned (.bool (Fd.roomB fs p)) ∧ w' = w := by
  have HE : Hid (Fd.roomB fs p = (Sh.flowB fs && Pf.inB p 8 1000)) := hide rfl
  cases h1 : Sh.flowB fs
  · have HF : Hid (false = Fd.roomB fs p) := hide (by rw [HE.out, h1]; rfl)
    have H1 := hide h1
    clear h1
    go_enter Try.func49, Try.ntmps49
    go_wp2_with (go_at_call 36; refine (sflows_eq h hn H1).mono ?_; rintro e w1 ⟨rfl, rfl⟩)
    go_ret
    exact ⟨ret_bool HF.out, rfl⟩
  · have HF : Hid (Pf.inB p 8 1000 = Fd.roomB fs p) := hide (by rw [HE.out, h1]; rfl)
    have H1 := hide h1
    clear h1
    go_enter Try.func49, Try.ntmps49
    go_wp2_with (first
      | (go_at_call 36; refine (sflows_eq h hn H1).mono ?_; rintro e w1 ⟨rfl, rfl⟩)
      | (go_at_call 53; refine (in_eq HF.out).mono ?_; rintro e w1 ⟨rfl, rfl⟩))
    go_ret
    exact ⟨rfl, rfl⟩
theorem sroom_eq {a : Option Addr} {n c : Nat} {p : Int} {fs : List Int} {w : World} {r : Bool} (h : Hid (ARow w a fs)) (hn : Hid (fs.length = n)) (hr : Hid (Fd.roomB fs p = r)) :
    Calls Try.prog 49 #[.slice a n c, .int .i64 p] w fun e w' => e = .returned (.bool r) ∧ w' = w := hr.out ▸ sroom_any h hn

theorem fill_set (xs ys : List Int) (k n : Nat) (x : Int) (hy : ys.length = n) (hx : xs.length = n) (hk : k < n) (h : ys.take k = xs.take k) (e : xs.getD k 0 = x) : (ys.set k x).take (k + 1) = xs.take (k + 1) := by
  subst e
  exact getD_set_take xs ys k (by omega) (by omega) h
theorem fill_all {xs ys : List Int} {n : Nat} (hy : ys.length = n) (hx : xs.length = n) (h : ys.take n = xs.take n) : ys = xs := by
  rwa [← hy, List.take_length, hy, ← hx, List.take_length] at h
theorem take_snoc (xs : List Int) (k : Nat) (x : Int) (hk : k < xs.length) (e : xs.getD k 0 = x) : ints (xs.take (k + 1)) = ints (xs.take k) ++ ints [x] := by
  subst e
  rw [List.take_succ_eq_append_getElem hk, ← Pf.getD_lt _ 0 hk]; simp [ints]
theorem isum_wide {a : Option Addr} {n c : Nat} {xs : List Int} {w : World} (h : Hid (ARow w a xs)) (hn : Hid (xs.length = n)) (hl : n ≤ 8) (hr : Hid (Pf.allB xs 1 1000 = true)) :
    Calls Try.prog 74 #[.slice a n c] w fun e w' => e = .returned (.int .i64 xs.sum) ∧ w' = w := by
  have := hn.out
  subst this
  exact isum_any h.out (by omega) (Fd.allB_wide hr.out (by omega) (by omega))
theorem sisum_wide {a : Option Addr} {n c : Nat} {xs : List Int} {w : World} (h : Hid (ARow w a xs)) (hn : Hid (xs.length = n)) (hl : n ≤ 8) (hr : Hid (Pf.allB xs 1 1000 = true)) :
    Calls Try.prog 76 #[.slice a n c] w fun e w' => e = .returned (.int .i64 xs.sum) ∧ w' = w := by
  have := hn.out
  subst this
  exact sisum_any h.out (by omega) (Fd.allB_wide hr.out (by omega) (by omega))
theorem sum_wide {xs : List Int} {n : Nat} (hn : xs.length = n) (h0 : 0 < n) (h8 : n ≤ 8) (h : Pf.allB xs 1 1000 = true) : 1 ≤ xs.sum ∧ xs.sum ≤ 8000 := by
  have := Pf.sum_bd h
  rw [hn] at this
  omega

set_option maxRecDepth 100000 in
set_option maxHeartbeats 2000000 in
theorem pb_any {a : Option Addr} {n c : Nat} {r : Int} {xs : List Int} {w : World} (h : Hid (ARow w a xs)) (hn : Hid (xs.length = n)) (n0 : 0 < n) (n8 : n ≤ 8) (hb : Hid (Pf.allB xs 1 1000 = true)) (r0 : 8 ≤ r) (r1 : r ≤ 1000) :
    Calls Try.prog 47 #[.int .i64 r, .slice a n c] w fun e w' => e = .returned (.slice (some ⟨w.heap.size, 0, none⟩) n n) ∧ Below w.heap.size w w' ∧ w.heap.size < w'.heap.size ∧ w'.ownsRow w.heap.size 3 1 (.slice (some ⟨w.heap.size, 0, none⟩) n n) n (ints (Fd.parts r xs)) := by
  have hmk := makeI_run n (by omega)
  have HM := hide (made_own w n (by omega))
  have hsum := hide (fun c => isum_wide (c := c) h hn n8 hb)
  obtain ⟨s0, s1⟩ := sum_wide hn.out n0 n8 hb.out
  have HP : Hid ((Fd.parts r xs).length = n) := hide (by rw [Fd.parts_len]; exact hn.out)
  have HAT : Hid (∀ k, k < n → (Fd.parts r xs).getD k 0 = Fd.part r (xs.getD k 0) xs.sum) := hide fun k hk => Fd.parts_at r xs (by rw [hn.out]; exact hk)
  generalize hS : xs.sum = S at *
  clear hS
  have hS0 : (S == 0) = false := by simp; omega
  go_enter Try.func47, Try.ntmps47
  go_wp2_with (go_at_call 74; refine (hsum.out _).mono ?_; rintro e w1 ⟨rfl, rfl⟩)
  go_loopw [7, 8, 16] (fun _ _ s wr => ∃ (k : Nat) (ys : List Int), s = .int .i64 k ∧ k ≤ n ∧ ys.length = n ∧ Hid (ys.take k = (Fd.parts r xs).take k) ∧ wr.ownsRow w1.heap.size 3 1 (.slice (some ⟨w1.heap.size, 0, none⟩) n n) n (ints ys) ∧ Below w1.heap.size w1 wr ∧ w1.heap.size < wr.heap.size) (fun _ _ s _ => n - (intOf s).toNat)
  case atStart => exact ⟨0, List.replicate n 0, rfl, Nat.zero_le _, by simp, hide (by simp), HM.out, (Below.refl _ _).alloc (Nat.le_refl _) _, by simp⟩
  case round =>
    obtain ⟨k, ys, rfl, hk', hy, HT, hown, hB, hz⟩ := hrel
    by_cases hlt : k < n
    · obtain ⟨ba, oa, rfl, q1⟩ := (h.out.below hB).at (i := k) (by rw [hn.out]; exact hlt)
      obtain ⟨x0, x1⟩ := Pf.inB_yes (Pf.allB_get hb.out (i := k) (by rw [hn.out]; exact hlt))
      have i0 : (0 : Int) ≤ (k : Int) := by omega
      have i1 : (k : Int) < (n : Int) := by omega
      have c0 : wr.cell? ⟨w1.heap.size, k, none⟩ = some (.int .i64 (ys.getD k 0)) := by rw [hown.cellAt k (by omega), ints_get ys k (by omega)]
      have f0 := hown.frozenAt k
      have HX := hide (HAT.out k hlt)
      generalize xs.getD k 0 = x at *
      obtain ⟨m0, m1, d0, d1⟩ := Fd.part_bd r0 r1 x0 x1 (show 0 < S by omega)
      have e1 : wrap64 (r * x) = r * x := wrap_id _ (by omega) (by omega)
      have e2 : (r * x).tdiv S = r * x / S := Int.tdiv_eq_ediv_of_nonneg m0
      have e3 : wrap64 (r * x / S) = r * x / S := wrap_id _ (by omega) (by omega)
      have e4 : max 1 (r * x / S) = Fd.part r x S := Fd.part_max' (by omega) (by omega) (by omega)
      have HSET := hide (fill_set (Fd.parts r xs) ys k n _ hy HP.out hlt HT.out HX.out)
      obtain ⟨st1, st2⟩ := hown.stored k (.int .i64 (Fd.part r x S))
      rw [ints_set] at st1
      have HST := hide st1
      generalize ys.getD k 0 = y at *
      clear hmk st1 hown st2 m0 m1
      go_wp2_with fail
      go_roundw
      case rel => exact ⟨k + 1, ys.set k (Fd.part r x S), by go_num, by omega, by simpa using hy, HSET, HST.out, hB.setCell (Nat.le_refl _) _, by simpa using hz⟩
      case measure => simp only [intOf]; omega
    · have hke : k = n := by omega
      subst hke
      have HE := hide (fill_all hy HP.out HT.out)
      go_wp2_with fail
      go_ret
      exact ⟨rfl, hB, hz, by rw [← HE.out]; exact hown⟩

set_option maxRecDepth 100000 in
set_option maxHeartbeats 2000000 in
theorem ew_any {a : Option Addr} {n c : Nat} {fs : List Int} {w : World} (hn : Hid (fs.length = n)) (n8 : n ≤ 8) :
    Calls Try.prog 52 #[.slice a n c] w fun e w' => e = .returned (.slice (some ⟨w.heap.size, 0, none⟩) n n) ∧ Below w.heap.size w w' ∧ ARow w' (some ⟨w.heap.size, 0, none⟩) (Fd.ones fs) := by
  have hmk := makeI_run n (by omega)
  have HM := hide (made_own w n (by omega))
  have HP : Hid ((Fd.ones fs).length = n) := hide (by unfold Fd.ones; rw [List.length_replicate]; exact hn.out)
  have HAT : Hid (∀ k, k < n → (Fd.ones fs).getD k 0 = 1) := hide fun k hk => by unfold Fd.ones; rw [hn.out]; simp [hk]
  go_enter Try.func52, Try.ntmps52
  go_wp2_with fail
  go_loopw [4, 10] (fun _ s wr => ∃ (k : Nat) (ys : List Int), s = .int .i64 k ∧ k ≤ n ∧ ys.length = n ∧ Hid (ys.take k = (Fd.ones fs).take k) ∧ wr.ownsRow w.heap.size 3 1 (.slice (some ⟨w.heap.size, 0, none⟩) n n) n (ints ys) ∧ Below w.heap.size w wr ∧ w.heap.size < wr.heap.size) (fun _ s _ => n - (intOf s).toNat)
  case atStart => exact ⟨0, List.replicate n 0, rfl, Nat.zero_le _, by simp, hide (by simp), HM.out, (Below.refl _ _).alloc (Nat.le_refl _) _, by simp⟩
  case round =>
    obtain ⟨k, ys, rfl, hk', hy, HT, hown, hB, hz⟩ := hrel
    by_cases hlt : k < n
    · have i0 : (0 : Int) ≤ (k : Int) := by omega
      have i1 : (k : Int) < (n : Int) := by omega
      have c0 : wr.cell? ⟨w.heap.size, k, none⟩ = some (.int .i64 (ys.getD k 0)) := by rw [hown.cellAt k (by omega), ints_get ys k (by omega)]
      have f0 := hown.frozenAt k
      have HSET := hide (fill_set (Fd.ones fs) ys k n _ hy HP.out hlt HT.out (HAT.out k hlt))
      obtain ⟨st1, st2⟩ := hown.stored k (.int .i64 1)
      rw [ints_set] at st1
      have HST := hide st1
      generalize ys.getD k 0 = y at *
      clear hmk st1 hown st2
      go_wp2_with fail
      go_roundw
      case rel => exact ⟨k + 1, ys.set k 1, by go_num, by omega, by simpa using hy, HSET, HST.out, hB.setCell (Nat.le_refl _) _, by simpa using hz⟩
      case measure => simp only [intOf]; omega
    · have hke : k = n := by omega
      subst hke
      have HE := hide (fill_all hy HP.out HT.out)
      go_wp2_with fail
      go_ret
      exact ⟨rfl, hB, by rw [← HE.out]; exact arow_owns hy.symm hown⟩

set_option maxRecDepth 100000 in
set_option maxHeartbeats 2000000 in
theorem rw_any {a : Option Addr} {n c : Nat} {fs : List Int} {w : World} (h : Hid (ARow w a fs)) (hn : Hid (fs.length = n)) (hf : Hid (Sh.flowB fs = true)) (n8 : n ≤ 8) :
    Calls Try.prog 48 #[.slice a n c] w fun e w' => e = .returned (.slice (some ⟨w.heap.size, 0, none⟩) n n) ∧ Below w.heap.size w w' ∧ ARow w' (some ⟨w.heap.size, 0, none⟩) (Fd.roots fs) := by
  have hmk := makeI_run n (by omega)
  have HM := hide (made_own w n (by omega))
  have HP : Hid ((Fd.roots fs).length = n) := hide (by rw [Fd.roots_len]; exact hn.out)
  have HAT : Hid (∀ k, k < n → (Fd.roots fs).getD k 0 = Rt.rt (10000 * fs.getD k 0)) := hide fun k hk => Fd.roots_at fs (by rw [hn.out]; exact hk)
  go_enter Try.func48, Try.ntmps48
  go_wp2_with fail
  go_loopw [4, 5, 11] (fun _ _ s wr => ∃ (k : Nat) (ys : List Int), s = .int .i64 k ∧ k ≤ n ∧ ys.length = n ∧ Hid (ys.take k = (Fd.roots fs).take k) ∧ wr.ownsRow w.heap.size 3 1 (.slice (some ⟨w.heap.size, 0, none⟩) n n) n (ints ys) ∧ Below w.heap.size w wr ∧ w.heap.size < wr.heap.size) (fun _ _ s _ => n - (intOf s).toNat)
  case atStart => exact ⟨0, List.replicate n 0, rfl, Nat.zero_le _, by simp, hide (by simp), HM.out, (Below.refl _ _).alloc (Nat.le_refl _) _, by simp⟩
  case round =>
    obtain ⟨k, ys, rfl, hk', hy, HT, hown, hB, hz⟩ := hrel
    by_cases hlt : k < n
    · obtain ⟨ba, oa, rfl, q1⟩ := (h.out.below hB).at (i := k) (by rw [hn.out]; exact hlt)
      obtain ⟨x0, x1⟩ := Sh.flowB_at hf.out (i := k) (by rw [hn.out]; exact hlt)
      have i0 : (0 : Int) ≤ (k : Int) := by omega
      have i1 : (k : Int) < (n : Int) := by omega
      have c0 : wr.cell? ⟨w.heap.size, k, none⟩ = some (.int .i64 (ys.getD k 0)) := by rw [hown.cellAt k (by omega), ints_get ys k (by omega)]
      have f0 := hown.frozenAt k
      have HX := hide (HAT.out k hlt)
      generalize fs.getD k 0 = x at *
      have e1 : wrap64 (10000 * x) = 10000 * x := wrap_id _ (by omega) (by omega)
      have hroot := hide (whole_root (10000 * x) wr (by omega) (by omega))
      generalize Rt.rt (10000 * x) = R at *
      have HSET := hide (fill_set (Fd.roots fs) ys k n _ hy HP.out hlt HT.out HX.out)
      obtain ⟨st1, st2⟩ := hown.stored k (.int .i64 R)
      rw [ints_set] at st1
      have HST := hide st1
      generalize ys.getD k 0 = y at *
      clear hmk st1 hown st2
      go_wp2_with (go_at_call 75; refine hroot.out.mono ?_; rintro e w1 ⟨rfl, hw⟩; obtain rfl : wr = w1 := hw.symm)
      go_roundw
      case rel => exact ⟨k + 1, ys.set k R, by go_num, by omega, by simpa using hy, HSET, HST.out, hB.setCell (Nat.le_refl _) _, by simpa using hz⟩
      case measure => simp only [intOf]; omega
    · have hke : k = n := by omega
      subst hke
      have HE := hide (fill_all hy HP.out HT.out)
      go_wp2_with fail
      go_ret
      exact ⟨rfl, hB, by rw [← HE.out]; exact arow_owns hy.symm hown⟩
end Go.Proofs.Ytmhednkbpniphaa
