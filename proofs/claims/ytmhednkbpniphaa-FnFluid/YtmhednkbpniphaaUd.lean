/-
  What EqualParts, TimeParts and RootParts answer, the program's and the model's.
-/
import Derived.Test.YtmhednkbpniphaaUc
namespace Go.Proofs.Ytmhednkbpniphaa
open Go.RowKit

/-- What is owned from higher up on is owned from lower down on. -/
theorem own_base {w : World} {b b' e s n : Nat} {v : Value} {xs : List Value} (h : w.ownsRow b' e s v n xs) (hb : b ≤ b') : w.ownsRow b e s v n xs := by
  refine ⟨h.1, ?_⟩
  rcases h.2 with h0 | ⟨g, cap, cur, hv, hg, r⟩
  · exact Or.inl h0
  · exact Or.inr ⟨g, cap, cur, hv, Nat.le_trans hb hg, r⟩
def eqL (fs : List Int) (r : Int) : List Int := Fd.parts r (Fd.ones fs)
def tiL (fs : List Int) (r : Int) : List Int := Fd.parts r fs
def roL (fs : List Int) (r : Int) : List Int := Fd.parts r (Fd.roots fs)
theorem eqL_len (fs : List Int) (r : Int) : (eqL fs r).length = fs.length := by unfold eqL; rw [Fd.parts_len]; simp [Fd.ones]
theorem tiL_len (fs : List Int) (r : Int) : (tiL fs r).length = fs.length := by unfold tiL; rw [Fd.parts_len]
theorem roL_len (fs : List Int) (r : Int) : (roL fs r).length = fs.length := by unfold roL; rw [Fd.parts_len, Fd.roots_len]
theorem room_facts {fs : List Int} {n : Nat} {r : Int} (hn : Hid (fs.length = n)) (hk : Hid (Fd.roomB fs r = true)) : 0 < n ∧ n ≤ 8 ∧ 8 ≤ r ∧ r ≤ 1000 ∧ Sh.flowB fs = true := by
  obtain ⟨a, b, c⟩ := Fd.roomB_yes hk.out
  obtain ⟨d, e, _⟩ := Sh.flowB_yes a
  have := hn.out
  exact ⟨by omega, by omega, b, c, a⟩

set_option maxRecDepth 100000 in
set_option maxHeartbeats 2000000 in
theorem spb_any {a : Option Addr} {n c : Nat} {r : Int} {xs : List Int} {w : World} (h : Hid (ARow w a xs)) (hn : Hid (xs.length = n)) (n0 : 0 < n) (n8 : n ≤ 8) (hb : Hid (Pf.allB xs 1 1000 = true)) (r0 : 8 ≤ r) (r1 : r ≤ 1000) :
    Calls Try.prog 51 #[.slice a n c, .int .i64 r] w fun e w' => ∃ v, e = .returned v ∧ Below w.heap.size w w' ∧ w'.ownsRow w.heap.size 3 1 v n (ints (Fd.parts r xs)) := by
  obtain ⟨i0, hi, hz0, hz1, hz2⟩ := info_parts infI
  have hsum := hide (fun c => sisum_wide (c := c) h hn n8 hb)
  obtain ⟨s0, s1⟩ := sum_wide hn.out n0 n8 hb.out
  have HP : Hid ((Fd.parts r xs).length = n) := hide (by rw [Fd.parts_len]; exact hn.out)
  have HAT : Hid (∀ k, k < n → (Fd.parts r xs).getD k 0 = Fd.part r (xs.getD k 0) xs.sum) := hide fun k hk => Fd.parts_at r xs (by rw [hn.out]; exact hk)
  generalize hS : xs.sum = S at *
  clear hS
  have hS0 : (S == 0) = false := by simp; omega
  go_enter Try.func51, Try.ntmps51
  go_wp2_with (go_at_call 76; refine (hsum.out _).mono ?_; rintro e w1 ⟨rfl, hw⟩; obtain rfl : w = w1 := hw.symm)
  go_loopw [6, 8, 9, 14] (fun v _ _ s wr => ∃ k : Nat, s = .int .i64 k ∧ k ≤ n ∧ wr.ownsRow w.heap.size 3 1 v k (ints ((Fd.parts r xs).take k)) ∧ Below w.heap.size w wr) (fun _ _ _ s _ => n - (intOf s).toNat)
  case atStart => exact ⟨0, rfl, Nat.zero_le _, World.ownsRow_nil _ _ _ _, Below.refl _ _⟩
  case round =>
    obtain ⟨k, rfl, hk', hown, hB⟩ := hrel
    have hs2 := hB.size
    by_cases hlt : k < n
    · obtain ⟨ba, oa, rfl, q1⟩ := (h.out.below hB).at (i := k) (by rw [hn.out]; exact hlt)
      obtain ⟨x0, x1⟩ := Pf.inB_yes (Pf.allB_get hb.out (i := k) (by rw [hn.out]; exact hlt))
      have j0 : (0 : Int) ≤ (k : Int) := by omega
      have j1 : (k : Int) < (n : Int) := by omega
      have HX := hide (HAT.out k hlt)
      generalize xs.getD k 0 = x at *
      obtain ⟨m0, m1, d0, d1⟩ := Fd.part_bd r0 r1 x0 x1 (show 0 < S by omega)
      have e1 : wrap64 (r * x) = r * x := wrap_id _ (by omega) (by omega)
      have e2 : (r * x).tdiv S = r * x / S := Int.tdiv_eq_ediv_of_nonneg m0
      have e3 : wrap64 (r * x / S) = r * x / S := wrap_id _ (by omega) (by omega)
      have HT := hide (take_snoc (Fd.parts r xs) k _ (by rw [HP.out]; exact hlt) HX.out)
      clear m0 m1
      by_cases hq : r * x / S = 0
      · have hq' : (r * x / S == 0) = true := by simp [hq]
        have HV : Hid (Fd.part r x S = 1) := hide (by unfold Fd.part; rw [if_pos hq])
        clear hq
        go_wp2_with (first
          | (at_builtin; refine wpList_append_own _ rfl _ _ 23 rfl w.heap.size 3 i0 (.int .i64 0) 1 8 Try.underlying23 hi hz0 hz1 hz2 rfl (by decide) _ _ _ rfl (hown.alloc _) ⟨wr.heap.size, 0, none⟩ 1 1 (ints [1]) rfl rfl (newI_one _ _ rfl) (intI_cells _) (by unfold maxLen; omega) (by omega) (by simp; omega) ?_))
        intro v' w4 hown' hgrow _
        have hfin := own_grow hown hgrow (Nat.le_refl _) hs2
        rw [← HV.out, ← HT.out] at hown'
        go_wp2_with fail
        go_roundw
        case rel => exact ⟨k + 1, by go_num, by omega, hown', hB.trans hfin⟩
        case measure => simp only [intOf]; omega
      · have hq' : (r * x / S == 0) = false := by simp [hq]
        have HV : Hid (Fd.part r x S = r * x / S) := hide (by unfold Fd.part; rw [if_neg hq])
        clear hq
        go_wp2_with (first
          | (at_builtin; refine wpList_append_own _ rfl _ _ 23 rfl w.heap.size 3 i0 (.int .i64 0) 1 8 Try.underlying23 hi hz0 hz1 hz2 rfl (by decide) _ _ _ rfl (hown.alloc _) ⟨wr.heap.size, 0, none⟩ 1 1 (ints [r * x / S]) rfl rfl (newI_one _ _ rfl) (intI_cells _) (by unfold maxLen; omega) (by omega) (by simp; omega) ?_))
        intro v' w4 hown' hgrow _
        have hfin := own_grow hown hgrow (Nat.le_refl _) hs2
        rw [← HV.out, ← HT.out] at hown'
        go_wp2_with fail
        go_roundw
        case rel => exact ⟨k + 1, by go_num, by omega, hown', hB.trans hfin⟩
        case measure => simp only [intOf]; omega
    · have hke : k = n := by omega
      subst hke
      have HE : Hid ((Fd.parts r xs).take k = Fd.parts r xs) := hide (by rw [List.take_of_length_le]; rw [HP.out]; exact Nat.le_refl _)
      rw [HE.out] at hown
      go_wp2_with fail
      go_ret
      exact ⟨_, rfl, hB, hown⟩

set_option maxRecDepth 100000 in
set_option maxHeartbeats 1000000 in
theorem eqp_no {a : Option Addr} {n c : Nat} {p : Int} {fs : List Int} {w : World} (h : Hid (ARow w a fs)) (hn : Hid (fs.length = n)) (hk : Hid (Fd.roomB fs p = false)) :
    Calls Try.prog 15 #[.slice a n c, .int .i64 p] w fun e w' => e = .returned (.tuple #[.slice none 0 0, .bool false]) ∧ Below w.heap.size w w' := by
  go_enter Try.func15, Try.ntmps15
  go_wp2_with (go_at_call 40; refine (room_eq h hn hk).mono ?_; rintro e w1 ⟨rfl, rfl⟩)
  go_ret2
  exact ⟨rfl, Below.refl _ _⟩
set_option maxRecDepth 100000 in
set_option maxHeartbeats 1000000 in
theorem eqp_yes {a : Option Addr} {n c : Nat} {p : Int} {fs : List Int} {w : World} (h : Hid (ARow w a fs)) (hn : Hid (fs.length = n)) (hk : Hid (Fd.roomB fs p = true)) :
    Calls Try.prog 15 #[.slice a n c, .int .i64 p] w fun e w' => ∃ g, e = .returned (.tuple #[.slice (some ⟨g, 0, none⟩) n n, .bool true]) ∧ Below w.heap.size w w' ∧ w'.ownsRow w.heap.size 3 1 (.slice (some ⟨g, 0, none⟩) n n) n (ints (eqL fs p)) := by
  obtain ⟨n0, n8, p0, p1, hf⟩ := room_facts hn hk
  have HO : Hid ((Fd.ones fs).length = n) := hide (by unfold Fd.ones; rw [List.length_replicate]; exact hn.out)
  have HA := hide (Fd.ones_all fs)
  clear hf
  go_enter Try.func15, Try.ntmps15
  go_wp2_with (first
    | (go_at_call 40; refine (room_eq h hn hk).mono ?_; rintro e w1 ⟨rfl, hw⟩; obtain rfl : w = w1 := hw.symm)
    | (go_at_call 52; refine (ew_any hn n8).mono ?_; rintro e w1 ⟨rfl, hb1, row1⟩; have R1 := hide row1; clear row1)
    | (go_at_call 47; refine (pb_any R1 HO n0 n8 HA p0 p1).mono ?_; rintro e w2 ⟨rfl, hb2, hz2, own2⟩))
  go_ret2
  exact ⟨_, rfl, hb1.trans (hb2.mono hb1.size), own_base own2 hb1.size⟩

set_option maxRecDepth 100000 in
set_option maxHeartbeats 1000000 in
theorem seqp_no {a : Option Addr} {n c : Nat} {p : Int} {fs : List Int} {w : World} (h : Hid (ARow w a fs)) (hn : Hid (fs.length = n)) (hk : Hid (Fd.roomB fs p = false)) :
    Calls Try.prog 16 #[.slice a n c, .int .i64 p] w fun e w' => e = .returned (.tuple #[.slice none 0 0, .bool false]) ∧ Below w.heap.size w w' := by
  go_enter Try.func16, Try.ntmps16
  go_wp2_with (go_at_call 49; refine (sroom_eq h hn hk).mono ?_; rintro e w1 ⟨rfl, rfl⟩)
  go_ret2
  exact ⟨rfl, Below.refl _ _⟩
set_option maxRecDepth 100000 in
set_option maxHeartbeats 2000000 in
theorem seqp_yes {a : Option Addr} {n c : Nat} {p : Int} {fs : List Int} {w : World} (h : Hid (ARow w a fs)) (hn : Hid (fs.length = n)) (hk : Hid (Fd.roomB fs p = true)) :
    Calls Try.prog 16 #[.slice a n c, .int .i64 p] w fun e w' => ∃ v, e = .returned (.tuple #[v, .bool true]) ∧ Below w.heap.size w w' ∧ w'.ownsRow w.heap.size 3 1 v n (ints (eqL fs p)) := by
  obtain ⟨i0, hi, hz0, hz1, hz2⟩ := info_parts infI
  obtain ⟨n0, n8, p0, p1, hf⟩ := room_facts hn hk
  have HEQ : Hid (eqL fs p = List.replicate n (p / (n : Int))) := hide (by unfold eqL; rw [Fd.even_eq hk.out]; unfold Fd.even; rw [hn.out])
  have hN0 : ((n : Int) == 0) = false := by simp; omega
  have e2 : p.tdiv (n : Int) = p / (n : Int) := Int.tdiv_eq_ediv_of_nonneg (by omega)
  have q0 : 0 ≤ p / (n : Int) := Int.ediv_nonneg (by omega) (by omega)
  have q1 : p / (n : Int) ≤ p := Int.ediv_le_self _ (by omega)
  have e3 : wrap64 (p / (n : Int)) = p / (n : Int) := wrap_id _ (by omega) (by omega)
  clear hf q0 q1
  go_enter Try.func16, Try.ntmps16
  go_wp2_with (go_at_call 49; refine (sroom_eq h hn hk).mono ?_; rintro e w1 ⟨rfl, hw⟩; obtain rfl : w = w1 := hw.symm)
  go_loopw [6, 13] (fun v s wr => ∃ k : Nat, s = .int .i64 k ∧ k ≤ n ∧ wr.ownsRow w.heap.size 3 1 v k (ints (List.replicate k (p / (n : Int)))) ∧ Below w.heap.size w wr) (fun _ s _ => n - (intOf s).toNat)
  case atStart => exact ⟨0, rfl, Nat.zero_le _, World.ownsRow_nil _ _ _ _, Below.refl _ _⟩
  case round =>
    obtain ⟨k, rfl, hk', hown, hB⟩ := hrel
    have hs2 := hB.size
    by_cases hlt : k < n
    · go_wp2_with (first
        | (at_builtin; refine wpList_append_own _ rfl _ _ 23 rfl w.heap.size 3 i0 (.int .i64 0) 1 8 Try.underlying23 hi hz0 hz1 hz2 rfl (by decide) _ _ _ rfl (hown.alloc _) ⟨wr.heap.size, 0, none⟩ 1 1 (ints [p / (n : Int)]) rfl rfl (newI_one _ _ rfl) (intI_cells _) (by unfold maxLen; omega) (by omega) (by simp; omega) ?_))
      intro v' w4 hown' hgrow _
      have hfin := own_grow hown hgrow (Nat.le_refl _) hs2
      have HS : Hid (ints (List.replicate k (p / (n : Int))) ++ ints [p / (n : Int)] = ints (List.replicate (k + 1) (p / (n : Int)))) := hide (by rw [List.replicate_succ']; simp [ints])
      rw [HS.out] at hown'
      go_wp2_with fail
      go_roundw
      case rel => exact ⟨k + 1, by go_num, by omega, hown', hB.trans hfin⟩
      case measure => simp only [intOf]; omega
    · have hke : k = n := by omega
      subst hke
      rw [← HEQ.out] at hown
      go_wp2_with fail
      go_ret2
      exact ⟨_, rfl, hB, hown⟩

set_option maxRecDepth 100000 in
set_option maxHeartbeats 1000000 in
theorem tip_no {a : Option Addr} {n c : Nat} {p : Int} {fs : List Int} {w : World} (h : Hid (ARow w a fs)) (hn : Hid (fs.length = n)) (hk : Hid (Fd.roomB fs p = false)) :
    Calls Try.prog 17 #[.slice a n c, .int .i64 p] w fun e w' => e = .returned (.tuple #[.slice none 0 0, .bool false]) ∧ Below w.heap.size w w' := by
  go_enter Try.func17, Try.ntmps17
  go_wp2_with (go_at_call 40; refine (room_eq h hn hk).mono ?_; rintro e w1 ⟨rfl, rfl⟩)
  go_ret2
  exact ⟨rfl, Below.refl _ _⟩
set_option maxRecDepth 100000 in
set_option maxHeartbeats 1000000 in
theorem tip_yes {a : Option Addr} {n c : Nat} {p : Int} {fs : List Int} {w : World} (h : Hid (ARow w a fs)) (hn : Hid (fs.length = n)) (hk : Hid (Fd.roomB fs p = true)) :
    Calls Try.prog 17 #[.slice a n c, .int .i64 p] w fun e w' => ∃ g, e = .returned (.tuple #[.slice (some ⟨g, 0, none⟩) n n, .bool true]) ∧ Below w.heap.size w w' ∧ w'.ownsRow w.heap.size 3 1 (.slice (some ⟨g, 0, none⟩) n n) n (ints (tiL fs p)) := by
  obtain ⟨n0, n8, p0, p1, hf⟩ := room_facts hn hk
  have HA := hide (Fd.flow_all hf)
  clear hf
  go_enter Try.func17, Try.ntmps17
  go_wp2_with (first
    | (go_at_call 40; refine (room_eq h hn hk).mono ?_; rintro e w1 ⟨rfl, hw⟩; obtain rfl : w = w1 := hw.symm)
    | (go_at_call 47; refine (pb_any h hn n0 n8 HA p0 p1).mono ?_; rintro e w2 ⟨rfl, hb2, hz2, own2⟩))
  go_ret2
  exact ⟨_, rfl, hb2, own2⟩

set_option maxRecDepth 100000 in
set_option maxHeartbeats 1000000 in
theorem stip_no {a : Option Addr} {n c : Nat} {p : Int} {fs : List Int} {w : World} (h : Hid (ARow w a fs)) (hn : Hid (fs.length = n)) (hk : Hid (Fd.roomB fs p = false)) :
    Calls Try.prog 18 #[.slice a n c, .int .i64 p] w fun e w' => e = .returned (.tuple #[.slice none 0 0, .bool false]) ∧ Below w.heap.size w w' := by
  go_enter Try.func18, Try.ntmps18
  go_wp2_with (go_at_call 49; refine (sroom_eq h hn hk).mono ?_; rintro e w1 ⟨rfl, rfl⟩)
  go_ret2
  exact ⟨rfl, Below.refl _ _⟩
set_option maxRecDepth 100000 in
set_option maxHeartbeats 1000000 in
theorem stip_yes {a : Option Addr} {n c : Nat} {p : Int} {fs : List Int} {w : World} (h : Hid (ARow w a fs)) (hn : Hid (fs.length = n)) (hk : Hid (Fd.roomB fs p = true)) :
    Calls Try.prog 18 #[.slice a n c, .int .i64 p] w fun e w' => ∃ v, e = .returned (.tuple #[v, .bool true]) ∧ Below w.heap.size w w' ∧ w'.ownsRow w.heap.size 3 1 v n (ints (tiL fs p)) := by
  obtain ⟨n0, n8, p0, p1, hf⟩ := room_facts hn hk
  have HA := hide (Fd.flow_all hf)
  clear hf
  go_enter Try.func18, Try.ntmps18
  go_wp2_with (first
    | (go_at_call 49; refine (sroom_eq h hn hk).mono ?_; rintro e w1 ⟨rfl, hw⟩; obtain rfl : w = w1 := hw.symm)
    | (go_at_call 51; refine (spb_any h hn n0 n8 HA p0 p1).mono ?_; rintro e w2 ⟨v, rfl, hb2, own2⟩))
  go_ret2
  exact ⟨_, rfl, hb2, own2⟩

set_option maxRecDepth 100000 in
set_option maxHeartbeats 1000000 in
theorem rop_no {a : Option Addr} {n c : Nat} {p : Int} {fs : List Int} {w : World} (h : Hid (ARow w a fs)) (hn : Hid (fs.length = n)) (hk : Hid (Fd.roomB fs p = false)) :
    Calls Try.prog 13 #[.slice a n c, .int .i64 p] w fun e w' => e = .returned (.tuple #[.slice none 0 0, .bool false]) ∧ Below w.heap.size w w' := by
  go_enter Try.func13, Try.ntmps13
  go_wp2_with (go_at_call 40; refine (room_eq h hn hk).mono ?_; rintro e w1 ⟨rfl, rfl⟩)
  go_ret2
  exact ⟨rfl, Below.refl _ _⟩
set_option maxRecDepth 100000 in
set_option maxHeartbeats 1000000 in
theorem rop_yes {a : Option Addr} {n c : Nat} {p : Int} {fs : List Int} {w : World} (h : Hid (ARow w a fs)) (hn : Hid (fs.length = n)) (hk : Hid (Fd.roomB fs p = true)) :
    Calls Try.prog 13 #[.slice a n c, .int .i64 p] w fun e w' => ∃ g, e = .returned (.tuple #[.slice (some ⟨g, 0, none⟩) n n, .bool true]) ∧ Below w.heap.size w w' ∧ w'.ownsRow w.heap.size 3 1 (.slice (some ⟨g, 0, none⟩) n n) n (ints (roL fs p)) := by
  obtain ⟨n0, n8, p0, p1, hf⟩ := room_facts hn hk
  have HO : Hid ((Fd.roots fs).length = n) := hide (by rw [Fd.roots_len]; exact hn.out)
  have HA := hide (Fd.roots_all hf)
  have HF := hide hf
  clear hf
  go_enter Try.func13, Try.ntmps13
  go_wp2_with (first
    | (go_at_call 40; refine (room_eq h hn hk).mono ?_; rintro e w1 ⟨rfl, hw⟩; obtain rfl : w = w1 := hw.symm)
    | (go_at_call 48; refine (rw_any h hn HF n8).mono ?_; rintro e w1 ⟨rfl, hb1, row1⟩; have R1 := hide row1; clear row1)
    | (go_at_call 47; refine (pb_any R1 HO n0 n8 HA p0 p1).mono ?_; rintro e w2 ⟨rfl, hb2, hz2, own2⟩))
  go_ret2
  exact ⟨_, rfl, hb1.trans (hb2.mono hb1.size), own_base own2 hb1.size⟩

set_option maxRecDepth 100000 in
set_option maxHeartbeats 1000000 in
theorem srop_no {a : Option Addr} {n c : Nat} {p : Int} {fs : List Int} {w : World} (h : Hid (ARow w a fs)) (hn : Hid (fs.length = n)) (hk : Hid (Fd.roomB fs p = false)) :
    Calls Try.prog 14 #[.slice a n c, .int .i64 p] w fun e w' => e = .returned (.tuple #[.slice none 0 0, .bool false]) ∧ Below w.heap.size w w' := by
  go_enter Try.func14, Try.ntmps14
  go_wp2_with (go_at_call 49; refine (sroom_eq h hn hk).mono ?_; rintro e w1 ⟨rfl, rfl⟩)
  go_ret2
  exact ⟨rfl, Below.refl _ _⟩
set_option maxRecDepth 100000 in
set_option maxHeartbeats 2000000 in
theorem srop_yes {a : Option Addr} {n c : Nat} {p : Int} {fs : List Int} {w : World} (h : Hid (ARow w a fs)) (hn : Hid (fs.length = n)) (hk : Hid (Fd.roomB fs p = true)) :
    Calls Try.prog 14 #[.slice a n c, .int .i64 p] w fun e w' => ∃ v, e = .returned (.tuple #[v, .bool true]) ∧ Below w.heap.size w w' ∧ w'.ownsRow w.heap.size 3 1 v n (ints (roL fs p)) := by
  obtain ⟨i0, hi, hz0, hz1, hz2⟩ := info_parts infI
  obtain ⟨n0, n8, p0, p1, hf⟩ := room_facts hn hk
  have HO : Hid ((Fd.roots fs).length = n) := hide (by rw [Fd.roots_len]; exact hn.out)
  have HAT : Hid (∀ k, k < n → (Fd.roots fs).getD k 0 = Rt.rt (10000 * fs.getD k 0)) := hide fun k hk => Fd.roots_at fs (by rw [hn.out]; exact hk)
  have HA := hide (Fd.roots_all hf)
  have HF := hide hf
  clear hf
  go_enter Try.func14, Try.ntmps14
  go_wp2_with (go_at_call 49; refine (sroom_eq h hn hk).mono ?_; rintro e w1 ⟨rfl, hw⟩; obtain rfl : w = w1 := hw.symm)
  go_loopw [6, 8, 15] (fun v _ s wr => ∃ k : Nat, s = .int .i64 k ∧ k ≤ n ∧ wr.ownsRow w.heap.size 3 1 v k (ints ((Fd.roots fs).take k)) ∧ Below w.heap.size w wr) (fun _ _ s _ => n - (intOf s).toNat)
  case atStart => exact ⟨0, rfl, Nat.zero_le _, World.ownsRow_nil _ _ _ _, Below.refl _ _⟩
  case round =>
    obtain ⟨k, rfl, hk', hown, hB⟩ := hrel
    have hs2 := hB.size
    by_cases hlt : k < n
    · obtain ⟨ba, oa, rfl, q1⟩ := (h.out.below hB).at (i := k) (by rw [hn.out]; exact hlt)
      obtain ⟨x0, x1⟩ := Sh.flowB_at HF.out (i := k) (by rw [hn.out]; exact hlt)
      have j0 : (0 : Int) ≤ (k : Int) := by omega
      have j1 : (k : Int) < (n : Int) := by omega
      have HX := hide (HAT.out k hlt)
      generalize fs.getD k 0 = x at *
      have e1 : wrap64 (10000 * x) = 10000 * x := wrap_id _ (by omega) (by omega)
      have hroot := hide (sroot_any (10000 * x) wr (by omega) (by omega))
      generalize Rt.rt (10000 * x) = R at *
      have HT := hide (take_snoc (Fd.roots fs) k _ (by rw [HO.out]; exact hlt) HX.out)
      go_wp2_with (first
        | (go_at_call 50; refine hroot.out.mono ?_; rintro e w1 ⟨rfl, hw⟩; obtain rfl : wr = w1 := hw.symm)
        | (at_builtin; refine wpList_append_own _ rfl _ _ 23 rfl w.heap.size 3 i0 (.int .i64 0) 1 8 Try.underlying23 hi hz0 hz1 hz2 rfl (by decide) _ _ _ rfl (hown.alloc _) ⟨wr.heap.size, 0, none⟩ 1 1 (ints [R]) rfl rfl (newI_one _ _ rfl) (intI_cells _) (by unfold maxLen; omega) (by omega) (by simp; omega) ?_))
      intro v' w4 hown' hgrow _
      have hfin := own_grow hown hgrow (Nat.le_refl _) hs2
      rw [← HT.out] at hown'
      go_wp2_with fail
      go_roundw
      case rel => exact ⟨k + 1, by go_num, by omega, hown', hB.trans hfin⟩
      case measure => simp only [intOf]; omega
    · have hke : k = n := by omega
      subst hke
      have HE : Hid ((Fd.roots fs).take k = Fd.roots fs) := hide (by rw [List.take_of_length_le]; rw [HO.out]; exact Nat.le_refl _)
      rw [HE.out] at hown
      obtain ⟨g, cap, rfl, hg0, hgl⟩ := own_some hown (by omega)
      have R1 := hide (arow_owns HO.out.symm hown)
      clear hown
      go_wp2_with (go_at_call 51; refine (spb_any R1 HO n0 n8 HA p0 p1).mono ?_; rintro e w2 ⟨v, rfl, hb2, own2⟩)
      go_ret2
      exact ⟨_, rfl, hB.trans (hb2.mono hB.size), own_base own2 hB.size⟩
end Go.Proofs.Ytmhednkbpniphaa
