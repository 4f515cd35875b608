/-
  What areChosen, BoundOf and ValueOf of the program, and l6Places, l6Gain, BoundOf and ValueOf of the model answer.
-/
import Derived.Test.YtdlpbemjbmgbeaaCe
namespace Go.Proofs.Ytdlpbemjbmgbeaa
open Go.RowKit

def chB (L : List (List Int)) (p : Int) : Bool := Of.offersB L && Pf.inB p 0 40
theorem chB_yes {L : List (List Int)} {p : Int} (h : chB L p = true) : Of.offersB L = true ∧ 0 ≤ p ∧ p ≤ 40 := by
  simp only [chB, Bool.and_eq_true] at h
  exact ⟨h.1, Pf.inB_yes h.2⟩

set_option maxRecDepth 100000 in
set_option maxHeartbeats 1000000 in
theorem ach_any {a : Option Addr} {n c : Nat} {L : List (List Int)} {p : Int} {w : World} (hn : L.length = n) (h : ORow w a L) :
    Calls Try.prog 27 #[.slice a n c, .int .i64 p] w fun e w' => e = .returned (.bool (chB L p)) ∧ Below w.heap.size w w' := by
  have HC := hide (gof_any (c := c) hn h)
  unfold chB
  clear h hn
  cases hg : Of.offersB L
  · rw [hg] at HC
    clear hg
    go_enter Try.func27, Try.ntmps27
    go_wp2_with ((go_at_call 11; refine HC.out.mono ?_; rintro e w1 ⟨rfl, hb1⟩))
    go_ret
    exact ⟨rfl, hb1⟩
  · rw [hg] at HC
    clear hg
    cases hp : Pf.inB p 0 40
    · go_enter Try.func27, Try.ntmps27
      go_wp2_with (first | (go_at_call 11; refine HC.out.mono ?_; rintro e w1 ⟨rfl, hb1⟩) | (go_at_call 38; refine (between_eq hp).mono ?_; rintro e w2 ⟨rfl, rfl⟩))
      go_ret
      exact ⟨rfl, hb1⟩
    · go_enter Try.func27, Try.ntmps27
      go_wp2_with (first | (go_at_call 11; refine HC.out.mono ?_; rintro e w1 ⟨rfl, hb1⟩) | (go_at_call 38; refine (between_eq hp).mono ?_; rintro e w2 ⟨rfl, rfl⟩))
      go_ret
      exact ⟨rfl, hb1⟩
theorem ach_eq {a : Option Addr} {n c : Nat} {L : List (List Int)} {p : Int} {w : World} {b : Bool} (hn : L.length = n) (h : ORow w a L) (hb : chB L p = b) :
    Calls Try.prog 27 #[.slice a n c, .int .i64 p] w fun e w' => e = .returned (.bool b) ∧ Below w.heap.size w w' := hb ▸ ach_any hn h

set_option maxRecDepth 100000 in
set_option maxHeartbeats 400000 in
theorem pl_eq {p : Int} {w : World} {b : Bool} (h : Pf.inB p 0 40 = b) :
    Calls Try.prog 32 #[.int .i64 p] w fun e w' => e = .returned (.bool b) ∧ w' = w := by
  go_enter Try.func32, Try.ntmps32
  go_wp2_with ((go_at_call 42; refine (in_eq h).mono ?_; rintro e w2 ⟨rfl, rfl⟩))
  go_ret
  exact ⟨rfl, rfl⟩

set_option maxRecDepth 100000 in
set_option maxHeartbeats 1000000 in
theorem gn_any {a : Option Addr} {n c k : Nat} {o : List Int} {w : World} (hn : o.length = n) (hk : k ≤ n) (hl : n ≤ 1000) (h : ARow w a o) :
    Calls Try.prog 34 #[.agg #[.slice a n c], .int .i64 k] w fun e w' => e = .returned (.int .i64 (Of.gain o k)) ∧ Below w.heap.size w w' := by
  cases k with
  | zero =>
    go_enter Try.func34, Try.ntmps34
    go_wp2_with fail
    go_ret
    exact ⟨rfl, o_below_new _ _⟩
  | succ k =>
    obtain ⟨b, off, rfl, r1⟩ := h.at' (i := k) (by omega)
    have hz : (((k + 1 : Nat) : Int) == 0) = false := by simp; omega
    have j0 : (0 : Int) ≤ (k : Int) := by omega
    have j1 : (k : Int) < (n : Int) := by omega
    have j2 : wrap64 (((k + 1 : Nat) : Int) - 1) = (k : Int) := by rw [wrap_id' _ (by omega) (by omega)]; omega
    rw [Of.gain_succ]
    generalize o.getD k 0 = x at *
    generalize hK : ((k + 1 : Nat) : Int) = K at *
    clear hK
    go_enter Try.func34, Try.ntmps34
    go_wp2_with fail
    go_ret
    exact ⟨rfl, o_below_new _ _⟩

set_option maxRecDepth 100000 in
set_option maxHeartbeats 1000000 in
theorem bo_no {a : Option Addr} {n c : Nat} {L : List (List Int)} {p : Int} {w : World} (hn : L.length = n) (h : ORow w a L) (hg : chB L p = false) :
    Calls Try.prog 8 #[.slice a n c, .int .i64 p] w fun e w' => e = .returned (.tuple #[.int .i64 0, .bool false]) ∧ Below w.heap.size w w' := by
  have HC := hide (ach_eq (c := c) hn h hg)
  clear h hn hg
  go_enter Try.func8, Try.ntmps8
  go_wp2_with fail
  refine HC.out.mono ?_
  rintro e w1 ⟨rfl, hb1⟩
  go_wp2_with fail
  go_ret2
  exact ⟨rfl, hb1⟩
set_option maxRecDepth 100000 in
set_option maxHeartbeats 2000000 in
theorem bo_yes {a : Option Addr} {n c : Nat} {L : List (List Int)} {p : Int} {w : World} (hn : L.length = n) (h : ORow w a L) (hg : chB L p = true) :
    Calls Try.prog 8 #[.slice a n c, .int .i64 p] w fun e w' => e = .returned (.tuple #[.int .i64 (Of.topS L L.length), .bool true]) ∧ Below w.heap.size w w' := by
  have HC := hide (ach_eq (c := c) hn h hg)
  have H := hide h
  have HN := hide hn
  have HG := hide (chB_yes hg).1
  have h12 := Of.offersB_len HG.out
  rw [hn] at h12
  clear h hn hg
  go_enter Try.func8, Try.ntmps8
  go_wp2_with fail
  refine HC.out.mono ?_
  rintro e w1 ⟨rfl, hb1⟩
  clear HC
  go_wp2_with fail
  go_loopw [6, 8, 15] (fun s6 _ s wr => ∃ (k : Nat) (q : Int), s6 = .int .i64 q ∧ s = .int .i64 k ∧ k ≤ n ∧ Hid (q = Of.topS L k) ∧ 0 ≤ q ∧ q ≤ 1000 * k ∧ Hid (Below w.heap.size w wr)) (fun _ _ s _ => n - (intOf s).toNat)
  case atStart => exact ⟨0, 0, rfl, rfl, Nat.zero_le _, hide rfl, by omega, by omega, hide hb1⟩
  case round =>
    obtain ⟨k, q, rfl, rfl, hk, HQ, q0, q1, HB⟩ := hrel
    by_cases hlt : k < n
    · obtain ⟨b, off, ai, ci, rfl, hb, r1, R1⟩ := (H.out.below HB.out).at (i := k) (by rw [HN.out]; exact hlt)
      have i0' : (0 : Int) ≤ (k : Int) := by omega
      have i1' : (k : Int) < (n : Int) := by omega
      have ho := Of.offersB_at HG.out k
      have hm6 := (Of.offB_yes ho).1
      have ht := Of.top_bd ho
      obtain ⟨N, hN⟩ : ∃ N, (L.getD k []).length + 1 = N := ⟨_, rfl⟩
      have HC := hide (fun (x : Obj) => gbc_any (c := ci) rfl hN (by omega) (R1.alloc x))
      have HT : Hid (Of.topS L (k + 1) = q + Of.top (L.getD k [])) := hide (by rw [HQ.out]; rfl)
      have HL : Hid ((0 :: L.getD k []).length = N) := hide (by rw [List.length_cons]; exact hN)
      have HX : Hid (Lib.maxOf (0 :: L.getD k []) = Of.top (L.getD k [])) := hide rfl
      have N0 : 0 < N := by omega
      have N1 : N ≤ 1000 := by omega
      generalize (L.getD k []).length = m at *
      generalize Of.top (L.getD k []) = x at *
      clear R1 ho
      go_wp2_with fail
      refine (HC.out _).mono ?_
      rintro e w2 ⟨g, cap, rfl, own2, hb2⟩
      have HB2 := hide (HB.out.trans (((o_below_new _ _).trans (hb2.mono (by simp))).mono HB.out.size))
      have R2 := hide (arow_owns HL.out.symm own2)
      clear own2 hb2
      go_wp2_with fail
      refine (mx_any HL.out N0 (by omega) R2.out).mono ?_
      rintro e w3 ⟨rfl, hw⟩
      obtain rfl : w2 = w3 := hw.symm
      rw [HX.out]
      go_wp2_with fail
      go_roundw
      case rel => exact ⟨k + 1, q + x, by go_num, by go_num, by omega, hide HT.out.symm, by omega, by omega, HB2⟩
      case measure => simp only [intOf]; omega
    · have hke : k = n := by omega
      have HE : Hid (q = Of.topS L L.length) := hide (by rw [HN.out, ← hke]; exact HQ.out)
      clear hke
      go_wp2_with fail
      go_ret2
      exact ⟨by rw [← HE.out]; rfl, HB.out⟩

set_option maxRecDepth 100000 in
set_option maxHeartbeats 1000000 in
theorem sbo_no {a : Option Addr} {n c : Nat} {L : List (List Int)} {p : Int} {w : World} (hn : L.length = n) (hm : n ≤ 1048576) (h : ORow w a L) (hg : chB L p = false) :
    Calls Try.prog 9 #[.slice a n c, .int .i64 p] w fun e w' => e = .returned (.tuple #[.int .i64 0, .bool false]) ∧ Below w.heap.size w w' := by
  have HC := hide (sgof_any (c := c) hn hm h)
  unfold chB at hg
  clear h hn
  cases ho : Of.offersB L
  · rw [ho] at HC
    clear ho hg
    go_enter Try.func9, Try.ntmps9
    go_wp2_with ((go_at_call 12; refine HC.out.mono ?_; rintro e w1 ⟨rfl, hb1⟩))
    go_ret2
    exact ⟨rfl, hb1⟩
  · rw [ho] at HC hg
    have hp : Pf.inB p 0 40 = false := hg
    clear ho hg
    go_enter Try.func9, Try.ntmps9
    go_wp2_with (first | (go_at_call 12; refine HC.out.mono ?_; rintro e w1 ⟨rfl, hb1⟩) | (go_at_call 32; refine (pl_eq hp).mono ?_; rintro e w2 ⟨rfl, rfl⟩))
    go_ret2
    exact ⟨rfl, hb1⟩
set_option maxRecDepth 100000 in
set_option maxHeartbeats 2000000 in
theorem sbo_yes {a : Option Addr} {n c : Nat} {L : List (List Int)} {p : Int} {w : World} (hn : L.length = n) (hm : n ≤ 1048576) (h : ORow w a L) (hg : chB L p = true) :
    Calls Try.prog 9 #[.slice a n c, .int .i64 p] w fun e w' => e = .returned (.tuple #[.int .i64 (Of.topS L L.length), .bool true]) ∧ Below w.heap.size w w' := by
  have HC := hide (sgof_any (c := c) hn hm h)
  have H := hide h
  have HN := hide hn
  have HG := hide (chB_yes hg).1
  have h12 := Of.offersB_len HG.out
  rw [hn] at h12
  have hp : Pf.inB p 0 40 = true := Pf.inB_of (chB_yes hg).2.1 (chB_yes hg).2.2
  rw [HG.out] at HC
  clear h hn hg
  go_enter Try.func9, Try.ntmps9
  go_wp2_with (first | (go_at_call 12; refine HC.out.mono ?_; rintro e w1 ⟨rfl, hb1⟩) | (go_at_call 32; refine (pl_eq hp).mono ?_; rintro e w2 ⟨rfl, rfl⟩))
  clear HC
  go_loopw [6, 8, 9, 11, 22] (fun s6 _ _ _ s wr => ∃ (k : Nat) (q : Int), s6 = .int .i64 q ∧ s = .int .i64 k ∧ k ≤ n ∧ Hid (q = Of.topS L k) ∧ 0 ≤ q ∧ q ≤ 1000 * k ∧ Hid (Below w.heap.size w wr)) (fun _ _ _ _ s _ => n - (intOf s).toNat)
  case atStart => exact ⟨0, 0, rfl, rfl, Nat.zero_le _, hide rfl, by omega, by omega, hide hb1⟩
  case round =>
    obtain ⟨k, q, rfl, rfl, hk, HQ, q0, q1, HB⟩ := hrel
    by_cases hlt : k < n
    · obtain ⟨b, off, ai, ci, rfl, hb, r1, R1⟩ := (H.out.below HB.out).at (i := k) (by rw [HN.out]; exact hlt)
      have i0' : (0 : Int) ≤ (k : Int) := by omega
      have i1' : (k : Int) < (n : Int) := by omega
      have ho := Of.offersB_at HG.out k
      have hm6 := (Of.offB_yes ho).1
      have ht := Of.top_bd ho
      have HBD := hide fun i => Of.gain_bd ho i
      have HT : Hid (Of.topS L (k + 1) = q + Of.top (L.getD k [])) := hide (by rw [HQ.out]; rfl)
      generalize L.getD k [] = o at *
      have HR := hide R1
      have HL := hide (rfl : o.length = o.length)
      generalize hmm : o.length = m at *
      have HM := hide hmm
      have HBN := hide fun x => HB.out.trans ((o_below_new wr x).mono HB.out.size)
      clear R1 ho hmm
      go_wp2_with fail
      go_loop [9, 11, 29] (fun s9 _ s => ∃ (j : Nat) (y : Int), s9 = .int .i64 y ∧ s = .int .i64 j ∧ j ≤ m ∧ Hid (y = Lib.maxOf ((0 :: o).take (j + 1)))) (fun _ _ s => m - (intOf s).toNat)
      case atStart => exact ⟨0, 0, rfl, rfl, Nat.zero_le _, hide (Of.top_one o).symm⟩
      case round =>
        obtain ⟨j, y, rfl, rfl, hj, HY⟩ := hrel
        by_cases hjl : j < m
        · obtain ⟨bb, ob, rfl, r2⟩ := HR.out.at' (i := j) (by rw [HM.out]; exact hjl)
          have j0' : (0 : Int) ≤ (j : Int) := by omega
          have j1' : (j : Int) < (m : Int) := by omega
          have HS := hide (Of.top_take o (n := j) (by rw [HM.out]; exact hjl))
          rw [← HY.out] at HS
          generalize o.getD j 0 = x at *
          by_cases hxy : y < x
          · have HE : Hid (x = Lib.maxOf ((0 :: o).take (j + 1 + 1))) := hide (by rw [show j + 1 + 1 = j + 2 from rfl, HS.out]; omega)
            clear HS
            go_wp2_with fail
            go_round
            case rel => exact ⟨j + 1, x, rfl, by go_num, by omega, HE⟩
            case measure => simp only [intOf]; omega
          · have HE : Hid (y = Lib.maxOf ((0 :: o).take (j + 1 + 1))) := hide (by rw [show j + 1 + 1 = j + 2 from rfl, HS.out]; omega)
            clear HS
            go_wp2_with fail
            go_round
            case rel => exact ⟨j + 1, y, rfl, by go_num, by omega, HE⟩
            case measure => simp only [intOf]; omega
        · have hje : j = m := by omega
          have HE : Hid (Of.topS L (k + 1) = q + y ∧ y = Of.top o) := hide (by
            have h1 := HY.out
            rw [hje, ← HM.out, Of.top_cons] at h1
            exact ⟨by rw [HT.out, h1], h1⟩)
          have hy0 := HE.out.2
          rw [← hy0] at ht
          clear hje hy0
          go_wp2_with fail
          go_roundw
          case rel => exact ⟨k + 1, q + y, by go_num, by go_num, by omega, hide HE.out.1.symm, by omega, by omega, hide (HBN.out _)⟩
          case measure => simp only [intOf]; omega
    · have hke : k = n := by omega
      have HE : Hid (q = Of.topS L L.length) := hide (by rw [HN.out, ← hke]; exact HQ.out)
      clear hke
      go_wp2_with fail
      go_ret2
      exact ⟨by rw [← HE.out]; rfl, HB.out⟩
end Go.Proofs.Ytdlpbemjbmgbeaa
