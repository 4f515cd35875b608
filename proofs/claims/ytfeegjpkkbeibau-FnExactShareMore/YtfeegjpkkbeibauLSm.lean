/-
  At any list and any number ShareMore answers as the model does, in memory of its own: the law's own walk.
-/
import Derived.Test.YtfeegjpkkbeibauSp
namespace Go.Proofs.Ytfeegjpkkbeibau
open Go.RowKit

set_option maxHeartbeats 400000 in
theorem lSm_long {a : Option Addr} {n c : Nat} {k : Int} {w : World} (h : 1048576 < n) :
    Calls Try.prog 8 #[.slice a n c, .int .i64 k] w fun e w' => e = .returned (.bool true) ∧ Below w.heap.size w w' := by
  have h1 : (1048576 : Int) < n := by omega
  go_enter Try.func8, Try.ntmps8
  go_wp2_with fail
  go_ret
  exact ⟨rfl, Below.refl _ _⟩

set_option maxHeartbeats 4000000 in
theorem lSm_no {a : Option Addr} {n c : Nat} {k : Int} {vs : List Int} {w : World} (hv : vs.length = n) (hn : n ≤ 1048576) (ha : ARow w a vs) (h : Sh.kindsB vs k = false) :
    Calls Try.prog 8 #[.slice a n c, .int .i64 k] w fun e w' => e = .returned (.bool true) ∧ Below w.heap.size w w' := by
  have h1 : ¬ (1048576 : Int) < n := by omega
  have HA := hide ha
  have HV := hide hv
  have HG := hide h
  clear ha hv h
  go_enter Try.func8, Try.ntmps8
  go_wp2_with fail
  refine (toI_own a c n vs _ HV.out hn HA.out).mono ?_
  rintro e w1 ⟨rfl, hb1, z1, own1⟩
  have R1 := hide (arow_owns HV.out.symm own1)
  clear own1
  go_wp2_with fail
  refine (ssm_no R1 HV HG).mono ?_
  rintro e w2 ⟨rfl, hb2⟩
  have hB2 : Below w.heap.size w w2 := hb1.trans (hb2.mono hb1.size)
  clear R1
  go_wp2_with fail
  refine (toI_own a c n vs _ HV.out hn (HA.out.below hB2)).mono ?_
  rintro e w3 ⟨rfl, hb3, z3, own3⟩
  have HO := hide own3
  have hB3 : Below w.heap.size w w3 := hB2.trans (hb3.mono hB2.size)
  clear own3
  go_wp2_with fail
  refine (sm_no (hide (arow_owns HV.out.symm HO.out)) HV HG).mono ?_
  rintro e w4 ⟨rfl, hb4⟩
  have HO4 := hide (owns_keep HO.out (hb4.block _ z3))
  have hB4 : Below w.heap.size w w4 := hB3.trans (hb4.mono hB3.size)
  have z4 := hb4.size
  go_wp2_with fail
  refine (eqSS_zero _ _ _ _ _).mono ?_
  rintro e w4a ⟨rfl, hb4a⟩
  have HO4a := hide (owns_keep HO4.out (hb4a.block _ (by omega)))
  have hB4a := hB4.trans (hb4a.mono hB4.size)
  have z4a := hb4a.size
  go_wp2_with fail
  refine (toI_own a c n vs _ HV.out hn (HA.out.below hB4a)).mono ?_
  rintro e w5 ⟨rfl, hb5, z5, own5⟩
  have HO5 := hide (owns_keep HO4a.out (hb5.block _ (by omega)))
  have hB5 := hB4a.trans (hb5.mono hB4a.size)
  have R5 := hide (arow_owns HV.out.symm own5)
  clear own5
  go_wp2_with fail
  refine (eqI_any HV.out hn (arow_owns HV.out.symm HO5.out) R5.out).mono ?_
  rintro e w6 ⟨rfl, q, rfl⟩
  have HO6 : Hid ((w5.drewN q).ownsRow w2.heap.size 3 1 (.slice (some ⟨w2.heap.size, 0, none⟩) n n) n (ints vs)) := HO5
  have hB6 := below_drewN hB5 q
  go_wp2_with fail
  refine (mark_any w2.heap.size n n w2.heap.size vs 1 _ HV.out (by omega) (by omega) (by omega) HO6.out).mono ?_
  rintro e w7 ⟨rfl, _, hg7⟩
  have hB7 : Below w.heap.size w w7 := hB6.trans (grown_below' hg7 hB2.size (by have := hB5.size; exact this))
  have hk : ¬ (1 : Int) + (n : Int) < 0 := by omega
  go_wp2_with fail
  refine (eqSS_zero _ _ _ _ _).mono ?_
  rintro e w7a ⟨rfl, hb7a⟩
  have hB7a := hB7.trans (hb7a.mono hB7.size)
  go_wp2_with fail
  refine (markSS_zero _ _ _ _).mono ?_
  rintro e w7b ⟨rfl, hw⟩
  obtain rfl : w7a = w7b := hw.symm
  go_wp2_with fail
  refine (heldSS_zero _ _ _ _).mono ?_
  rintro e w7b ⟨rfl, hw⟩
  obtain rfl : w7a = w7b := hw.symm
  go_wp2_with fail
  refine (toI_own a c n vs _ HV.out hn (HA.out.below hB7a)).mono ?_
  rintro e w8 ⟨rfl, hb8, z8, own8⟩
  have hB8 := hB7a.trans (hb8.mono hB7a.size)
  have R8 := hide (arow_owns HV.out.symm own8)
  clear own8
  go_wp2_with fail
  refine (sm_no R8 HV HG).mono ?_
  rintro e w9 ⟨rfl, hb9⟩
  have hB9 := hB8.trans (hb9.mono hB8.size)
  go_wp2_with fail
  refine (eqSS_zero _ _ _ _ _).mono ?_
  rintro e w9a ⟨rfl, hb9a⟩
  have hB9a := hB9.trans (hb9a.mono hB9.size)
  go_wp2_with fail
  refine (heldSS_zero _ _ _ _).mono ?_
  rintro e w9b ⟨rfl, hw⟩
  obtain rfl : w9a = w9b := hw.symm
  go_wp2_with fail
  go_ret
  exact ⟨rfl, hB9a⟩

set_option maxHeartbeats 4000000 in
theorem lSm_yes {a : Option Addr} {n c : Nat} {k : Int} {vs : List Int} {w : World} (hv : vs.length = n) (hn : n ≤ 1048576) (ha : ARow w a vs) (h : Sh.kindsB vs k = true) :
    Calls Try.prog 8 #[.slice a n c, .int .i64 k] w fun e w' => e = .returned (.bool true) ∧ Below w.heap.size w w' := by
  have h1 : ¬ (1048576 : Int) < n := by omega
  have hkb := Sh.kindsB_yes h
  have hfl := Sh.flowB_yes hkb.1
  have n8 : n ≤ 8 := by omega
  obtain ⟨m, hm⟩ : ∃ m : Nat, (m : Int) = k - n + 1 := ⟨(k - n + 1).toNat, by omega⟩
  have m41 : m ≤ 41 := by omega
  clear hkb hfl
  have HA := hide ha
  have HV := hide hv
  have HG := hide h
  have HM : Hid ((sharesN vs m).length = m) := hide (sharesN_len vs m)
  have HML : Hid (∀ i, i < m → ((sharesN vs m).getD i []).length ≤ 1048576) := hide fun i hi => by rw [sharesN_at vs hi, Sh.share_len]; omega
  have HS := hide (fun (w' : World) (a : Option Addr) (c : Nat) (r : Hid (ARow w' a vs)) => ssm_yes (c := c) r HV HG hm)
  have HI := hide (fun (w' : World) (a : Option Addr) (c : Nat) (r : Hid (ARow w' a vs)) => sm_yes (c := c) r HV HG hm)
  generalize sharesN vs m = LL at *
  clear ha hv h
  go_enter Try.func8, Try.ntmps8
  go_wp2_with fail
  refine (toI_own a c n vs _ HV.out hn HA.out).mono ?_
  rintro e w1 ⟨rfl, hb1, z1, own1⟩
  have R1 := hide (arow_owns HV.out.symm own1)
  clear own1
  go_wp2_with fail
  refine (HS.out _ _ _ R1).mono ?_
  rintro e w2 ⟨G0, C0, gs0, rfl, hb2, N0⟩
  have A0 := hide N0.ass
  have hB2 : Below w.heap.size w w2 := hb1.trans (hb2.mono hb1.size)
  clear R1 N0
  go_wp2_with fail
  refine (toI_own a c n vs _ HV.out hn (HA.out.below hB2)).mono ?_
  rintro e w3 ⟨rfl, hb3, z3, own3⟩
  have HO := hide own3
  have hB3 : Below w.heap.size w w3 := hB2.trans (hb3.mono hB2.size)
  have hS3 : Below w2.heap.size w2 w3 := hb3
  clear own3
  go_wp2_with fail
  refine (HI.out _ _ _ (hide (arow_owns HV.out.symm HO.out))).mono ?_
  rintro e w4 ⟨G, C, gs, rfl, hb4, N4⟩
  have HO4 := hide (owns_keep HO.out (hb4.block _ z3))
  have HN4 := hide N4
  have hB4 : Below w.heap.size w w4 := hB3.trans (hb4.mono hB3.size)
  have hS4 := hS3.trans (hb4.mono hS3.size)
  have z4 := hb4.size
  clear N4
  go_wp2_with fail
  refine (eqSS_b HM (by omega) HML (hide HN4.out.ass) (hide (A0.out.below hS4))).mono ?_
  rintro e w5 ⟨rfl, hb5⟩
  have hB5 := hB4.trans (hb5.mono hB4.size)
  have hS5 := hS4.trans (hb5.mono hS4.size)
  have HO5 := hide (owns_keep HO4.out (hb5.block _ (by omega)))
  have HN5 := hide (HN4.out.below hb5)
  have zz := hb5.size
  go_wp2_with fail
  refine (toI_own a c n vs _ HV.out hn (HA.out.below hB5)).mono ?_
  rintro e w6 ⟨rfl, hb6, z6, own6⟩
  have HO6 := hide (owns_keep HO5.out (hb6.block _ (by omega)))
  have HN6 := hide (HN5.out.below hb6)
  have hB6 := hB5.trans (hb6.mono hB5.size)
  have hS6 := hS5.trans (hb6.mono hS5.size)
  have R6 := hide (arow_owns HV.out.symm own6)
  clear own6
  go_wp2_with fail
  refine (eqI_b HV.out hn (arow_owns HV.out.symm HO6.out) R6.out).mono ?_
  rintro e w7 ⟨rfl, hb7⟩
  have HO7 := hide (owns_keep HO6.out (hb7.block _ (by omega)))
  have HN7 := hide (HN6.out.below hb7)
  have hB7 := hB6.trans (hb7.mono hB6.size)
  have hS7 := hS6.trans (hb7.mono hS6.size)
  have zz7 := hb7.size
  clear HO HO4 HO5 HO6 HN4 HN5 HN6 R6 hb3 hb4 hb5 hb6 hb7 hB3 hB4 hB5 hB6 hS3 hS4 hS5 hS6
  go_wp2_with fail
  refine (mark_any w2.heap.size n n w2.heap.size vs 1 _ HV.out (by omega) (by omega) (by omega) HO7.out).mono ?_
  rintro e w8 ⟨rfl, _, hg8⟩
  have hB8 : Below w.heap.size w w8 := hB7.trans (grown_below' hg8 hB2.size hB7.size)
  have hS8 : Below w2.heap.size w2 w8 := hS7.trans (grown_below' hg8 (Nat.le_refl _) hS7.size)
  have HN8 := hide (HN7.out.far hg8 z3)
  have z8 := hg8.size
  have hk : ¬ (1 : Int) + (n : Int) < 0 := by omega
  clear hg8
  go_wp2_with fail
  refine (eqSS_b HM (by omega) HML (hide HN8.out.ass) (hide (A0.out.below hS8))).mono ?_
  rintro e w9 ⟨rfl, hb9⟩
  have HN9 := hide (HN8.out.below hb9)
  have hB9 := hB8.trans (hb9.mono hB8.size)
  have hS9 := hS8.trans (hb9.mono hS8.size)
  have zz9 := hb9.size
  clear HO7 HN7 HN8 hB7 hB8 hS7 hS8 hb9
  go_wp2_with fail
  refine (markSS_any HN9 (by omega) (by omega) (by omega) (by omega)).mono ?_
  rintro e w10 ⟨rfl, MH, hb10, _⟩
  have HC := hide MH
  have hB10 : Below w.heap.size w w10 := hB9.trans (hb10.mono (by have := hB2.size; omega))
  have hS10 : Below w2.heap.size w2 w10 := hS9.trans (hb10.mono (by omega))
  clear MH hb10
  generalize hq : (1 : Int) + ((m * n : Nat) : Int) = q at *
  have q0 : ¬ q < 0 := by omega
  have hnm : (q != q) = false := by simp
  have HHeld : Hid (∀ (w' : World), MHeld w' n m G gs 1 → Calls Try.prog 28 #[.slice (some ⟨G, 0, none⟩) m C, .int .i64 1] w' fun e w1 => e = .returned (.int .i64 q) ∧ w1 = w') := hide fun w' hM => hq ▸ heldSS_any (hide hM) (by omega) (by omega) (by omega) (by omega)
  clear hq
  go_wp2_with fail
  refine (HHeld.out _ HC.out).mono ?_
  rintro e w11 ⟨rfl, hw⟩
  obtain rfl : w10 = w11 := hw.symm
  go_wp2_with fail
  refine (toI_own a c n vs _ HV.out hn (HA.out.below hB10)).mono ?_
  rintro e w12 ⟨rfl, hb12, z12, own12⟩
  have hB12 := hB10.trans (hb12.mono hB10.size)
  have hS12 := hS10.trans (hb12.mono hS10.size)
  have R12 := hide (arow_owns HV.out.symm own12)
  have HC12 := hide (HC.out.below hb12)
  clear own12
  go_wp2_with fail
  refine (HI.out _ _ _ R12).mono ?_
  rintro e w13 ⟨G', C', gs', rfl, hb13, N13⟩
  have hB13 := hB12.trans (hb13.mono hB12.size)
  have hS13 := hS12.trans (hb13.mono hS12.size)
  have HC13 := hide (HC12.out.below hb13)
  have R13 := hide N13.ass
  clear N13
  go_wp2_with fail
  refine (eqSS_b HM (by omega) HML R13 (hide (A0.out.below hS13))).mono ?_
  rintro e w14 ⟨rfl, hb14⟩
  have HC14 := hide (HC13.out.below hb14)
  have hB14 := hB13.trans (hb14.mono hB13.size)
  clear HC HC12 HC13 R12 R13 A0 hB10 hB12 hB13 hS10 hS12 hS13
  go_wp2_with fail
  refine (HHeld.out _ HC14.out).mono ?_
  rintro e w15 ⟨rfl, hw⟩
  obtain rfl : w14 = w15 := hw.symm
  go_wp2_with fail
  go_ret
  exact ⟨rfl, hB14⟩

theorem lSm_walk {a : Option Addr} {c : Nat} {k : Int} {vs : List Int} {w : World} (ha : ARow w a vs) :
    Calls Try.prog 8 #[.slice a vs.length c, .int .i64 k] w fun e w' => e = .returned (.bool true) ∧ Below w.heap.size w w' := by
  by_cases hn : vs.length ≤ 1048576
  · cases h : Sh.kindsB vs k
    · exact lSm_no rfl hn ha h
    · exact lSm_yes rfl hn ha h
  · exact lSm_long (by omega)
end Go.Proofs.Ytfeegjpkkbeibau
