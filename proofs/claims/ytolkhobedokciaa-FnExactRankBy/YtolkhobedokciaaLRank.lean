/-
  At any list of values RankBy answers as the model does, in memory of its own: the law's own walk.
-/
import Derived.Test.YtolkhobedokciaaPh
import Derived.Test.YtolkhobedokciaaPg
namespace Go.Proofs.Ytolkhobedokciaa
open Go.RowKit

/-- A list that is owned, whether there is one at all. -/
theorem own_any {w : World} {base n : Nat} {v : Value} {xs : List Int} (hx : xs.length = n) (h : w.ownsRow base 3 1 v n (ints xs)) : ∃ a cap, v = .slice a n cap ∧ ARow w a xs := by
  rcases h.2 with ⟨rfl, hn⟩ | ⟨g, cap, cur, rfl, _⟩
  · subst hn; exact ⟨none, 0, rfl, Or.inl (List.length_eq_zero_iff.1 hx)⟩
  · exact ⟨_, _, rfl, arow_owns hx.symm h⟩
theorem mark_cells {w : World} {g n cap base : Nat} {ys : List Int} {k : Int} (hy : ys.length = n) (hys : ∀ j : Nat, j < n → ys.getD j 0 = k + (j : Int)) (h : w.ownsRow base 3 1 (.slice (some ⟨g, 0, none⟩) n cap) n (ints ys)) : ∀ j : Nat, j < n → w.cell? ⟨g, j, none⟩ = some (.int .i64 (k + j)) := fun j hj => by
  rw [h.cellAt j (by omega), ints_get ys j (by omega), hys j hj]
theorem own_at {w : World} {base n g cap : Nat} {xs : List Value} (h : w.ownsRow base 3 1 (.slice (some ⟨g, 0, none⟩) n cap) n xs) : base ≤ g ∧ g < w.heap.size := by
  rcases h.2 with ⟨h0, _⟩ | ⟨g', cap', cur, hv, h2, h3, _⟩
  · cases h0
  · cases hv; exact ⟨h2, (Array.getElem?_eq_some_iff.1 h3).1⟩

set_option maxHeartbeats 400000 in
theorem lRank_long {a : Option Addr} {n c : Nat} {w : World} (h : 1048576 < n) :
    Calls Try.prog 3 #[.slice a n c] w fun e w' => e = .returned (.bool true) ∧ Below w.heap.size w w' := by
  have h1 : (1048576 : Int) < n := by omega
  go_enter Try.func3, Try.ntmps3
  go_wp2_with fail
  go_ret
  exact ⟨rfl, Below.refl _ _⟩

set_option maxHeartbeats 4000000 in
theorem lRank_no {a : Option Addr} {n c : Nat} {vs : List Int} {w : World} (hv : vs.length = n) (hn : n ≤ 1048576) (ha : ARow w a vs) (h : goodV vs = false) :
    Calls Try.prog 3 #[.slice a n c] w fun e w' => e = .returned (.bool true) ∧ Below w.heap.size w w' := by
  have h1 : ¬ (1048576 : Int) < n := by omega
  have HA := hide ha
  have HV := hide hv
  have HG := hide h
  clear ha hv h
  go_enter Try.func3, Try.ntmps3
  go_wp2_with fail
  refine (toI_own a c n vs _ HV.out hn HA.out).mono ?_
  rintro e w1 ⟨rfl, hb1, z1, own1⟩
  have R1 := hide (arow_owns HV.out.symm own1)
  clear own1
  go_wp2_with fail
  refine (srb_no HV.out R1.out HG.out).mono ?_
  rintro e w2 ⟨rfl, hb2⟩
  have hB2 : Below w.heap.size w w2 := hb1.trans (hb2.mono hb1.size)
  clear R1
  go_wp2_with fail
  refine (toI_own a c n vs _ HV.out hn (HA.out.below hB2)).mono ?_
  rintro e w3 ⟨rfl, hb3, z3, own3⟩
  have HO := hide own3
  have hB3 : Below w.heap.size w w3 := hB2.trans (hb3.mono hB2.size)
  clear own3
  go_wp2_with fail
  refine (rb_no HV.out (arow_owns HV.out.symm HO.out) HG.out).mono ?_
  rintro e w4 ⟨rfl, hb4⟩
  have HO4 := hide (owns_keep HO.out (hb4.block _ z3))
  have hB4 : Below w.heap.size w w4 := hB3.trans (hb4.mono hB3.size)
  have z4 := hb4.size
  go_wp2_with fail
  refine (eqI_zero _ _ _ _ _).mono ?_
  rintro e w4' ⟨rfl, rfl⟩
  go_wp2_with fail
  refine (toI_own a c n vs _ HV.out hn (HA.out.below hB4)).mono ?_
  rintro e w5 ⟨rfl, hb5, z5, own5⟩
  have HO5 := hide (owns_keep HO4.out (hb5.block _ (by omega)))
  have hB5 := hB4.trans (hb5.mono hB4.size)
  have R5 := hide (arow_owns HV.out.symm own5)
  clear own5
  go_wp2_with fail
  refine (eqI_any HV.out hn (arow_owns HV.out.symm HO5.out) R5.out).mono ?_
  rintro e w6 ⟨rfl, q, rfl⟩
  have HO6 : Hid ((w5.drewN q).ownsRow w2.heap.size 3 1 (.slice (some ⟨w2.heap.size, 0, none⟩) n n) n (ints vs)) := HO5
  have hB6 := below_drewN hB5 q
  go_wp2_with fail
  refine (mark_any w2.heap.size n n w2.heap.size vs 1 _ HV.out (by omega) (by omega) (by omega) HO6.out).mono ?_
  rintro e w7 ⟨rfl, _, hg7⟩
  have hB7 : Below w.heap.size w w7 := hB6.trans (grown_below' hg7 hB2.size (by have := hB5.size; exact this))
  have hk : ¬ (1 : Int) + (n : Int) < 0 := by omega
  go_wp2_with fail
  refine (eqI_zero _ _ _ _ _).mono ?_
  rintro e w4' ⟨rfl, rfl⟩
  go_wp2_with fail
  refine (mark_zero _ _ _ _).mono ?_
  rintro e w4' ⟨rfl, rfl⟩
  go_wp2_with fail
  refine (held_zero _ _ _ _).mono ?_
  rintro e w4' ⟨rfl, rfl⟩
  go_wp2_with fail
  refine (toI_own a c n vs _ HV.out hn (HA.out.below hB7)).mono ?_
  rintro e w8 ⟨rfl, hb8, z8, own8⟩
  have hB8 := hB7.trans (hb8.mono hB7.size)
  have R8 := hide (arow_owns HV.out.symm own8)
  clear own8
  go_wp2_with fail
  refine (rb_no HV.out R8.out HG.out).mono ?_
  rintro e w9 ⟨rfl, hb9⟩
  have hB9 := hB8.trans (hb9.mono hB8.size)
  go_wp2_with fail
  refine (eqI_zero _ _ _ _ _).mono ?_
  rintro e w4' ⟨rfl, rfl⟩
  go_wp2_with fail
  refine (held_zero _ _ _ _).mono ?_
  rintro e w4' ⟨rfl, rfl⟩
  go_wp2_with fail
  go_ret
  exact ⟨rfl, hB9⟩

set_option maxHeartbeats 4000000 in
theorem lRank_yes {a : Option Addr} {n c : Nat} {vs : List Int} {w : World} (hv : vs.length = n) (hn : n ≤ 1048576) (ha : ARow w a vs) (h : goodV vs = true) :
    Calls Try.prog 3 #[.slice a n c] w fun e w' => e = .returned (.bool true) ∧ Below w.heap.size w w' := by
  have h1 : ¬ (1048576 : Int) < n := by omega
  have HA := hide ha
  have HV := hide hv
  have HG := hide h
  have HR : Hid ((nats (Rk.rank vs)).length = n) := hide (by rw [nats_len, Rk.rank_len, hv])
  clear ha hv h
  go_enter Try.func3, Try.ntmps3
  go_wp2_with fail
  refine (toI_own a c n vs _ HV.out hn HA.out).mono ?_
  rintro e w1 ⟨rfl, hb1, z1, own1⟩
  have R1 := hide (arow_owns HV.out.symm own1)
  clear own1
  go_wp2_with fail
  refine (srb_yes HV.out R1.out HG.out).mono ?_
  rintro e w2 ⟨v0, rfl, hb2, own2⟩
  obtain ⟨a0, c0, rfl, r0⟩ := own_any HR.out own2
  have R0 := hide r0
  have hB2 : Below w.heap.size w w2 := hb1.trans (hb2.mono hb1.size)
  clear R1 r0 own2
  go_wp2_with fail
  refine (toI_own a c n vs _ HV.out hn (HA.out.below hB2)).mono ?_
  rintro e w3 ⟨rfl, hb3, z3, own3⟩
  have HO := hide own3
  have hB3 : Below w.heap.size w w3 := hB2.trans (hb3.mono hB2.size)
  have hS3 : Below w2.heap.size w2 w3 := hb3
  clear own3
  go_wp2_with fail
  refine (rb_yes HV.out (arow_owns HV.out.symm HO.out) HG.out).mono ?_
  rintro e w4 ⟨G, rfl, hb4, own4⟩
  obtain ⟨gG, gl⟩ := own_at own4
  have HO4 := hide (owns_keep HO.out (hb4.block _ z3))
  have HG4 := hide own4
  have hB4 : Below w.heap.size w w4 := hB3.trans (hb4.mono hB3.size)
  have hS4 := hS3.trans (hb4.mono hS3.size)
  have z4 := hb4.size
  clear own4
  go_wp2_with fail
  refine (eqI_b HR.out hn (arow_owns HR.out.symm HG4.out) (R0.out.below hS4)).mono ?_
  rintro e w5 ⟨rfl, hb5⟩
  have hB5 := hB4.trans (hb5.mono hB4.size)
  have hS5 := hS4.trans (hb5.mono hS4.size)
  have HO5 := hide (owns_keep HO4.out (hb5.block _ (by omega)))
  have HG5 := hide (owns_keep HG4.out (hb5.block _ (by omega)))
  have zz := hb5.size
  go_wp2_with fail
  refine (toI_own a c n vs _ HV.out hn (HA.out.below hB5)).mono ?_
  rintro e w6 ⟨rfl, hb6, z6, own6⟩
  have HO6 := hide (owns_keep HO5.out (hb6.block _ (by omega)))
  have HG6 := hide (owns_keep HG5.out (hb6.block _ (by omega)))
  have hB6 := hB5.trans (hb6.mono hB5.size)
  have hS6 := hS5.trans (hb6.mono hS5.size)
  have R6 := hide (arow_owns HV.out.symm own6)
  clear own6
  go_wp2_with fail
  refine (eqI_b HV.out hn (arow_owns HV.out.symm HO6.out) R6.out).mono ?_
  rintro e w7 ⟨rfl, hb7⟩
  have HO7 := hide (owns_keep HO6.out (hb7.block _ (by omega)))
  have HG7 := hide (owns_keep HG6.out (hb7.block _ (by omega)))
  have hB7 := hB6.trans (hb7.mono hB6.size)
  have hS7 := hS6.trans (hb7.mono hS6.size)
  have zz7 := hb7.size
  clear HO HO4 HO5 HO6 HG4 HG5 HG6 R6 hb3 hb4 hb5 hb6 hb7 hB3 hB4 hB5 hB6 hS3 hS4 hS5 hS6
  go_wp2_with fail
  refine (mark_any w2.heap.size n n w2.heap.size vs 1 _ HV.out (by omega) (by omega) (by omega) HO7.out).mono ?_
  rintro e w8 ⟨rfl, _, hg8⟩
  have hB8 : Below w.heap.size w w8 := hB7.trans (grown_below' hg8 hB2.size hB7.size)
  have hS8 : Below w2.heap.size w2 w8 := hS7.trans (grown_below' hg8 (Nat.le_refl _) hS7.size)
  have HG8 := hide (owns_keep HG7.out (hg8.block G (by omega) (by simp; omega)))
  have z8 := hg8.size
  have hk : ¬ (1 : Int) + (n : Int) < 0 := by omega
  clear hg8
  go_wp2_with fail
  refine (eqI_b HR.out hn (arow_owns HR.out.symm HG8.out) (R0.out.below hS8)).mono ?_
  rintro e w9 ⟨rfl, hb9⟩
  have HG9 := hide (owns_keep HG8.out (hb9.block _ (by omega)))
  have hB9 := hB8.trans (hb9.mono hB8.size)
  have hS9 := hS8.trans (hb9.mono hS8.size)
  have zz9 := hb9.size
  clear HO7 HG7 HG8 hB7 hB8 hS7 hS8 hb9
  go_wp2_with fail
  refine (mark_any G n n w3.heap.size _ 1 _ HR.out (by omega) (by omega) (by omega) HG9.out).mono ?_
  rintro e w10 ⟨rfl, ⟨ys, hy, hys, own10⟩, hg10⟩
  have HC := hide (mark_cells hy hys own10)
  have hB10 : Below w.heap.size w w10 := hB9.trans (grown_below' hg10 (by have := hB2.size; omega) hB9.size)
  have hS10 : Below w2.heap.size w2 w10 := hS9.trans (grown_below' hg10 (by omega) hS9.size)
  have z10 := hg10.size
  clear hg10 own10 hys
  go_wp2_with fail
  refine (held_any G n n 1 _ (by omega) (by omega) (by omega) HC.out).mono ?_
  rintro e w11 ⟨rfl, hw⟩
  obtain rfl : w10 = w11 := hw.symm
  have hnm : ((1 : Int) + (n : Int) != 1 + (n : Int)) = false := by simp
  go_wp2_with fail
  refine (toI_own a c n vs _ HV.out hn (HA.out.below hB10)).mono ?_
  rintro e w12 ⟨rfl, hb12, z12, own12⟩
  have hB12 := hB10.trans (hb12.mono hB10.size)
  have hS12 := hS10.trans (hb12.mono hS10.size)
  have R12 := hide (arow_owns HV.out.symm own12)
  have HC12 := hide (fun (j : Nat) (hj : j < n) => (hb12.cell (p := ⟨G, j, none⟩) (show G < w10.heap.size by omega)).trans (HC.out j hj))
  clear own12
  go_wp2_with fail
  refine (rb_yes HV.out R12.out HG.out).mono ?_
  rintro e w13 ⟨G', rfl, hb13, own13⟩
  have hB13 := hB12.trans (hb13.mono hB12.size)
  have hS13 := hS12.trans (hb13.mono hS12.size)
  have HC13 := hide (fun (j : Nat) (hj : j < n) => (hb13.cell (p := ⟨G, j, none⟩) (show G < w12.heap.size by omega)).trans (HC12.out j hj))
  have R13 := hide (arow_owns HR.out.symm own13)
  clear own13
  go_wp2_with fail
  refine (eqI_b HR.out hn R13.out (R0.out.below hS13)).mono ?_
  rintro e w14 ⟨rfl, hb14⟩
  have HC14 := hide (fun (j : Nat) (hj : j < n) => (hb14.cell (p := ⟨G, j, none⟩) (show G < w13.heap.size by have := hb13.size; omega)).trans (HC13.out j hj))
  have hB14 := hB13.trans (hb14.mono hB13.size)
  clear HC HC12 HC13 R12 R13 R0 hB10 hB12 hB13 hS10 hS12 hS13
  go_wp2_with fail
  refine (held_any G n n 1 _ (by omega) (by omega) (by omega) HC14.out).mono ?_
  rintro e w15 ⟨rfl, hw⟩
  obtain rfl : w14 = w15 := hw.symm
  go_wp2_with fail
  go_ret
  exact ⟨rfl, hB14⟩

theorem lRank_walk {a : Option Addr} {c : Nat} {vs : List Int} {w : World} (ha : ARow w a vs) :
    Calls Try.prog 3 #[.slice a vs.length c] w fun e w' => e = .returned (.bool true) ∧ Below w.heap.size w w' := by
  by_cases hn : vs.length ≤ 1048576
  · cases h : goodV vs
    · exact lRank_no rfl hn ha h
    · exact lRank_yes rfl hn ha h
  · exact lRank_long (by omega)
end Go.Proofs.Ytolkhobedokciaa
