/-
  At any two lists CompareRoots answers as the model does: the law's own walk.
-/
import Derived.Test.YtdmdhmcnedmnbasYe
import Derived.Test.YtdmdhmcnedmnbasYf
namespace Go.Proofs.Ytdmdhmcnedmnbas
open Go.RowKit

def goodL (xs : List Int) : Bool := decide (1 ≤ xs.length ∧ xs.length ≤ 2) && xs.all okN
def cmpB (xs ys : List Int) : Bool := goodL xs && goodL ys
def cmpN (xs ys : List Int) : Int := if cmpB xs ys = true then Sq.two (xs.getD 0 0) (xs.getD 1 0) (ys.getD 0 0) (ys.getD 1 0) else 0

/-- A row in memory of its own, from its block's first place on. -/
def Lies (w : World) (b : Nat) (xs : List Int) : Prop := b < w.heap.size ∧ ∀ i, i < xs.length → w.cell? ⟨b, 0 + i, none⟩ = some (.int .i64 (xs.getD i 0))
theorem Lies.below {w w' : World} {b : Nat} {xs : List Int} (h : Lies w b xs) (hB : Below w.heap.size w w') : Lies w' b xs :=
  ⟨Nat.lt_of_lt_of_le h.1 hB.size, fun i hi => (hB.cell (p := ⟨b, 0 + i, none⟩) h.1).trans (h.2 i hi)⟩
theorem are_good {w : World} {b c : Nat} {xs : List Int} (h : Lies w b xs) :
    (Calls Try.prog 30 #[.slice (some ⟨b, 0, none⟩) xs.length c] w fun e w' => e = .returned (.bool (goodL xs)) ∧ w' = w) ∧ (Calls Try.prog 27 #[.slice (some ⟨b, 0, none⟩) xs.length c] w fun e w' => e = .returned (.bool (goodL xs)) ∧ w' = w) := by
  unfold goodL
  by_cases hl : 1 ≤ xs.length ∧ xs.length ≤ 2
  · have e : decide (1 ≤ xs.length ∧ xs.length ≤ 2) = true := by simpa using hl
    rw [e, Bool.true_and]
    exact ⟨are_any xs b 0 c w hl.1 hl.2 h.2, terms_any xs b 0 c w hl.1 hl.2 h.2⟩
  · have e : decide (1 ≤ xs.length ∧ xs.length ≤ 2) = false := by simpa using hl
    rw [e, Bool.false_and]
    exact ⟨are_len _ xs.length c w (by omega), terms_len _ xs.length c w (by omega)⟩
theorem pair_of {w : World} {b c : Nat} {xs : List Int} (h : Lies w b xs) (hg : goodL xs = true) : Pair w (.slice (some ⟨b, 0, none⟩) xs.length c) (xs.getD 0 0) (xs.getD 1 0) := by
  unfold goodL at hg
  simp only [Bool.and_eq_true, decide_eq_true_eq] at hg
  obtain ⟨⟨l0, l1⟩, hall⟩ := hg
  rw [List.all_eq_true] at hall
  have hx := hall (xs.getD 0 0) (by match xs, l0 with | x :: _, _ => simp)
  simp only [okN, decide_eq_true_eq] at hx
  have c0 := h.2 0 (by omega)
  by_cases h2 : xs.length = 2
  · have hy := hall (xs.getD 1 0) (by match xs, h2 with | [x, y], _ => simp)
    simp only [okN, decide_eq_true_eq] at hy
    exact ⟨⟨b, 0, c, xs.length, rfl, h.1, by simpa using c0, Or.inr ⟨h2, by simpa using h.2 1 (by omega)⟩⟩, hx.1, hx.2, hy.1, hy.2⟩
  · have h1 : xs.length = 1 := by omega
    have hy : xs.getD 1 0 = 0 := by match xs, h1 with | [x], _ => simp
    rw [hy]
    exact ⟨⟨b, 0, c, xs.length, rfl, h.1, by simpa using c0, Or.inl ⟨h1, rfl⟩⟩, hx.1, hx.2, by omega, by omega⟩

theorem cr_row {w : World} {a b c d : Nat} {xs ys : List Int} (ha : Lies w a xs) (hb : Lies w b ys) :
    (Calls Try.prog 17 #[.slice (some ⟨a, 0, none⟩) xs.length c, .slice (some ⟨b, 0, none⟩) ys.length d] w fun e w' => e = .returned (.tuple #[.int .i64 (cmpN xs ys), .bool (cmpB xs ys)]) ∧ Below w.heap.size w w') ∧
    (Calls Try.prog 15 #[.slice (some ⟨a, 0, none⟩) xs.length c, .slice (some ⟨b, 0, none⟩) ys.length d] w fun e w' => e = .returned (.tuple #[.int .i64 (cmpN xs ys), .bool (cmpB xs ys)]) ∧ Below w.heap.size w w') := by
  obtain ⟨a1, a2⟩ := are_good (c := c) ha
  obtain ⟨b1, b2⟩ := are_good (c := d) hb
  unfold cmpN cmpB
  cases hx : goodL xs
  · rw [hx] at a1 a2
    simp only [Bool.false_and, Bool.false_eq_true, if_false]
    exact ⟨(cr_n1 _ _ w (hide a1)).mono fun e w' ⟨h, hw⟩ => ⟨h, hw ▸ Below.refl _ _⟩, (scr_n1 _ _ w (hide a2)).mono fun e w' ⟨h, hw⟩ => ⟨h, hw ▸ Below.refl _ _⟩⟩
  · rw [hx] at a1 a2
    cases hy : goodL ys
    · rw [hy] at b1 b2
      simp only [Bool.true_and, Bool.false_eq_true, if_false]
      exact ⟨(cr_n2 _ _ w (hide a1) (hide b1)).mono fun e w' ⟨h, hw⟩ => ⟨h, hw ▸ Below.refl _ _⟩, (scr_n2 _ _ w (hide a2) (hide b2)).mono fun e w' ⟨h, hw⟩ => ⟨h, hw ▸ Below.refl _ _⟩⟩
    · rw [hy] at b1 b2
      simp only [Bool.true_and, if_true]
      exact ⟨cr_yes (pair_of ha hx) (pair_of hb hy) (hide a1) (hide b1), scr_yes (pair_of ha hx) (pair_of hb hy) (hide a2) (hide b2)⟩

/-- An argument: a slice of whole numbers, wherever it lies. -/
def ArgI (w : World) (a : Option Addr) (xs : List Int) : Prop := xs = [] ∨ ∃ b off, a = some ⟨b, off, none⟩ ∧ b < w.heap.size ∧ ∀ i, i < xs.length → w.cell? ⟨b, off + i, none⟩ = some (.int .i64 (xs.getD i 0))
theorem ArgI.below {w w' : World} {a : Option Addr} {xs : List Int} (h : ArgI w a xs) (hB : Below w.heap.size w w') : ArgI w' a xs := by
  rcases h with h | ⟨b, off, ha, hb, hc⟩
  · exact Or.inl h
  · exact Or.inr ⟨b, off, ha, Nat.lt_of_lt_of_le hb hB.size, fun i hi => (hB.cell (p := ⟨b, off + i, none⟩) hb).trans (hc i hi)⟩
theorem toI_any {w : World} {a : Option Addr} {xs : List Int} (cap : Nat) (hlen : xs.length ≤ 1048576) (h : ArgI w a xs) :
    Calls Try.prog 16 #[.slice a xs.length cap] w fun e w' => e = .returned (.slice (some ⟨w.heap.size, 0, none⟩) xs.length xs.length) ∧ Below w.heap.size w w' ∧ Lies w' w.heap.size xs :=
  (toI_row a cap xs w hlen h).mono fun _ _ ⟨h1, h2, h3, h4⟩ => ⟨h1, h2, h3, h4⟩

set_option maxHeartbeats 400000 in
theorem lCmp_long1 (a b : Option Addr) (n m c d : Nat) (w : World) (h : 1048576 < n) :
    Calls Try.prog 5 #[.slice a n c, .slice b m d] w fun e w' => e = .returned (.bool true) ∧ Below w.heap.size w w' := by
  have h1 : (1048576 : Int) < n := by omega
  go_enter Try.func5, Try.ntmps5
  go_wp2_with fail
  go_ret
  exact ⟨rfl, Below.refl _ _⟩
set_option maxHeartbeats 400000 in
theorem lCmp_long2 (a b : Option Addr) (n m c d : Nat) (w : World) (h0 : n ≤ 1048576) (h : 1048576 < m) :
    Calls Try.prog 5 #[.slice a n c, .slice b m d] w fun e w' => e = .returned (.bool true) ∧ Below w.heap.size w w' := by
  have h1 : (1048576 : Int) < m := by omega
  have h2 : ¬ (1048576 : Int) < n := by omega
  go_enter Try.func5, Try.ntmps5
  go_wp2_with fail
  go_ret
  exact ⟨rfl, Below.refl _ _⟩

set_option maxHeartbeats 1000000 in
theorem lCmp_main (a b : Option Addr) (c d : Nat) (xs ys : List Int) (w : World) (hx : xs.length ≤ 1048576) (hy : ys.length ≤ 1048576) (ha : ArgI w a xs) (hb : ArgI w b ys) :
    Calls Try.prog 5 #[.slice a xs.length c, .slice b ys.length d] w fun e w' => e = .returned (.bool true) ∧ Below w.heap.size w w' := by
  have h1 : ¬ (1048576 : Int) < xs.length := by omega
  have h2 : ¬ (1048576 : Int) < ys.length := by omega
  have HA := hide ha
  have HB := hide hb
  have hne : (cmpN xs ys != cmpN xs ys) = false := by simp
  have hnb : (cmpB xs ys != cmpB xs ys) = false := by simp
  clear ha hb
  go_enter Try.func5, Try.ntmps5
  go_wp2_with fail
  refine (toI_any c hx HA.out).mono ?_
  rintro e w1 ⟨rfl, hb1, L1⟩
  have HL1 := hide L1
  have HB1 := hide (HB.out.below hb1)
  have HA1 := hide (HA.out.below hb1)
  clear L1
  go_wp2_with fail
  refine (toI_any d hy HB1.out).mono ?_
  rintro e w2 ⟨rfl, hb2, L2⟩
  have HL2 := hide L2
  have HL1' := hide (HL1.out.below hb2)
  have HA2 := hide (HA1.out.below hb2)
  have HB2 := hide (HB1.out.below hb2)
  clear L2
  go_wp2_with fail
  refine (cr_row HL1'.out HL2.out).2.mono ?_
  rintro e w3 ⟨rfl, hb3⟩
  have HA3 := hide (HA2.out.below hb3)
  have HB3 := hide (HB2.out.below hb3)
  have hB3 : Below w.heap.size w w3 := (hb1.trans (hb2.mono hb1.size)).trans (hb3.mono (Nat.le_trans hb1.size hb2.size))
  clear HL1 HL1' HL2 HA1 HB1 HA2 HB2 hb1 hb2 hb3
  go_wp2_with fail
  refine (toI_any c hx HA3.out).mono ?_
  rintro e w4 ⟨rfl, hb4, L4⟩
  have HL4 := hide L4
  have HA4 := hide (HA3.out.below hb4)
  have HB4 := hide (HB3.out.below hb4)
  clear L4
  go_wp2_with fail
  refine (toI_any d hy HB4.out).mono ?_
  rintro e w5 ⟨rfl, hb5, L5⟩
  have HL5 := hide L5
  have HL4' := hide (HL4.out.below hb5)
  have HA5 := hide (HA4.out.below hb5)
  have HB5 := hide (HB4.out.below hb5)
  clear L5
  go_wp2_with fail
  refine (cr_row HL4'.out HL5.out).1.mono ?_
  rintro e w6 ⟨rfl, hb6⟩
  have K4 := hide (HL4'.out.below hb6)
  have K5 := hide (HL5.out.below hb6)
  have HA6 := hide (HA5.out.below hb6)
  have HB6 := hide (HB5.out.below hb6)
  have hB6 : Below w.heap.size w w6 := ((hB3.trans (hb4.mono hB3.size)).trans (hb5.mono (Nat.le_trans hB3.size hb4.size))).trans (hb6.mono (Nat.le_trans (Nat.le_trans hB3.size hb4.size) hb5.size))
  clear HL4 HL4' HL5 HA3 HB3 HA4 HB4 HA5 HB5 hb4 hb5 hb6 hB3
  go_wp2_with fail
  refine (toI_any c hx HA6.out).mono ?_
  rintro e w7 ⟨rfl, hb7, L7⟩
  have HL7 := hide L7
  have K4' := hide (K4.out.below hb7)
  have K5' := hide (K5.out.below hb7)
  have HB7 := hide (HB6.out.below hb7)
  have hB7 : Below w.heap.size w w7 := hB6.trans (hb7.mono hB6.size)
  clear L7
  go_wp2_with fail
  refine (eqI_same xs _ _ _ _ _ _ _ (by omega) K4'.out.2 HL7.out.2).mono ?_
  rintro e w8 ⟨rfl, m, rfl⟩
  have HB8 : Hid (ArgI (w7.drewN m) b ys) := HB7
  have K8 : Hid (Lies (w7.drewN m) w4.heap.size ys) := K5'
  have hB8 : Below w.heap.size w (w7.drewN m) := below_drewN hB7 _
  go_wp2_with fail
  refine (toI_any d hy HB8.out).mono ?_
  rintro e w9 ⟨rfl, hb9, L9⟩
  have HL9 := hide L9
  have K9 := hide (K8.out.below hb9)
  have hB9 : Below w.heap.size w w9 := hB8.trans (hb9.mono hB8.size)
  clear L9
  go_wp2_with fail
  refine (eqI_same ys _ _ _ _ _ _ _ (by omega) K9.out.2 HL9.out.2).mono ?_
  rintro e w10 ⟨rfl, m', rfl⟩
  go_wp2_with fail
  go_ret
  exact ⟨rfl, below_drewN hB9 _⟩

theorem lCmp_walk (a b : Option Addr) (c d : Nat) (xs ys : List Int) (w : World) (ha : ArgI w a xs) (hb : ArgI w b ys) :
    Calls Try.prog 5 #[.slice a xs.length c, .slice b ys.length d] w fun e w' => e = .returned (.bool true) ∧ Below w.heap.size w w' := by
  by_cases hx : xs.length ≤ 1048576
  · by_cases hy : ys.length ≤ 1048576
    · exact lCmp_main a b c d xs ys w hx hy ha hb
    · exact lCmp_long2 a b _ _ c d w hx (by omega)
  · exact lCmp_long1 a b _ _ c d w (by omega)
end Go.Proofs.Ytdmdhmcnedmnbas
