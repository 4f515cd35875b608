/-
  What areSameGoods of the program and l10Both of the model answer.
-/
import Derived.Test.YtdigcbjkobjdmaaMh10
import Derived.Test.YtdigcbjkobjdmaaMb10
import Derived.Test.YtdigcbjkobjdmaaIt10
import Derived.Test.YtdigcbjkobjdmaaHv
import Derived.Sort.WalkA
import Derived.Sort.OwnSortedInts
namespace Go.Proofs.Ytdigcbjkobjdmaa
open Go.RowKit Go.Sort

theorem so10 {w : World} {base n : Nat} {v : Value} {L X : List Int} (hn : L.length = n) (hl : n ≤ 1000) (own : w.ownsRow base 3 1 v n (ints L)) (hs : (L.mergeSort fun x y => decide (x ≤ y)) = X) :
    Calls Try.prog 58 #[v] w fun e w' => e = .returned (.tuple #[]) ∧ w'.ownsRow base 3 1 v X.length (ints X) ∧ w.grownBy w' v.ownBlock := by
  subst hn
  have hl2 : (L.mergeSort fun x y => decide (x ≤ y)).length = L.length := List.length_mergeSort L
  rcases own.2 with ⟨rfl, h0⟩ | ⟨g, cap, cur, rfl, hb, hg, h1, h2, h3, h4⟩
  · have hL : L = [] := List.length_eq_zero_iff.1 h0
    subst hL
    have hX : X = [] := by rw [← hs]; simp
    subst hX
    refine (Try.slices_Sort_int_none none 0 w).mono ?_
    rintro e w' ⟨rfl, rfl⟩
    exact ⟨rfl, World.ownsRow_nil _ _ _ _, World.grownBy.refl _ _⟩
  · have hH : Holds (Value.int .i64) w g 0 L.toArray := holds_of_blockI hg (by rw [Nat.mul_one] at h4; exact h4)
    have hgl : g < w.heap.size := (Array.getElem?_eq_some_iff.1 hg).1
    refine (Try.slices_Sort_int g 0 cap L w hH hgl (by omega)).mono ?_
    rintro e w' ⟨rfl, q, os, rfl⟩
    have hro := ownsRow_sortedI (n := q) (os := os) (ts := L.mergeSort fun x y => decide (x ≤ y)) hl2 hb hg h1 h2 h3
    refine ⟨rfl, ?_, grownBy_sortedI _⟩
    have e1 : ints X = (L.mergeSort fun x y => decide (x ≤ y)).map (Value.int .i64) := by rw [hs]; rfl
    have e2 : X.length = L.length := by rw [← hs]; exact hl2
    rw [e1, e2]
    exact hro
set_option maxHeartbeats 1000000 in
theorem val_any (a : Option Addr) (n c : Nat) (w : World) :
    Calls Try.prog 54 #[.slice a n c] w fun e w' => e = .returned (.func (.func 59) #[] #[.pointer (some ⟨w.heap.size, 0, none⟩)]) ∧ w' = w.alloc (.cells #[.slice a n c] 22) := by
  go_enter Try.func54, Try.ntmps54
  go_wp2_with fail
  go_ret
  exact ⟨rfl, rfl⟩
/-- What a seq of a box gives. -/
def Bx10 (w : World) (B : Nat) (xs : List Int) : Prop := B < w.heap.size ∧ ∃ b off cap, b < w.heap.size ∧ w.cell? ⟨B, 0, none⟩ = some (.slice (some ⟨b, off, none⟩) xs.length cap) ∧ ∀ j, j < xs.length → w.cell? ⟨b, off + j, none⟩ = some (.int .i64 (xs.getD j 0))
set_option maxHeartbeats 1000000 in
theorem col_any {B : Nat} {xs : List Int} {w : World} (hn : xs.length ≤ 1000) (h : Bx10 w B xs) :
    Calls Try.prog 57 #[.func (.func 59) #[] #[.pointer (some ⟨B, 0, none⟩)]] w fun e w' => ∃ v, e = .returned v ∧ w'.ownsRow w.heap.size 3 1 v xs.length (ints xs) ∧ Below w.heap.size w w' := by
  obtain ⟨hB, b, off, cap, hb, hc, hx⟩ := h
  have HC := hide (callsIn_wide.1 (seq_in Fence.wide 3 trivial trivial rfl (Nat.le_refl _) B b off cap xs hn w hB hb hc (fun j hj => by have := hx j hj; rwa [List.getD_eq_getElem?_getD] at this)))
  clear hc hx
  go_enter Try.func57, Try.ntmps57
  go_wp2_with fail
  refine HC.out.mono ?_
  rintro e w1 ⟨v, rfl, own, hb⟩
  have HO := hide own
  have HB := hide hb
  clear own hb
  go_wp2_with fail
  go_ret
  exact ⟨_, rfl, HO.out, HB.out⟩
set_option maxHeartbeats 1000000 in
theorem srt_any {B : Nat} {xs : List Int} {w : World} (hn : xs.length ≤ 1000) (h : Bx10 w B xs) :
    Calls Try.prog 53 #[.func (.func 59) #[] #[.pointer (some ⟨B, 0, none⟩)]] w fun e w' => ∃ v, e = .returned v ∧ w'.ownsRow w.heap.size 3 1 v xs.length (ints (Mx.msort xs)) ∧ Below w.heap.size w w' := by
  have HC := hide (col_any hn h)
  have HL := hide (Mx.msort_len xs)
  have HS := hide fun (W : World) (base : Nat) (v : Value) (own : W.ownsRow base 3 1 v xs.length (ints xs)) => so10 (X := Mx.msort xs) rfl hn own rfl
  clear h
  go_enter Try.func53, Try.ntmps53
  go_wp2_with fail
  refine HC.out.mono ?_
  rintro e w1 ⟨v, rfl, own, hb⟩
  have HSW := hide (HS.out _ _ _ own)
  have HO := hide own
  have HB := hide hb
  clear own hb HS HC
  go_wp2_with fail
  refine HSW.out.mono ?_
  rintro e w2 ⟨rfl, own2, hg2⟩
  have HO2 := hide own2
  rw [HL.out] at HO2
  have HB2 := hide (HB.out.trans (grown_under' hg2 HO.out (Nat.le_refl _) HB.out.size))
  clear own2 hg2 HSW
  go_wp2_with fail
  go_ret
  exact ⟨_, rfl, HO2.out, HB2.out⟩
theorem eq10 {v u : Value} {b1 b2 n m : Nat} {xs ys : List Int} {w : World} (hx : xs.length = n) (hy : ys.length = m) (hn : n ≤ 1000) (hm : m ≤ 1000) (h1 : 1 ≤ n) (h2 : 1 ≤ m) (o1 : w.ownsRow b1 3 1 v n (ints xs)) (o2 : w.ownsRow b2 3 1 u m (ints ys)) :
    Calls Try.prog 52 #[v, u] w fun e w' => e = .returned (.bool (xs == ys)) ∧ Below w.heap.size w w' := by
  rcases o1.2 with ⟨_, h0⟩ | ⟨g, cap, cur, rfl, _⟩
  · omega
  rcases o2.2 with ⟨_, h0⟩ | ⟨g', cap', cur', rfl, _⟩
  · omega
  refine (Try.slices_Equal_int g 0 n cap g' 0 m cap' xs ys w (by omega) (by omega) (by omega) (by omega) (fun j hj => by rw [Nat.zero_add, o1.cellAt j (by omega), ints_get xs j hj]) (fun j hj => by rw [Nat.zero_add, o2.cellAt j (by omega), ints_get ys j hj])).mono ?_
  rintro e w' ⟨rfl, q, rfl⟩
  rw [← hx, ← hy, List.take_length, List.take_length]
  exact ⟨rfl, below_drewN (Below.refl _ _) q⟩
theorem bx_new {w : World} {a : Option Addr} {n c : Nat} {xs : List Int} (hx : xs.length = n) (hn : 1 ≤ n) (ha : ARow w a xs) : Bx10 (w.alloc (.cells #[.slice a n c] 22)) w.heap.size xs := by
  subst hx
  have hb := below_new w (.cells #[.slice a xs.length c] 22)
  obtain ⟨b, off, rfl, h1, h2⟩ := ha.resolve_left (fun e => by rw [e] at hn; simp at hn)
  exact ⟨by simp, b, off, c, by simp; omega, by simp, fun j hj => (hb.cell (p := ⟨b, off + j, none⟩) h1).trans (h2 j hj)⟩
set_option maxHeartbeats 2000000 in
theorem asg_any {a b : Option Addr} {n m c d : Nat} {xs ys : List Int} {w : World} (hx : xs.length = n) (hy : ys.length = m) (hc : n ≤ c) (hd : m ≤ d) (ha : ARow w a xs) (hb : ARow w b ys) :
    Calls Try.prog 45 #[.slice a n c, .slice b m d] w fun e w' => e = .returned (.bool (Mx.sameB xs ys)) ∧ Below w.heap.size w w' := by
  have HX := hide hx
  have HY := hide hy
  have HA := hide ha
  have HB := hide hb
  cases h1 : Mx.goodB xs
  · have hR : Mx.sameB xs ys = false := by unfold Mx.sameB; rw [h1]; rfl
    rw [hR]
    have H1 := hide h1
    clear h1 hR ha hb hx hy
    go_enter Try.func45, Try.ntmps45
    go_wp2_with fail
    refine (gs_eq HX hc HA H1).mono ?_
    rintro e w1 ⟨rfl, hw1⟩
    obtain rfl : w = w1 := hw1.symm
    go_wp2_with fail
    go_ret
    exact ⟨rfl, Below.refl _ _⟩
  · cases h2 : Mx.goodB ys
    · have hR : Mx.sameB xs ys = false := by unfold Mx.sameB; rw [h1, h2]; rfl
      rw [hR]
      have H1 := hide h1
      have H2 := hide h2
      clear h1 h2 hR ha hb hx hy
      go_enter Try.func45, Try.ntmps45
      go_wp2_with fail
      refine (gs_eq HX hc HA H1).mono ?_
      rintro e w1 ⟨rfl, hw1⟩
      obtain rfl : w = w1 := hw1.symm
      go_wp2_with fail
      refine (gs_eq HY hd HB H2).mono ?_
      rintro e w1 ⟨rfl, hw1⟩
      obtain rfl : w = w1 := hw1.symm
      go_wp2_with fail
      go_ret
      exact ⟨rfl, Below.refl _ _⟩
    · have hR : Mx.sameB xs ys = (Mx.msort xs == Mx.msort ys) := by unfold Mx.sameB; rw [h1, h2]; rfl
      rw [hR]
      have lx := Mx.good_len h1
      have ly := Mx.good_len h2
      rw [hx] at lx
      rw [hy] at ly
      have H1 := hide h1
      have H2 := hide h2
      have hbx := bx_new (c := c) hx (by omega) ha
      have b1 := below_new w (.cells #[.slice a n c] 22)
      have HS1 := hide (srt_any (by omega) hbx)
      have HB1 := hide b1
      have HBB : Hid (∀ W, Below w.heap.size w W → ARow W b ys) := hide fun W h => hb.below h
      have LX := hide ((Mx.msort_len xs).trans hx)
      have LY := hide ((Mx.msort_len ys).trans hy)
      clear h1 h2 hR ha hb hbx b1
      generalize Mx.msort xs = MX at *
      rw [hx] at HS1
      have HBX2 := hide fun (W : World) (h : ARow W b ys) => srt_any (by omega) (bx_new (c := d) hy (by omega) h)
      generalize Mx.msort ys = MY at *
      rw [hy] at HBX2
      clear hx hy
      go_enter Try.func45, Try.ntmps45
      go_wp2_with fail
      refine (gs_eq HX hc HA H1).mono ?_
      rintro e w1 ⟨rfl, hw1⟩
      obtain rfl : w = w1 := hw1.symm
      go_wp2_with fail
      refine (gs_eq HY hd HB H2).mono ?_
      rintro e w1 ⟨rfl, hw1⟩
      obtain rfl : w = w1 := hw1.symm
      go_wp2_with fail
      refine (val_any a n c w).mono ?_
      rintro e w1 ⟨rfl, hw1⟩
      obtain rfl := hw1
      go_wp2_with fail
      refine HS1.out.mono ?_
      rintro e w2 ⟨v, rfl, own2, hb2⟩
      have HO2 := hide own2
      have HB2 := hide (HB1.out.trans (hb2.mono HB1.out.size))
      have HR2 := hide (HBX2.out _ (HBB.out _ HB2.out))
      clear own2 hb2 HS1
      go_wp2_with fail
      refine (val_any b m d w2).mono ?_
      rintro e w3 ⟨rfl, hw3⟩
      obtain rfl := hw3
      have b3 := below_new w2 (.cells #[.slice b m d] 22)
      have HO3 := hide (g_own HO2.out b3)
      have HB3 := hide (HB2.out.trans (b3.mono HB2.out.size))
      clear b3
      go_wp2_with fail
      refine HR2.out.mono ?_
      rintro e w4 ⟨u, rfl, own4, hb4⟩
      have HO4 := hide own4
      have HO3' := hide (g_own HO3.out hb4)
      have HB4 := hide (HB3.out.trans (hb4.mono HB3.out.size))
      clear own4 hb4 HR2
      go_wp2_with fail
      refine (eq10 LX.out LY.out (by omega) (by omega) (by omega) (by omega) HO3'.out HO4.out).mono ?_
      rintro e w5 ⟨rfl, hb5⟩
      have HB5 := hide (HB4.out.trans (hb5.mono HB4.out.size))
      clear hb5
      go_wp2_with fail
      go_ret
      exact ⟨rfl, HB5.out⟩
end Go.Proofs.Ytdigcbjkobjdmaa
