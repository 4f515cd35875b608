/-
  What inOrder of the program's map answers: its keys, rising, in memory of its own.
-/
import Derived.Test.YtogkbidphdpjaaaMq0
namespace Go.Proofs.Ytogkbidphdpjaaa
open Go.RowKit Go.Maps Go.Sort

theorem sort_keys {w : World} {g cap base n : Nat} {cur : Array Value} {ks : List Int} {f : Dem} (_ : w.ownsRow base 3 1 (.slice (some ⟨g, 0, none⟩) ks.length cap) ks.length (ints ks)) (hb : w.heap[g]? = some (.cells cur 3 (0, 0))) (h1 : ks.length ≤ cap) (h2 : cap ≤ maxLen) (h3 : cur.size = cap * 1)
    (h4 : cur.toList.take (ks.length * 1) = ints ks) (hbase : base ≤ g) (hl : ks.length ≤ 1000000) (hs : (ks.mergeSort fun x y => decide (x ≤ y)) = nats (f.keys n)) :
    Calls Try.prog 66 #[.slice (some ⟨g, 0, none⟩) ks.length cap] w fun e w' => e = .returned (.tuple #[]) ∧ w'.ownsRow base 3 1 (.slice (some ⟨g, 0, none⟩) ks.length cap) (f.keys n).length (ints (nats (f.keys n))) ∧ w.grownBy w' (some g) := by
  have hH : Holds (Value.int .i64) w g 0 ks.toArray := holds_of_blockI hb (by rw [Nat.mul_one] at h4; exact h4)
  have hgl : g < w.heap.size := (Array.getElem?_eq_some_iff.1 hb).1
  refine (Try.slices_Sort_int g 0 cap ks w hH hgl (by omega)).mono ?_
  rintro e w' ⟨rfl, q, os, rfl⟩
  have hl2 : (ks.mergeSort fun x y => decide (x ≤ y)).length = ks.length := List.length_mergeSort ks
  have hro := ownsRow_sortedI (n := q) (os := os) (ts := ks.mergeSort fun x y => decide (x ≤ y)) hl2 hbase hb h1 h2 h3
  have hkl : ks.length = (f.keys n).length := by rw [← hl2, hs, nats_len]
  refine ⟨rfl, ?_, grownBy_sortedI _⟩
  have e1 : ints (nats (f.keys n)) = (ks.mergeSort fun x y => decide (x ≤ y)).map (Value.int .i64) := by rw [hs]; rfl
  rw [e1, ← hkl]
  exact hro
theorem invK : ∀ key kl, keyOf Try.prog 3 key = some kl → ∃ x, key = Value.int .i64 x := fun key kl h => by
  obtain ⟨x, rfl, _⟩ := Maps.keyOf_int_inv Try.underlying3 h
  exact ⟨x, rfl⟩
theorem invV : ∀ v y, RT v = some y → ∃ c : Int × Int, v = .agg #[.int .i64 c.1, .int .i64 c.2] := fun v y h => by
  obtain ⟨p, q, rfl, _⟩ := RT_inv h
  exact ⟨(p, q), rfl⟩

set_option maxRecDepth 1000000 in
set_option maxHeartbeats 4000000 in
theorem inOrder_any {w : World} {b n nn : Nat} {f : Dem} (h : MO w b n nn f) (hnn : nn ≤ 1000000) :
    Calls Try.prog 63 #[.map (some b)] w fun e w' => ∃ v, e = .returned v ∧ Below w.heap.size w w' ∧ w'.ownsRow w.heap.size 3 1 v (f.keys n).length (ints (nats (f.keys n))) := by
  obtain ⟨i0, hi, hz0, hz1, hz2⟩ := info_parts inf3
  obtain ⟨D, hown, hdm⟩ := h
  have HD := hide hdm
  have hbl := hown.lt
  have hsz := hown.size_le
  clear hdm
  go_enter Try.func63, Try.ntmps63
  go_wp2_with (first
    | (at_range; refine wpList_range_own _ rfl _ 80 rfl 3 89 (int_keyed Try.underlying3) Try.underlying80 RT b nn D rfl hown ?_; intro w0 hrg0 hg0 hs0)
    | go_in)
  go_frame
  go_loopw [3, 4] (fun v _ wr => ∃ (left : Lit → Bool) (cnt : Nat) (ks : List Int), wr.ranges Try.prog 3 RT b w.heap.size nn D left cnt ∧ wr.ownsRow (w.heap.size + 1) 3 1 v ks.length (ints ks) ∧ Hid (Coll D left ks) ∧ ks.length + cnt ≤ nn ∧ Below w.heap.size w wr ∧ w.heap.size + 1 ≤ wr.heap.size) (fun _ _ wr => wr.rangeLeft b w.heap.size)
  case atStart =>
    exact ⟨_, _, [], hrg0, World.ownsRow_nil _ _ _ _, Coll.start D, by simpa using hsz, ⟨hg0.os, hg0.tape, hg0.output, hg0.size, fun k hk => hg0.block k hk (by simp)⟩, by omega⟩
  case round =>
    obtain ⟨left, cnt, ks, hrg, hrow, HC, hlen, hB, hz⟩ := hrel
    go_wp2_with (first
      | (at_next; refine wpList_next_ranges _ rfl _ rfl 3 (int_keyed Try.underlying3) RT (Value.int .i64) (fun c : Int × Int => .agg #[.int .i64 c.1, .int .i64 c.2]) invK invV b w.heap.size nn _ _ _ rfl hrg ?_ ?_)
      | go_in)
    · intro hc0 hl0
      have hs := HC.out.sorted HD.out hl0
      rcases hrow.2 with ⟨hnil, hk0⟩ | ⟨g, cap, cur, hv, hbase, hb, h1, h2, h3, h4⟩
      · subst hnil
        obtain rfl : ks = [] := List.eq_nil_of_length_eq_zero hk0
        have hL : f.keys n = [] := by
          have := congrArg List.length hs
          simp [nats] at this
          exact List.length_eq_zero_iff.1 this.symm
        clear hrg hs
        go_wp2_with (go_at_call 66; refine (Try.slices_Sort_int_none none 0 _).mono ?_; rintro e w' ⟨rfl, rfl⟩)
        go_ret
        exact ⟨_, rfl, hB, by rw [hL]; exact World.ownsRow_nil _ _ _ _⟩
      · subst hv
        have hsort := hide (sort_keys hrow hb h1 h2 h3 h4 hbase (by omega) hs)
        clear hrg hs hrow h4
        go_wp2_with (go_at_call 66; refine hsort.out.mono ?_; rintro e w' ⟨rfl, ho, hg⟩)
        go_ret
        exact ⟨_, rfl, hB.trans (grownBy_below hg (by omega) (by omega)), owns_base ho (Nat.le_succ w.heap.size)⟩
    · intro x c1 c2 kl yd yp w1 cnt1 hkey hlk hv hat hrg1 hlt hg1 hs1 hen
      obtain ⟨x', ex, rfl, _⟩ := Maps.keyOf_int_inv Try.underlying3 hkey
      cases ex
      have hm0 : wr.rangeLeft b w.heap.size = cnt := hrg.left_eq
      have hC1 := hide (HC.out.step hlk (has_true_of_atKey hat))
      have hrow1 := own_keep' hrow (w' := w1) (fun g hg hl => hg1.block g hl (by simp; have := hrow.lt g hg; omega))
      have hB1 : Below w.heap.size w w1 := hB.trans (grownBy_below hg1 (Nat.le_refl _) (by omega))
      have hz1' : w.heap.size + 1 ≤ w1.heap.size := by omega
      clear hrow hrg HC hs1 hg1 hB hat hv
      go_wp2_with (first
        | (at_builtin; refine wpList_append_own _ rfl _ _ 38 rfl (w.heap.size + 1) 3 i0 (.int .i64 0) 1 8 Try.underlying38 hi hz0 hz1 hz2 rfl (by decide) _ _ _ rfl (hrow1.alloc _) ⟨w1.heap.size, 0, none⟩ 1 1 (ints [x]) rfl rfl (new_one _ _ rfl) (int_cells _) (by unfold maxLen; omega) (by omega) (by simp; omega) ?_))
      intro v2 w2 own2 hg2 _
      have hrg2 := (hrg1.alloc (.cells #[.int .i64 x] 3)).kept hg2 (fun he => by have := hrow1.lt b he.symm; omega) (fun he => by have := hrow1.lt _ he.symm; omega)
      have hO2 : w2.ownsRow (w.heap.size + 1) 3 1 v2 (ks ++ [x]).length (ints (ks ++ [x])) := by
        rw [ints_snoc, List.length_append]; exact own2
      have hB2 : Below w.heap.size w w2 := (hB1.alloc hB1.size _).trans ⟨hg2.os, hg2.tape, hg2.output, hg2.size, fun k hk => hg2.block k (by simp; omega) (fun he => by have := hrow1.lt k he.symm; omega)⟩
      have hz2' : w.heap.size + 1 ≤ w2.heap.size := Nat.le_trans hz1' (Nat.le_trans (by simp) hg2.size)
      have HRG := hide hrg2
      have HM0 := hide hm0
      clear own2 hrg1 hrow1 hg2 hrg2 hen hm0
      go_wp2_with fail
      go_roundw
      case rel => exact ⟨_, cnt1, ks ++ [x], HRG.out, hO2, hC1, by simp; omega, hB2, hz2'⟩
      case measure => rw [HRG.out.left_eq, HM0.out]; omega
end Go.Proofs.Ytogkbidphdpjaaa
