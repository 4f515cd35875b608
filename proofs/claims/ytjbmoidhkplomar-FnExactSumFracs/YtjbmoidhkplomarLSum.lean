/-
  At any list of fractions SumFracs answers as the model does, and writes into none: the law's own walk, out of what the functions answer.
-/
import Derived.Test.YtjbmoidhkplomarK
namespace Go.Proofs.Ytjbmoidhkplomar
open Go.RowKit

theorem src_below {a : Option Addr} {xs : List (Int × Int)} {w w' : World} (hr : xs = [] ∨ ∃ b off, a = some ⟨b, off, none⟩ ∧ b < w.heap.size ∧ RowAt w b off xs) (hb : Below w.heap.size w w') :
    xs = [] ∨ ∃ b off, a = some ⟨b, off, none⟩ ∧ b < w'.heap.size ∧ RowAt w' b off xs := by
  rcases hr with h | ⟨b, off, ha, hlt, hrow⟩
  · exact Or.inl h
  · exact Or.inr ⟨b, off, ha, Nat.lt_of_lt_of_le hlt hb.size, hrow.below hb hlt⟩

set_option maxHeartbeats 400000 in
theorem lSum_long (a : Option Addr) (len cap : Nat) (w : World) (hm : len ≤ maxLen) (h : 1048576 < len) :
    Calls Try.prog 3 #[.slice a len cap] w fun e w' => e = .returned (.bool true) ∧ Below w.heap.size w w' := by
  go_enter Try.func3, Try.ntmps3
  go_wp2_with fail
  refine (sz_no a len cap 1048576 _ (by omega) (by omega) hm (by omega)).mono ?_
  rintro e w1 ⟨rfl, rfl⟩
  go_wp2_with fail
  go_ret
  exact ⟨rfl, Below.refl _ _⟩

set_option maxHeartbeats 1000000 in
theorem lSum_short (a : Option Addr) (cap : Nat) (xs : List (Int × Int)) (w : World) (hlen : xs.length ≤ 1048576) (hr : xs = [] ∨ ∃ b off, a = some ⟨b, off, none⟩ ∧ b < w.heap.size ∧ RowAt w b off xs) :
    Calls Try.prog 3 #[.slice a xs.length cap] w fun e w' => e = .returned (.bool true) ∧ Below w.heap.size w w' := by
  have HR := hide hr
  clear hr
  have hl : ¬ (1048576 : Int) - (xs.length : Int) < 0 := by omega
  have hnb : (Fr.sumB xs != Fr.sumB xs) = false := by simp
  go_enter Try.func3, Try.ntmps3
  go_wp2_with fail
  refine (sz_yes a xs.length cap 1048576 _ (by omega) (by omega) (by omega)).mono ?_
  rintro e w0 ⟨rfl, rfl⟩
  go_wp2_with fail
  refine (toS_row a cap xs _ hlen HR.out).mono ?_
  rintro e w1 ⟨rfl, hb1, hz1, hrow1⟩
  have HROW1 := hide hrow1
  clear hrow1
  go_wp2_with fail
  refine (ssum_any _ _ _ xs _ HROW1.out hz1).mono ?_
  rintro e w2 ⟨rfl, hb2⟩
  have hB2 : Below w0.heap.size w0 w2 := hb1.trans (hb2.mono hb1.size)
  have hB3 : Below w0.heap.size w0 (w2.alloc (.cells #[.int .i64 (Fr.sumN xs), .int .i64 (Fr.sumD xs)] 25)) := hB2.alloc hB2.size _
  go_wp2_with fail
  refine (toS_row a cap xs _ hlen (src_below HR.out hB3)).mono ?_
  rintro e w4 ⟨rfl, hb4, hz4, hrow4⟩
  have hB4 : Below w0.heap.size w0 w4 := hB3.trans (hb4.mono hB3.size)
  have p0 : w4.cell? ⟨w2.heap.size, 0, none⟩ = some (.int .i64 (Fr.sumN xs)) := ((bcell hb4).1 _ _ (by simp)).trans (by simp [go_sem])
  have p1 : w4.cell? ⟨w2.heap.size, 1, none⟩ = some (.int .i64 (Fr.sumD xs)) := ((bcell hb4).1 _ _ (by simp)).trans (by simp [go_sem])
  simp only [World.size_alloc] at hz4 hrow4
  have HROW4 := hide hrow4
  have HB4 := hide hb4
  clear hrow4 hb4
  go_wp2_with fail
  refine (sum_any _ _ _ xs _ HROW4.out hz4).mono ?_
  rintro e w5 ⟨rfl, hb5⟩
  have hB5 : Below w0.heap.size w0 w5 := hB4.trans (hb5.mono hB4.size)
  have q0 : w5.cell? ⟨w2.heap.size, 0, none⟩ = some (.int .i64 (Fr.sumN xs)) := ((bcell hb5).1 _ _ (by omega)).trans p0
  have q1 : w5.cell? ⟨w2.heap.size, 1, none⟩ = some (.int .i64 (Fr.sumD xs)) := ((bcell hb5).1 _ _ (by omega)).trans p1
  have hz5 : w2.heap.size < w5.heap.size := by have := hb5.size; omega
  go_wp2_with fail
  refine (eqFrac_same _ _ _).mono ?_
  rintro e w6 ⟨rfl, hb6⟩
  have hB6 : Below w0.heap.size w0 w6 := (hB5.alloc hB5.size _).trans (hb6.mono (by have := hB5.size; simp; omega))
  have hb56 : Below w5.heap.size w5 w6 := (below_alloc w5 _).trans (hb6.mono (by simp))
  have hrow6 : RowAt w6 (w2.heap.size + 1) 0 xs := (HROW4.out.below hb5 hz4).below hb56 (by have := hb5.size; omega)
  have hz6 : w2.heap.size + 1 < w6.heap.size := by have := hb5.size; have := hb56.size; omega
  have HROW6 := hide hrow6
  clear hrow6
  go_wp2_with fail
  refine (toS_row a cap xs _ hlen (src_below HR.out hB6)).mono ?_
  rintro e w7 ⟨rfl, hb7, hz7, hrow7⟩
  have HROW7 := hide hrow7
  clear hrow7
  go_wp2_with fail
  refine (eqS_same _ _ _ _ xs _ hlen (by omega) hz7 (HROW6.out.below hb7 hz6) HROW7.out).mono ?_
  rintro e w8 ⟨rfl, hb8⟩
  go_wp2_with fail
  go_ret
  have hB7 : Below w0.heap.size w0 w7 := hB6.trans (hb7.mono hB6.size)
  exact ⟨rfl, hB7.trans (hb8.mono hB7.size)⟩

theorem lSum_walk (a : Option Addr) (cap : Nat) (xs : List (Int × Int)) (w : World) (hm : xs.length ≤ maxLen) (hr : xs = [] ∨ ∃ b off, a = some ⟨b, off, none⟩ ∧ b < w.heap.size ∧ RowAt w b off xs) :
    Calls Try.prog 3 #[.slice a xs.length cap] w fun e w' => e = .returned (.bool true) ∧ Below w.heap.size w w' := by
  by_cases h : xs.length ≤ 1048576
  · exact lSum_short a cap xs w h hr
  · exact lSum_long a _ cap w hm (by omega)
end Go.Proofs.Ytjbmoidhkplomar
