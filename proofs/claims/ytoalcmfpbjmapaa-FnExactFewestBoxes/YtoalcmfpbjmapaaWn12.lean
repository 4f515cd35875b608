/-
  What slices.Repeat answers for one number, ten times at most.
-/
import Derived.Test.YtoalcmfpbjmapaaShelf
import Derived.Test.YtoalcmfpbjmapaaJl0
import Derived.Test.YtoalcmfpbjmapaaYf
import Derived.Test.YtoalcmfpbjmapaaPg
import Derived.Test.YtoalcmfpbjmapaaHv
import Derived.Laws.CopyRow
import Derived.Deep.RegionLaw
namespace Go.Proofs.Ytoalcmfpbjmapaa
open Go.RowKit

/-- The first k of n are -1. -/
def mixT (n k : Nat) : List Int := List.replicate k 20 ++ List.replicate (n - k) 0
theorem mixT_len (n k : Nat) (h : k ≤ n) : (mixT n k).length = n := by simp [mixT]; omega
theorem mixT_zero (n : Nat) : mixT n 0 = List.replicate n 0 := by simp [mixT]
theorem mixT_all (n : Nat) : mixT n n = List.replicate n 20 := by simp [mixT]
theorem mixT_get {n k j : Nat} (h : j < k) (hk : k ≤ n) : (ints (mixT n k))[j]? = some (.int .i64 20) := by
  rw [ints_get _ j (by rw [mixT_len n k hk]; omega)]
  simp [mixT, List.getElem?_append, h]
theorem mixT_copy {n k j : Nat} (_hj : k + j ≤ n) : (ints (mixT n k)).take k ++ ints (List.replicate j 20) ++ (ints (mixT n k)).drop (k + j) = ints (mixT n (k + j)) := by
  have e1 : (ints (mixT n k)).take k = ints (List.replicate k 20) := by simp [mixT, ints]
  have e2 : (ints (mixT n k)).drop (k + j) = ints (List.replicate (n - (k + j)) 0) := by
    unfold ints mixT
    rw [← List.map_drop, List.drop_append, List.drop_of_length_le (by simp)]
    simp; omega
  rw [e1, e2]
  unfold mixT ints
  rw [← List.map_append, ← List.map_append, List.replicate_append_replicate]
/-- What is copied from the front of a list to behind it, or from another list. -/
theorem cp_own12 {w : World} {base X n k j : Nat} {a : Addr} {sL sC : Nat} (hj : k + j ≤ n) (hmin : j = Nat.min sL (n - k)) (hX : w.ownsRow base 3 1 (.slice (some ⟨X, 0, none⟩) n n) n (ints (mixT n k))) (hs : ∀ i, i < j → w.cell? (a.add i) = some (.int .i64 20)) :
    ∃ w', (∀ ty, (Builtin.copy_ #[22, 22] ty #[.slice (some ⟨X, k, none⟩) (n - k) (n - k), .slice (some a) sL sC]).run Try.prog w = .ok (.int .i64 (j : Int)) w') ∧ w'.ownsRow base 3 1 (.slice (some ⟨X, 0, none⟩) n n) n (ints (mixT n (k + j))) ∧ w.grownBy w' (some X) := by
  rcases hX.2 with ⟨h, _⟩ | ⟨g, cap, cur, hv, hb, hg, hnc, hcm, hcs, htake⟩
  · cases h
  cases hv
  have hsz : (Try.prog.info? 3).map (·.size) = some 1 := by kernel_rfl
  have hl : (ints (List.replicate j 20)).length = j := by simp [ints]
  have hrun := fun ty => run_copy_row (P := Try.prog) w 22 22 ty 3 X k (n - k) (n - k) a sL sC cur 3 (ints (List.replicate j 20)) Try.underlying22 hsz hg (by rw [hl]; exact hmin) (fun i v hi => by
    have hij : i < j := by have := (List.getElem?_eq_some_iff.1 hi).1; omega
    have : v = .int .i64 20 := by simpa [ints, hij] using hi.symm
    rw [this]; exact hs i hij) (by rw [hl]; omega) (c_ints _)
  have hcur : cur.toList = ints (mixT n k) := by
    rw [← htake, List.take_of_length_le (by simp; omega)]
  rw [hl, hcur, mixT_copy hj] at hrun
  refine ⟨w.setRow X (ints (mixT n (k + j))).toArray, hrun, ⟨by simp [ints, mixT_len n (k + j) hj], .inr ⟨X, n, _, rfl, hb, setRow_heap w X _ _ _ _ hg, hnc, hcm, ?_, ?_⟩⟩, ⟨rfl, rfl, rfl, by simp [World.setRow], fun k _ hne => setRow_other w X k _ (by simpa using hne)⟩⟩
  · simp [ints, mixT_len n (k + j) hj]
  · rw [List.take_of_length_le (by simp [ints, mixT_len n (k + j) hj])]
theorem mul_c12 (n : Nat) (hn : n ≤ 10) (w : World) : Calls Try.prog 59 #[.int .u64 1, .int .u64 (n : Int)] w fun e w' => e = .returned (.tuple #[.int .u64 0, .int .u64 (n : Int)]) ∧ w' = w := by
  have := Try.bits_Mul 1 n (by omega) (by omega) w
  rw [Nat.one_mul, Nat.div_eq_of_lt (by omega), Nat.mod_eq_of_lt (by omega)] at this
  exact this
set_option maxRecDepth 20000 in
set_option maxHeartbeats 400000 in
theorem rp12 {B n : Nat} {w : World} (hn : n ≤ 10) (hc : w.cell? ⟨B, 0, none⟩ = some (.int .i64 20)) (hB : B < w.heap.size) :
    Calls Try.prog 41 #[.slice (some ⟨B, 0, none⟩) 1 1, .int .i64 (n : Int)] w fun e w' => e = .returned (.slice (some ⟨w.heap.size, 0, none⟩) n n) ∧ Below w.heap.size w w' ∧ w'.ownsRow w.heap.size 3 1 (.slice (some ⟨w.heap.size, 0, none⟩) n n) n (ints (List.replicate n 20)) := by
  have h1 : IntKind.u64.wrap (n : Int) = (n : Int) := by rw [IntKind.wrap_u64]; omega
  have h2 : IntKind.i64.wrap (n : Int) = (n : Int) := by rw [IntKind.wrap_i64]; omega
  have h3 : ¬ (9223372036854775807 : Int) < (n : Int) := by omega
  have h4 : ¬ (n : Int) < 0 := by omega
  have hmk := makeI_run n (by omega)
  have hM := made_own w n (by omega)
  rw [← mixT_zero] at hM
  have hcn : (w.alloc (.cells (madeCells #[.int .i64 0] n) 3)).cell? ⟨B, 0, none⟩ = some (.int .i64 20) := ((below_new w _).cell (p := ⟨B, 0, none⟩) hB).trans hc
  obtain ⟨j0, hj0, hj1⟩ : ∃ j0, j0 = Nat.min 1 (n - 0) ∧ 0 + j0 ≤ n := ⟨_, rfl, by simp only [Nat.min_def]; split <;> omega⟩
  have hj2 : n = 0 ∨ 1 ≤ j0 := by simp only [Nat.min_def] at hj0; split at hj0 <;> omega
  obtain ⟨w1, hr1, own1, hg1⟩ := cp_own12 (a := ⟨B, 0, none⟩) (sL := 1) (sC := 1) hj1 hj0 hM (fun i hi => by
    have : i = 0 := by simp only [Nat.min_def] at hj0; split at hj0 <;> omega
    subst this
    rw [add_plain']; exact hcn)
  simp only [Nat.zero_add, Nat.sub_zero] at hr1 own1
  have HB1 := hide ((below_new w (.cells (madeCells #[.int .i64 0] n) 3)).trans (grown_below' hg1 (Nat.le_refl _) (by simp)))
  have HO1 := hide own1
  have HJ := hide hj2
  clear own1 hg1 hM hc hcn hj0 hj2
  go_enter Try.func41, Try.ntmps41
  go_wp2_with fail
  refine (mul_c12 n hn _).mono ?_
  rintro e w0 ⟨rfl, hw0⟩
  obtain rfl : w = w0 := hw0.symm
  go_wp2_with (first | (at_builtin; refine wpList_copy_run8 rfl _ _ _ _ rfl _ _ rfl rfl _ _ (hr1 _) ?_))
  clear hr1 hmk h1 h2 h4
  go_loopw [8] (fun s8 wr => ∃ (k : Nat), s8 = .int .i64 k ∧ k ≤ n ∧ Hid (n = 0 ∨ 1 ≤ k) ∧ Hid (wr.ownsRow w.heap.size 3 1 (.slice (some ⟨w.heap.size, 0, none⟩) n n) n (ints (mixT n k))) ∧ Hid (Below w.heap.size w wr)) (fun s _ => n - (intOf s).toNat)
  case atStart => exact ⟨j0, rfl, by omega, HJ, HO1, HB1⟩
  case round =>
    clear HO1 HB1 HJ
    obtain ⟨k, rfl, hk, HJ, HO, HB⟩ := hrel
    by_cases hlt : k < n
    · have k1 : 1 ≤ k := by have := HJ.out; omega
      have i0 : (0 : Int) ≤ (k : Int) := by omega
      have i1 : (k : Int) < (n : Int) := by omega
      have i2 : (k : Int) ≤ (n : Int) := by omega
      have i3 : ¬ k = n := by omega
      have i5 : ¬ n = k := by omega
      have i4 : ¬ (k : Int) = (n : Int) := by omega
      obtain ⟨j, hj, hj1⟩ : ∃ j, j = Nat.min k (n - k) ∧ k + j ≤ n := ⟨_, rfl, by simp only [Nat.min_def]; split <;> omega⟩
      have hj2 : 1 ≤ j := by simp only [Nat.min_def] at hj; split at hj <;> omega
      have hjk : j ≤ k := by simp only [Nat.min_def] at hj; split at hj <;> omega
      obtain ⟨w2, hr2, own2, hg2⟩ := cp_own12 (w := wr.drew) (a := ⟨w.heap.size, 0, none⟩) (sL := k) (sC := n) hj1 hj HO.out.drew (fun i hi => by
        rw [add_plain', Nat.zero_add, HO.out.drew.cellAt i (by omega)]
        exact mixT_get (by omega) hk)
      have HO2 := hide own2
      have HB2 := hide (HB.out.trans (grown_below' (w := wr) ⟨hg2.os, hg2.tape, hg2.output, hg2.size, hg2.block⟩ (Nat.le_refl _) HB.out.size))
      have w1 : IntKind.i64.wrap ((k : Int) + (j : Int)) = (k : Int) + (j : Int) := by rw [IntKind.wrap_i64]; omega
      have HR2 : Hid (∀ ty, (Builtin.copy_ #[22, 22] ty #[.slice (if n = k then some ⟨w.heap.size, 0, none⟩ else some ⟨w.heap.size, k, none⟩) (n - k) (n - k), .slice (some ⟨w.heap.size, 0, none⟩) k n]).run Try.prog wr.drew = .ok (.int .i64 (j : Int)) w2) := hide fun ty => by rw [if_neg i5]; exact hr2 ty
      clear own2 hg2 hj hr2 i5 i3
      go_wp2_with fail
      go_region_law ((refine step_copy_run (w := wr.drew) (by rfl) (.tmp 41) (.tmp 44) 22 22 (by rfl) (.slice (if n = k then some ⟨w.heap.size, 0, none⟩ else some ⟨w.heap.size, k, none⟩) (n - k) (n - k)) (.slice (some ⟨w.heap.size, 0, none⟩) k n) (by simp [go_sem]) (by simp [go_sem]) (.int .i64 (j : Int)) w2 (HR2.out _) ?_))
      go_wp2_with fail
      go_roundw
      case rel => exact ⟨k + j, by go_num, hj1, (by show n = 0 ∨ 1 ≤ k + j; omega), HO2⟩
      case measure => simp only [intOf]; omega
    · have hke : k = n := by omega
      subst hke
      have HF : Hid (wr.ownsRow w.heap.size 3 1 (.slice (some ⟨w.heap.size, 0, none⟩) k k) k (ints (List.replicate k 20))) := hide (by rw [← mixT_all]; exact HO.out)
      go_wp2_with fail
      go_ret
      exact ⟨rfl, HB.out, HF.out⟩
end Go.Proofs.Ytoalcmfpbjmapaa
