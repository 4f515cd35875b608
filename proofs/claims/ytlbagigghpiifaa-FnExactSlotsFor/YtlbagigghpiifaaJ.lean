/-
  What SumFracs answers, the program's and the model's, over a row of fractions in memory.
-/
import Derived.Test.YtlbagigghpiifaaF
namespace Go.Proofs.Ytlbagigghpiifaa
open Go.RowKit

/-- A row of fractions lies in memory from place 'off' of block 'b' on. -/
def RowAt (w : World) (b off : Nat) (xs : List (Int × Int)) : Prop :=
  ∀ i, i < xs.length → w.cell? ⟨b, off + i * 2, none⟩ = some (.int .i64 (xs.getD i (0, 0)).1) ∧ w.cell? ⟨b, off + i * 2 + 1, none⟩ = some (.int .i64 (xs.getD i (0, 0)).2)

set_option maxHeartbeats 1000000 in
theorem sum_row (b off cap : Nat) (xs : List (Int × Int)) (w : World) (hlen : xs.length ≤ 50) (hr : RowAt w b off xs) (hb : b < w.heap.size) :
    Calls Try.prog 35 #[.slice (some ⟨b, off, none⟩) xs.length cap] w fun e w' => e = .returned (.tuple #[.agg #[.int .i64 (Fr.sumN xs), .int .i64 (Fr.sumD xs)], .bool (Fr.sumB xs)]) ∧ Below w.heap.size w w' := by
  have hl0 : ¬ (50 : Int) < (xs.length : Int) := by omega
  go_enter Try.func35, Try.ntmps35
  go_wp2_with fail
  refine (whole_any 0 _).mono ?_
  rintro e w1 ⟨rfl, hb1⟩
  obtain ⟨hc1, hf1⟩ := bcell hb1
  have hz1 : w.heap.size < w1.heap.size := by have := hb1.size; simp at this; omega
  go_wp2_with fail
  go_loopw [16] (fun s wr => ∃ (k : Nat) (n d : Int), s = .int .i64 k ∧ k ≤ xs.length ∧ Hid (Fr.sumL (xs.drop k) n d = Fr.sumL xs 0 1) ∧ wr.cell? ⟨w1.heap.size, 0, none⟩ = some (.int .i64 n) ∧ wr.cell? ⟨w1.heap.size, 1, none⟩ = some (.int .i64 d) ∧ wr.frozen? ⟨w1.heap.size, 0, none⟩ = false ∧ wr.frozen? ⟨w1.heap.size, 1, none⟩ = false ∧ wr.cell? ⟨w.heap.size, 0, none⟩ = some (.int .i64 0) ∧ wr.cell? ⟨w.heap.size, 1, none⟩ = some (.int .i64 0) ∧ wr.frozen? ⟨w.heap.size, 0, none⟩ = false ∧ wr.frozen? ⟨w.heap.size, 1, none⟩ = false ∧ Below w.heap.size w wr ∧ w1.heap.size < wr.heap.size) (fun s _ => xs.length - (intOf s).toNat)
  case atStart =>
    refine ⟨0, 0, 1, rfl, Nat.zero_le _, hide (by simp), ?_, ?_, ?_, ?_, ?_, ?_, ?_, ?_, ?_, ?_⟩
    · simp [go_sem]
    · simp [go_sem]
    · simp [go_sem]
    · simp [go_sem]
    · simp [go_sem, hc1, hz1]
    · simp [go_sem, hc1, hz1]
    · simp [go_sem, hf1, hz1]
    · simp [go_sem, hf1, hz1]
    · exact (((Below.refl _ _).alloc (Nat.le_refl _) _).trans (hb1.mono (by simp))).alloc (by omega) _
    · simp
  case round =>
    obtain ⟨k, n, d, rfl, hk, HS, c0, c1, f0, f1, e0, e1, g0, g1, hB, hz⟩ := hrel
    clear hc1 hf1
    by_cases hlt : k < xs.length
    · obtain ⟨r0, r1⟩ := hr k hlt
      have r0' := (hB.cell (p := ⟨b, off + k * 2, none⟩) hb).trans r0
      have r1' := (hB.cell (p := ⟨b, off + k * 2 + 1, none⟩) hb).trans r1
      have hz' : w.heap.size < wr.heap.size := by omega
      generalize hgx : (xs.getD k (0, 0)) = x at *
      obtain ⟨x1, x2⟩ := x
      have HG := hide hgx
      clear r0 r1 hgx
      cases hadd : Fr.addB n d x1 x2
      · have HN := hide (Fr.sum_none xs (HS.out ▸ Fr.sumL_stop xs k n d _ hlt HG.out hadd))
        go_wp2_with fail
        have hcall := addF_any n d x1 x2 (wr.alloc (.cells #[.int .i64 x1, .int .i64 x2] 30))
        rw [hadd] at hcall
        refine hcall.mono ?_
        clear hcall
        rintro e w2 ⟨rfl, hb2⟩
        have hb3 : Below wr.heap.size wr w2 := (below_alloc wr _).trans (hb2.mono (by simp))
        obtain ⟨e0', e1', g0', g1'⟩ := new_var hb3 _ _ _ e0 e1 g0 g1
        have hz2 : w.heap.size < w2.heap.size := by have := hb3.size; omega
        go_wp2_with fail
        refine bodyPost_ret (v := .tuple #[.agg #[.int .i64 0, .int .i64 0], .bool false]) (by simp [results, Try.results35, go_sem, *]) rfl ⟨by rw [HN.out.1, HN.out.2.1, HN.out.2.2], ?_⟩
        exact (((hB.trans (hb3.mono (by omega))).setCell (Nat.le_refl _) _).setCell (Nat.le_refl _) _).alloc (by simp; omega) _
      · have HN := hide ((Fr.sumL_step xs k n d _ hlt HG.out hadd).symm.trans HS.out)
        go_wp2_with fail
        have hcall := addF_any n d x1 x2 (wr.alloc (.cells #[.int .i64 x1, .int .i64 x2] 30))
        rw [hadd] at hcall
        refine hcall.mono ?_
        clear hcall
        rintro e w2 ⟨rfl, hb2⟩
        have hb3 : Below wr.heap.size wr w2 := (below_alloc wr _).trans (hb2.mono (by simp))
        obtain ⟨e0', e1', g0', g1'⟩ := new_var hb3 _ _ _ e0 e1 g0 g1
        obtain ⟨c0', c1', f0', f1'⟩ := new_var hb3 _ _ _ c0 c1 f0 f1
        have hz2 : w.heap.size < w2.heap.size := by have := hb3.size; omega
        have hz3 : w1.heap.size < w2.heap.size := by have := hb3.size; omega
        go_wp2_with fail
        go_roundw
        case rel =>
          have hne : ¬ w.heap.size = w1.heap.size := by omega
          have hne' : ¬ w1.heap.size = w.heap.size := by omega
          refine ⟨k + 1, _, _, by go_num, by omega, HN, ?_, ?_, ?_, ?_, ?_, ?_, ?_, ?_, ?_, ?_⟩
          · simp [go_sem, *]
          · simp [go_sem, *]
          · simp [go_sem, *]
          · simp [go_sem, *]
          · simp [go_sem, *]
          · simp [go_sem, *]
          · simp [go_sem, *]
          · simp [go_sem, *]
          · exact (((hB.trans (hb3.mono (by omega))).setCell (Nat.le_of_lt hz1) _).setCell (Nat.le_of_lt hz1) _).alloc (by simp; omega) _
          · simp; omega
        case measure => simp only [intOf]; omega
    · have hke : k = xs.length := by omega
      subst hke
      have HN := hide (Fr.sum_some xs hlen n d (by have := HS.out; simpa [Fr.sumL] using this.symm))
      go_wp2_with fail
      refine bodyPost_ret (v := .tuple #[.agg #[.int .i64 n, .int .i64 d], .bool true]) (by simp [results, Try.results35, go_sem, *]) rfl ⟨by rw [HN.out.1, HN.out.2.1, HN.out.2.2], ?_⟩
      exact (hB.setCell (Nat.le_refl _) _).setCell (Nat.le_refl _) _

set_option maxHeartbeats 400000 in
theorem sum_long (a : Option Addr) (len cap : Nat) (w : World) (h : 50 < len) :
    Calls Try.prog 35 #[.slice a len cap] w fun e w' => e = .returned (.tuple #[.agg #[.int .i64 0, .int .i64 0], .bool false]) ∧ Below w.heap.size w w' := by
  have hl0 : (50 : Int) < (len : Int) := by omega
  go_enter Try.func35, Try.ntmps35
  go_wp2_with fail
  exact bodyPost_ret (v := .tuple #[.agg #[.int .i64 0, .int .i64 0], .bool false]) (by simp [results, Try.results35, go_sem]) rfl ⟨rfl, (Below.refl _ _).alloc (Nat.le_refl _) _⟩

set_option maxHeartbeats 400000 in
theorem sum_zero (a : Option Addr) (cap : Nat) (w : World) :
    Calls Try.prog 35 #[.slice a 0 cap] w fun e w' => e = .returned (.tuple #[.agg #[.int .i64 0, .int .i64 1], .bool true]) ∧ Below w.heap.size w w' := by
  go_enter Try.func35, Try.ntmps35
  go_wp2_with fail
  refine (whole_any 0 _).mono ?_
  rintro e w1 ⟨rfl, hb1⟩
  obtain ⟨hc1, hf1⟩ := bcell hb1
  have hz1 : w.heap.size < w1.heap.size := by have := hb1.size; simp at this; omega
  go_wp2_with fail
  go_loopw [16] (fun s wr => s = .int .i64 0 ∧ wr = w1.alloc (.cells #[.int .i64 0, .int .i64 1] 30)) (fun s _ => 0)
  case atStart => exact ⟨rfl, rfl⟩
  case round =>
    obtain ⟨rfl, rfl⟩ := hrel
    go_wp2_with fail
    refine bodyPost_ret (v := .tuple #[.agg #[.int .i64 0, .int .i64 1], .bool true]) (by simp [results, Try.results35, go_sem, *]) rfl ⟨rfl, ?_⟩
    exact ((((((Below.refl _ _).alloc (Nat.le_refl _) _).trans (hb1.mono (by simp))).setCell (Nat.le_refl _) _).setCell (Nat.le_refl _) _).alloc (by simp; omega) _)

set_option maxHeartbeats 400000 in
theorem ssum_long (a : Option Addr) (len cap : Nat) (w : World) (h : 50 < len) :
    Calls Try.prog 33 #[.slice a len cap] w fun e w' => e = .returned (.tuple #[.agg #[.int .i64 0, .int .i64 0], .bool false]) ∧ Below w.heap.size w w' := by
  have hl0 : (50 : Int) < (len : Int) := by omega
  go_enter Try.func33, Try.ntmps33
  go_wp2_with fail
  exact bodyPost_ret (v := .tuple #[.agg #[.int .i64 0, .int .i64 0], .bool false]) (by simp [results, Try.results33, go_sem]) rfl ⟨rfl, ((Below.refl _ _).alloc (Nat.le_refl _) _).alloc (by simp) _⟩

set_option maxHeartbeats 400000 in
theorem ssum_zero (a : Option Addr) (cap : Nat) (w : World) :
    Calls Try.prog 33 #[.slice a 0 cap] w fun e w' => e = .returned (.tuple #[.agg #[.int .i64 0, .int .i64 1], .bool true]) ∧ Below w.heap.size w w' := by
  go_enter Try.func33, Try.ntmps33
  go_wp2_with fail
  go_loopw [16] (fun s wr => s = .int .i64 0 ∧ wr = (w.alloc (.cells #[.int .i64 0, .int .i64 0] 30)).alloc (.cells #[.int .i64 0, .int .i64 1] 30)) (fun s _ => 0)
  case atStart => exact ⟨rfl, rfl⟩
  case round =>
    obtain ⟨rfl, rfl⟩ := hrel
    go_wp2_with fail
    exact bodyPost_ret (v := .tuple #[.agg #[.int .i64 0, .int .i64 1], .bool true]) (by simp [results, Try.results33, go_sem]) rfl ⟨rfl, ((Below.refl _ _).alloc (Nat.le_refl _) _).alloc (by simp) _⟩

set_option maxHeartbeats 1000000 in
theorem ssum_row (b off cap : Nat) (xs : List (Int × Int)) (w : World) (hlen : xs.length ≤ 50) (hr : RowAt w b off xs) (hb : b < w.heap.size) :
    Calls Try.prog 33 #[.slice (some ⟨b, off, none⟩) xs.length cap] w fun e w' => e = .returned (.tuple #[.agg #[.int .i64 (Fr.sumN xs), .int .i64 (Fr.sumD xs)], .bool (Fr.sumB xs)]) ∧ Below w.heap.size w w' := by
  have hl0 : ¬ (50 : Int) < (xs.length : Int) := by omega
  go_enter Try.func33, Try.ntmps33
  go_wp2_with fail
  go_loopw [16] (fun s wr => ∃ (k : Nat) (n d : Int), s = .int .i64 k ∧ k ≤ xs.length ∧ Hid (Fr.sumL (xs.drop k) n d = Fr.sumL xs 0 1) ∧ wr.cell? ⟨w.heap.size + 1, 0, none⟩ = some (.int .i64 n) ∧ wr.cell? ⟨w.heap.size + 1, 1, none⟩ = some (.int .i64 d) ∧ wr.frozen? ⟨w.heap.size + 1, 0, none⟩ = false ∧ wr.frozen? ⟨w.heap.size + 1, 1, none⟩ = false ∧ wr.cell? ⟨w.heap.size, 0, none⟩ = some (.int .i64 0) ∧ wr.cell? ⟨w.heap.size, 1, none⟩ = some (.int .i64 0) ∧ wr.frozen? ⟨w.heap.size, 0, none⟩ = false ∧ wr.frozen? ⟨w.heap.size, 1, none⟩ = false ∧ Below w.heap.size w wr ∧ w.heap.size + 1 < wr.heap.size) (fun s _ => xs.length - (intOf s).toNat)
  case atStart =>
    refine ⟨0, 0, 1, rfl, Nat.zero_le _, hide (by simp), ?_, ?_, ?_, ?_, ?_, ?_, ?_, ?_, ?_, ?_⟩
    · simp [go_sem]
    · simp [go_sem]
    · simp [go_sem]
    · simp [go_sem]
    · simp [go_sem]
    · simp [go_sem]
    · simp [go_sem]
    · simp [go_sem]
    · exact ((Below.refl _ _).alloc (Nat.le_refl _) _).alloc (by simp) _
    · simp
  case round =>
    obtain ⟨k, n, d, rfl, hk, HS, c0, c1, f0, f1, e0, e1, g0, g1, hB, hz⟩ := hrel
    by_cases hlt : k < xs.length
    · obtain ⟨r0, r1⟩ := hr k hlt
      have r0' := (hB.cell (p := ⟨b, off + k * 2, none⟩) hb).trans r0
      have r1' := (hB.cell (p := ⟨b, off + k * 2 + 1, none⟩) hb).trans r1
      have hz' : w.heap.size < wr.heap.size := by omega
      generalize hgx : (xs.getD k (0, 0)) = x at *
      obtain ⟨x1, x2⟩ := x
      have HG := hide hgx
      clear r0 r1 hgx
      cases hadd : Fr.addB n d x1 x2
      · have HN := hide (Fr.sum_none xs (HS.out ▸ Fr.sumL_stop xs k n d _ hlt HG.out hadd))
        go_wp2_with fail
        have hcall := sAddF_any n d x1 x2 (wr.alloc (.cells #[.int .i64 x1, .int .i64 x2] 30))
        rw [hadd] at hcall
        refine hcall.mono ?_
        clear hcall
        rintro e w2 ⟨rfl, hb2⟩
        have hb3 : Below wr.heap.size wr w2 := (below_alloc wr _).trans (hb2.mono (by simp))
        obtain ⟨e0', e1', g0', g1'⟩ := new_var hb3 _ _ _ e0 e1 g0 g1
        have hz2 : w.heap.size < w2.heap.size := by have := hb3.size; omega
        go_wp2_with fail
        refine bodyPost_ret (v := .tuple #[.agg #[.int .i64 0, .int .i64 0], .bool false]) (by simp [results, Try.results33, go_sem, *]) rfl ⟨by rw [HN.out.1, HN.out.2.1, HN.out.2.2], ?_⟩
        exact (((hB.trans (hb3.mono (by omega))).setCell (Nat.le_refl _) _).setCell (Nat.le_refl _) _).alloc (by simp; omega) _
      · have HN := hide ((Fr.sumL_step xs k n d _ hlt HG.out hadd).symm.trans HS.out)
        go_wp2_with fail
        have hcall := sAddF_any n d x1 x2 (wr.alloc (.cells #[.int .i64 x1, .int .i64 x2] 30))
        rw [hadd] at hcall
        refine hcall.mono ?_
        clear hcall
        rintro e w2 ⟨rfl, hb2⟩
        have hb3 : Below wr.heap.size wr w2 := (below_alloc wr _).trans (hb2.mono (by simp))
        obtain ⟨e0', e1', g0', g1'⟩ := new_var hb3 _ _ _ e0 e1 g0 g1
        obtain ⟨c0', c1', f0', f1'⟩ := new_var hb3 _ _ _ c0 c1 f0 f1
        have hz2 : w.heap.size < w2.heap.size := by have := hb3.size; omega
        have hz3 : w.heap.size + 1 < w2.heap.size := by have := hb3.size; omega
        go_wp2_with fail
        go_roundw
        case rel =>
          refine ⟨k + 1, _, _, by go_num, by omega, HN, ?_, ?_, ?_, ?_, ?_, ?_, ?_, ?_, ?_, ?_⟩
          · simp [go_sem, *]
          · simp [go_sem, *]
          · simp [go_sem, *]
          · simp [go_sem, *]
          · simp [go_sem, *]
          · simp [go_sem, *]
          · simp [go_sem, *]
          · simp [go_sem, *]
          · exact (((hB.trans (hb3.mono (by omega))).setCell (Nat.le_succ _) _).setCell (Nat.le_succ _) _).alloc (by simp; omega) _
          · simp; omega
        case measure => simp only [intOf]; omega
    · have hke : k = xs.length := by omega
      subst hke
      have HN := hide (Fr.sum_some xs hlen n d (by have := HS.out; simpa [Fr.sumL] using this.symm))
      go_wp2_with fail
      refine bodyPost_ret (v := .tuple #[.agg #[.int .i64 n, .int .i64 d], .bool true]) (by simp [results, Try.results33, go_sem, *]) rfl ⟨by rw [HN.out.1, HN.out.2.1, HN.out.2.2], ?_⟩
      exact (hB.setCell (Nat.le_refl _) _).setCell (Nat.le_refl _) _

theorem RowAt.below {w w' : World} {B b off : Nat} {xs : List (Int × Int)} (h : RowAt w b off xs) (hb : Below B w w') (hlt : b < B) : RowAt w' b off xs :=
  fun i hi => ⟨(hb.cell (p := ⟨b, off + i * 2, none⟩) hlt).trans (h i hi).1, (hb.cell (p := ⟨b, off + i * 2 + 1, none⟩) hlt).trans (h i hi).2⟩

theorem sum_any (b off cap : Nat) (xs : List (Int × Int)) (w : World) (hr : RowAt w b off xs) (hb : b < w.heap.size) :
    Calls Try.prog 35 #[.slice (some ⟨b, off, none⟩) xs.length cap] w fun e w' => e = .returned (.tuple #[.agg #[.int .i64 (Fr.sumN xs), .int .i64 (Fr.sumD xs)], .bool (Fr.sumB xs)]) ∧ Below w.heap.size w w' := by
  by_cases h : xs.length ≤ 50
  · exact sum_row b off cap xs w h hr hb
  · obtain ⟨e1, e2, e3⟩ := Fr.sum_long xs (by omega)
    rw [e1, e2, e3]; exact sum_long _ _ _ _ (by omega)
theorem ssum_any (b off cap : Nat) (xs : List (Int × Int)) (w : World) (hr : RowAt w b off xs) (hb : b < w.heap.size) :
    Calls Try.prog 33 #[.slice (some ⟨b, off, none⟩) xs.length cap] w fun e w' => e = .returned (.tuple #[.agg #[.int .i64 (Fr.sumN xs), .int .i64 (Fr.sumD xs)], .bool (Fr.sumB xs)]) ∧ Below w.heap.size w w' := by
  by_cases h : xs.length ≤ 50
  · exact ssum_row b off cap xs w h hr hb
  · obtain ⟨e1, e2, e3⟩ := Fr.sum_long xs (by omega)
    rw [e1, e2, e3]; exact ssum_long _ _ _ _ (by omega)
end Go.Proofs.Ytlbagigghpiifaa
