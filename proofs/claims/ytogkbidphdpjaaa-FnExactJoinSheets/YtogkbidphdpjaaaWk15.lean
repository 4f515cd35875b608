/-
  Marks found again in both lists of a sheet.
-/
import Derived.Test.YtogkbidphdpjaaaSd15
import Derived.Deep.RegionHeld3
namespace Go.Proofs.Ytogkbidphdpjaaa
open Go.RowKit

set_option maxHeartbeats 400000 in
theorem heldL_zero15 (a : Option Addr) (c : Nat) (k : Int) (w : World) :
    Calls Try.prog 45 #[.slice a 0 c, .int .i64 k] w fun e w' => e = .returned (.int .i64 k) ∧ w' = w := by
  go_enter Try.func45, Try.ntmps45
  go_wp2_with fail
  go_loop [1, 4, 5] (fun s _ t => s = .int .i64 k ∧ t = .int .i64 0) (fun s _ t => 0)
  case atStart => exact ⟨rfl, rfl⟩
  case round =>
    obtain ⟨rfl, rfl⟩ := hrel
    go_wp2_with fail
    go_ret
    exact ⟨rfl, rfl⟩
set_option maxHeartbeats 1000000 in
theorem heldL_some15 (B n cap : Nat) (k : Int) (w : World) (hn : n ≤ 1048576) (k0 : 0 < k) (k1 : k ≤ 900000000) (hl : ∀ j : Nat, j < n → w.cell? ⟨B, j * 2, none⟩ = some (.int .i64 (k + j * 2)) ∧ w.cell? ⟨B, j * 2 + 1, none⟩ = some (.int .i64 (k + j * 2 + 1))) :
    Calls Try.prog 45 #[.slice (some ⟨B, 0, none⟩) n cap, .int .i64 k] w fun e w' => e = .returned (.int .i64 (k + n * 2)) ∧ w' = w := by
  have HL := hide hl
  clear hl
  go_enter Try.func45, Try.ntmps45
  go_wp2_with fail
  go_loop [1, 4, 5] (fun s _ t => ∃ (i : Nat), t = .int .i64 i ∧ s = .int .i64 (k + i * 2) ∧ i ≤ n) (fun _ _ t => n - (intOf t).toNat)
  case atStart => exact ⟨0, rfl, by simp, Nat.zero_le _⟩
  case round =>
    obtain ⟨i, rfl, rfl, hi⟩ := hrel
    by_cases hlt : i < n
    · have i0 : (0 : Int) ≤ (i : Int) := by omega
      have i1 : (i : Int) < (n : Int) := by omega
      obtain ⟨c0, c1⟩ := HL.out i hlt
      have n0 : (k + (i : Int) * 2 != k + (i : Int) * 2) = false := by simp
      have n1 : (k + (i : Int) * 2 + 1 != k + (i : Int) * 2 + 1) = false := by simp
      go_wp2_with fail
      go_round
      case rel => exact ⟨i + 1, by go_num, by go_num, by omega⟩
      case measure => simp only [intOf]; omega
    · have hin : i = n := by omega
      subst hin
      go_wp2_with fail
      go_ret
      exact ⟨rfl, rfl⟩
theorem heldL_v15 {w : World} {n : Nat} {v : Value} {k : Int} (hn : n ≤ 1048576) (k0 : 0 < k) (k1 : k ≤ 900000000) (h : HeldLV w v n k) :
    Calls Try.prog 45 #[v, .int .i64 k] w fun e w' => e = .returned (.int .i64 (k + n * 2)) ∧ w' = w := by
  rcases h with ⟨rfl, rfl⟩ | ⟨g, cap, rfl, _, hc⟩
  · exact (heldL_zero15 none 0 k w).mono fun e w' ⟨he, hw⟩ => ⟨by rw [he]; simp, hw⟩
  · exact heldL_some15 g n cap k w hn k0 k1 hc
set_option maxHeartbeats 400000 in
theorem heldG_zero15 (a : Option Addr) (c : Nat) (k : Int) (w : World) :
    Calls Try.prog 44 #[.slice a 0 c, .int .i64 k] w fun e w' => e = .returned (.int .i64 k) ∧ w' = w := by
  go_enter Try.func44, Try.ntmps44
  go_wp2_with fail
  go_loop [1, 4, 5] (fun s _ t => s = .int .i64 k ∧ t = .int .i64 0) (fun s _ t => 0)
  case atStart => exact ⟨rfl, rfl⟩
  case round =>
    obtain ⟨rfl, rfl⟩ := hrel
    go_wp2_with fail
    go_ret
    exact ⟨rfl, rfl⟩
set_option maxHeartbeats 4000000 in
theorem heldG_some15 (B n cap : Nat) (k : Int) (w : World) (hn : n ≤ 1048576) (k0 : 0 < k) (k1 : k ≤ 900000000) (hB : B < w.heap.size) (hl : ∀ j : Nat, j < n → w.cell? ⟨B, j * 2, none⟩ = some (.string (mkT (k + j * 2))) ∧ w.cell? ⟨B, j * 2 + 1, none⟩ = some (.int .i64 (k + j * 2 + 1))) :
    Calls Try.prog 44 #[.slice (some ⟨B, 0, none⟩) n cap, .int .i64 k] w fun e w' => e = .returned (.int .i64 (k + n * 2)) ∧ Below w.heap.size w w' := by
  have HL := hide hl
  clear hl
  go_enter Try.func44, Try.ntmps44
  go_wp2_with fail
  go_loopw [1, 4, 5] (fun s _ t wr => ∃ (i : Nat), t = .int .i64 i ∧ s = .int .i64 (k + i * 2) ∧ i ≤ n ∧ Hid (Below w.heap.size w wr)) (fun _ _ t _ => n - (intOf t).toNat)
  case atStart => exact ⟨0, rfl, by simp, Nat.zero_le _, hide (Below.refl _ _)⟩
  case round =>
    obtain ⟨i, rfl, rfl, hi, HBl⟩ := hrel
    by_cases hlt : i < n
    · have i0 : (0 : Int) ≤ (i : Int) := by omega
      have i1 : (i : Int) < (n : Int) := by omega
      obtain ⟨c0', c1'⟩ := HL.out i hlt
      have c0 := (HBl.out.cell (p := ⟨B, i * 2, none⟩) hB).trans c0'
      have c1 := (HBl.out.cell (p := ⟨B, i * 2 + 1, none⟩) hB).trans c1'
      clear c0' c1'
      have HM := hide fun W => mt_any (k + i * 2) W (by omega) (by omega)
      generalize mkT (k + (i : Int) * 2) = T at *
      have n1 : (k + (i : Int) * 2 + 1 != k + (i : Int) * 2 + 1) = false := by simp
      have hd := HBl.out.drew
      have hz := HBl.out.size
      go_wp2_with fail
      go_region_held3 (fun w' => w'.cell? ⟨B, i * 2, none⟩ = some (.string T) ∧ w'.cell? ⟨B, i * 2 + 1, none⟩ = some (.int .i64 (k + (i : Int) * 2 + 1)) ∧ Below w.heap.size w w' ∧ w.heap.size ≤ w'.heap.size ∧ B < w'.heap.size)
        (first | exact ⟨c0, c1, hd, hz, Nat.lt_of_lt_of_le hB hz⟩ | assumption | fail)
        (first
        | (go_at_call 58; refine (HM.out _).mono ?_; rintro e w1 ⟨rfl, hb1⟩; obtain ⟨q0, q1, q2, q3, q4⟩ := ‹_ ∧ _ ∧ _ ∧ _ ∧ _›; have hS1 := (⟨(hb1.cell (p := ⟨B, i * 2, none⟩) q4).trans q0, (hb1.cell (p := ⟨B, i * 2 + 1, none⟩) q4).trans q1, q2.trans (hb1.mono q3), Nat.le_trans q3 hb1.size, Nat.lt_of_lt_of_le q4 hb1.size⟩ : _ ∧ _ ∧ _ ∧ _ ∧ _))
        | fail)
      obtain ⟨q0, q1, q2, q3, q4⟩ := hS1
      clear c0 c1 hd hz
      go_wp2_with fail
      exact ⟨⟨i + 1, by go_num, by go_num, by omega, hide q2⟩, by simp only [intOf]; omega⟩
    · have hin : i = n := by omega
      subst hin
      go_wp2_with fail
      go_ret
      exact ⟨rfl, HBl.out⟩
theorem heldG_v15 {w : World} {n : Nat} {v : Value} {k : Int} (hn : n ≤ 1048576) (k0 : 0 < k) (k1 : k ≤ 900000000) (h : HeldGV w v n k) :
    Calls Try.prog 44 #[v, .int .i64 k] w fun e w' => e = .returned (.int .i64 (k + n * 2)) ∧ Below w.heap.size w w' := by
  rcases h with ⟨rfl, rfl⟩ | ⟨g, cap, rfl, hB, hc⟩
  · exact (heldG_zero15 none 0 k w).mono fun e w' ⟨he, hw⟩ => ⟨by rw [he]; simp, by rw [hw]; exact Below.refl _ _⟩
  · exact heldG_some15 g n cap k w hn k0 k1 hB hc
set_option maxHeartbeats 2000000 in
/-- The marks of a sheet are found again. -/
theorem heldSh15 {a1 a2 : Option Addr} {n n' c1 c2 : Nat} {k : Int} {w : World} (hn : n ≤ 1048576) (hn' : n' ≤ 1048576) (k0 : 0 < k) (k1 : k ≤ 800000000) (C1 : HeldGV w (.slice a1 n c1) n k) (C2 : HeldLV w (.slice a2 n' c2) n' (k + n * 2)) :
    Calls Try.prog 22 #[.agg #[.slice a1 n c1, .slice a2 n' c2], .int .i64 k] w fun e w' => e = .returned (.int .i64 (k + n * 2 + n' * 2)) ∧ Below w.heap.size w w' := by
  have bn := below_new w (.cells #[.slice a1 n c1, .slice a2 n' c2] 31)
  have PB := hide (PBox.new w (.slice a1 n c1) (.slice a2 n' c2) 31)
  have D1 := hide (C1.below bn)
  have D2 := hide (C2.below bn)
  have HB := hide bn
  have h1 : ¬ k + (n : Int) * 2 < 0 := by omega
  have h2 : ¬ k + (n : Int) * 2 + (n' : Int) * 2 < 0 := by omega
  clear C1 C2 bn
  go_enter Try.func22, Try.ntmps22
  go_wp2_with fail
  refine (heldG_v15 hn k0 (by omega) D1.out).mono ?_
  rintro e w1 ⟨rfl, hb1⟩
  have D2' := hide (D2.out.below hb1)
  have HB1 := hide (HB.out.trans (hb1.mono HB.out.size))
  obtain ⟨p0, p1, _⟩ := PB.out.below hb1
  clear hb1 HB PB D1 D2
  go_wp2_with fail
  refine (heldL_v15 hn' (by omega) (by omega) D2'.out).mono ?_
  rintro e w1 ⟨rfl, rfl⟩
  go_wp2_with fail
  go_ret
  exact ⟨rfl, HB1.out⟩
end Go.Proofs.Ytogkbidphdpjaaa
