/-
  Families: which are good, what an order of them costs; areFamilies and SmithCost of the program, l7Families, l7Smith and SmithCost of the model.
-/
import Derived.Test.YthhahfcdnpegfaaHc
import Derived.Test.YthhahfcdnpegfaaHl
namespace Go.Proofs.Ythhahfcdnpegfaa
open Go.RowKit

namespace Fm
def okF (f : Int × Int) : Bool := Pf.inB f.1 0 1000 && Pf.inB f.2 1 9
def famB (L : List (Int × Int)) : Bool := decide (L.length ≤ 6) && (List.range L.length).all fun i => okF (L.getD i (0, 0))
theorem famB_len {L : List (Int × Int)} (h : famB L = true) : L.length ≤ 6 := by simp only [famB, Bool.and_eq_true, decide_eq_true_eq] at h; exact h.1
theorem famB_at {L : List (Int × Int)} (h : famB L = true) {i : Nat} (hi : i < L.length) : okF (L.getD i (0, 0)) = true := by
  simp only [famB, Bool.and_eq_true, List.all_eq_true, List.mem_range] at h; exact h.2 i hi
theorem famB_of {L : List (Int × Int)} (h1 : L.length ≤ 6) (h : ∀ i, i < L.length → okF (L.getD i (0, 0)) = true) : famB L = true := by
  simp only [famB, Bool.and_eq_true, decide_eq_true_eq, List.all_eq_true, List.mem_range]; exact ⟨h1, h⟩
theorem famB_many {L : List (Int × Int)} (h : 6 < L.length) : famB L = false := by simp [famB, show ¬ L.length ≤ 6 by omega]
theorem famB_not {L : List (Int × Int)} {i : Nat} (hi : i < L.length) (h : okF (L.getD i (0, 0)) = false) : famB L = false := by
  cases e : famB L
  · rfl
  · rw [famB_at e hi] at h; cases h
theorem okF_yes {f : Int × Int} (h : okF f = true) : (0 ≤ f.1 ∧ f.1 ≤ 1000) ∧ 1 ≤ f.2 ∧ f.2 ≤ 9 := by
  simp only [okF, Bool.and_eq_true] at h
  exact ⟨Pf.inB_yes h.1, Pf.inB_yes h.2⟩
/-- How many stand in an order up to its first k. -/
def befTo (L : List (Int × Int)) (os : List Int) : Nat → Int
  | 0 => 0
  | k + 1 => befTo L os k + (L.getD (Od.nth os k) (0, 0)).2
def smTo (L : List (Int × Int)) (os : List Int) : Nat → Int
  | 0 => 0
  | k + 1 => smTo L os k + (L.getD (Od.nth os k) (0, 0)).1 * befTo L os (k + 1)
def smith (L : List (Int × Int)) (os : List Int) : Int := smTo L os os.length
theorem bef_bd {L : List (Int × Int)} {os : List Int} (h : famB L = true) (ho : Od.ordB os L.length = true) : ∀ k, k ≤ L.length → 0 ≤ befTo L os k ∧ befTo L os k ≤ 9 * (k : Int)
  | 0, _ => by simp [befTo]
  | k + 1, hk => by
    have h1 := bef_bd h ho k (by omega)
    have h2 := okF_yes (famB_at h (Od.nth_lt ho (show k < L.length by omega)))
    simp only [befTo]; omega
theorem term_bd {x y : Int} (hx : 0 ≤ x ∧ x ≤ 1000) (hy : 0 ≤ y ∧ y ≤ 100) : 0 ≤ x * y ∧ x * y ≤ 100000 := by
  refine ⟨Int.mul_nonneg hx.1 hy.1, ?_⟩
  exact Int.le_trans (Int.mul_le_mul_of_nonneg_right hx.2 hy.1) (Int.le_trans (Int.mul_le_mul_of_nonneg_left hy.2 (show (0 : Int) ≤ 1000 by omega)) (by omega))
theorem sm_bd {L : List (Int × Int)} {os : List Int} (h : famB L = true) (ho : Od.ordB os L.length = true) : ∀ k, k ≤ L.length → 0 ≤ smTo L os k ∧ smTo L os k ≤ 100000 * (k : Int)
  | 0, _ => by simp [smTo]
  | k + 1, hk => by
    have h1 := sm_bd h ho k (by omega)
    have h2 := okF_yes (famB_at h (Od.nth_lt ho (show k < L.length by omega)))
    have h3 := bef_bd h ho (k + 1) hk
    have h6 := famB_len h
    have h4 := term_bd h2.1 (show 0 ≤ befTo L os (k + 1) ∧ befTo L os (k + 1) ≤ 100 by omega)
    simp only [smTo]; omega
def scB (L : List (Int × Int)) (os : List Int) : Bool := famB L && Od.ordB os L.length
def scI (L : List (Int × Int)) (os : List Int) : Int := if scB L os then smith L os else 0
end Fm
theorem cell_fam {w : World} (x y : Int) (t : TypeId) : (w.alloc (.cells #[.int .i64 x, .int .i64 y] t)).cell? ⟨w.heap.size, 0, none⟩ = some (.int .i64 x) := by simp
set_option maxRecDepth 100000 in
set_option maxHeartbeats 400000 in
theorem af_many {a : Option Addr} {n c : Nat} {w : World} (h : 6 < n) :
    Calls Try.prog 48 #[.slice a n c] w fun e w' => e = .returned (.bool false) ∧ Below w.heap.size w w' := by
  have h1 : (6 : Int) < n := by omega
  go_enter Try.func48, Try.ntmps48
  go_wp2_with fail
  go_ret
  exact ⟨rfl, Below.refl _ _⟩
set_option maxRecDepth 100000 in
set_option maxHeartbeats 2000000 in
theorem af_few {a : Option Addr} {n c : Nat} {L : List (Int × Int)} {w : World} (hx : L.length = n) (hn : n ≤ 6) (ha : FRow w a L) :
    Calls Try.prog 48 #[.slice a n c] w fun e w' => e = .returned (.bool (Fm.famB L)) ∧ Below w.heap.size w w' := by
  have h1 : ¬ (6 : Int) < n := by omega
  have HA := hide ha
  have HX := hide hx
  clear ha hx
  go_enter Try.func48, Try.ntmps48
  go_wp2_with fail
  go_loopw [2, 4, 10] (fun s2 _ s wr => ∃ (k : Nat), s2 = .bool false ∧ s = .int .i64 k ∧ k ≤ n ∧ Hid (∀ i, i < k → Fm.okF (L.getD i (0, 0)) = true) ∧ Below w.heap.size w wr) (fun _ _ s _ => n - (intOf s).toNat)
  case atStart => exact ⟨0, rfl, rfl, Nat.zero_le _, hide fun i hi => absurd hi (Nat.not_lt_zero _), Below.refl _ _⟩
  case round =>
    obtain ⟨k, rfl, rfl, hk, HK, hB⟩ := hrel
    by_cases hlt : k < n
    · obtain ⟨b, off, rfl, hbl, r1, r2⟩ := (HA.out.below hB).at (i := k) (by rw [HX.out]; exact hlt)
      have i0 : (0 : Int) ≤ (k : Int) := by omega
      have i1 : (k : Int) < (n : Int) := by omega
      have HNO := hide fun (h : Fm.okF (L.getD k (0, 0)) = false) => Fm.famB_not (L := L) (by rw [HX.out]; exact hlt) h
      have HYES := hide fun (h : Fm.okF (L.getD k (0, 0)) = true) (i : Nat) (hi : i < k + 1) => show Fm.okF (L.getD i (0, 0)) = true by
        by_cases e : i = k
        · subst e; exact h
        · exact HK.out i (by omega)
      generalize L.getD k (0, 0) = f at *
      obtain ⟨x, y⟩ := f
      have HBA := hide (hB.alloc hB.size (.cells #[.int .i64 x, .int .i64 y] 68))
      cases e1 : Pf.inB x 0 1000
      · have HN := hide (HNO.out (by simp [Fm.okF, e1]))
        go_wp2_with fail
        refine (between_eq e1).mono ?_
        rintro e w1 ⟨rfl, rfl⟩
        go_wp2_with fail
        go_ret
        exact ⟨ret_bool HN.out.symm, HBA.out⟩
      · cases e2 : Pf.inB y 1 9
        · have HN := hide (HNO.out (by simp [Fm.okF, e2]))
          go_wp2_with fail
          refine (between_eq e1).mono ?_
          rintro e w1 ⟨rfl, hw1⟩
          have hw1' := hw1.symm
          clear hw1
          subst hw1'
          go_wp2_with fail
          refine (between_eq e2).mono ?_
          rintro e w1 ⟨rfl, rfl⟩
          go_wp2_with fail
          go_ret
          exact ⟨ret_bool HN.out.symm, HBA.out⟩
        · have HY := hide (HYES.out (by simp [Fm.okF, e1, e2]))
          go_wp2_with fail
          refine (between_eq e1).mono ?_
          rintro e w1 ⟨rfl, hw1⟩
          have hw1' := hw1.symm
          clear hw1
          subst hw1'
          go_wp2_with fail
          refine (between_eq e2).mono ?_
          rintro e w1 ⟨rfl, hw1⟩
          have hw1' := hw1.symm
          clear hw1
          subst hw1'
          go_wp2_with fail
          go_roundw
          case rel => exact ⟨k + 1, rfl, by go_num, by omega, HY, HBA.out⟩
          case measure => simp only [intOf]; omega
    · have hke : k = n := by omega
      subst hke
      have HY := hide (Fm.famB_of (by rw [HX.out]; exact hn) (by rw [HX.out]; exact HK.out))
      go_wp2_with fail
      go_ret
      exact ⟨ret_bool HY.out.symm, hB⟩
theorem af_any {a : Option Addr} {n c : Nat} {L : List (Int × Int)} {w : World} (hx : L.length = n) (ha : FRow w a L) :
    Calls Try.prog 48 #[.slice a n c] w fun e w' => e = .returned (.bool (Fm.famB L)) ∧ Below w.heap.size w w' := by
  by_cases h : n ≤ 6
  · exact af_few hx h ha
  · rw [Fm.famB_many (by omega)]; exact af_many (by omega)
theorem af_eq {a : Option Addr} {n c : Nat} {L : List (Int × Int)} {w : World} {r : Bool} (hx : Hid (L.length = n)) (ha : Hid (FRow w a L)) (h : Hid (Fm.famB L = r)) :
    Calls Try.prog 48 #[.slice a n c] w fun e w' => e = .returned (.bool r) ∧ Below w.heap.size w w' := h.out ▸ af_any hx.out ha.out
end Go.Proofs.Ythhahfcdnpegfaa
