/-
  What l10Do of the model, DoMoves and DoMove of both answer.
-/
import Derived.Test.YtdigcbjkobjdmaaMc10
namespace Go.Proofs.Ytdigcbjkobjdmaa
open Go.RowKit

theorem can_out {xs : List Int} {n : Nat} {F T : Int} (hx : xs.length = n) (h : F < 0 ∨ (n : Int) ≤ F ∨ T < 0 ∨ (n : Int) ≤ T) : Mx.canB xs (F, T) = false := by
  cases e : Mx.canB xs (F, T)
  · rfl
  · obtain ⟨h1, h2, _⟩ := Mx.can_in e
    simp only at h1 h2
    omega
theorem can_at {xs : List Int} {n f t : Nat} (hx : xs.length = n) (hf : f < n) (ht : t < n) : Mx.canB xs ((f : Int), (t : Int)) = ((xs.getD f 0 != 0) && (xs.getD t 0 == 0)) := by
  have : Pf.allB [(f : Int), (t : Int)] 0 ((xs.length : Int) - 1) = true := by
    simp only [Pf.allB, List.all_cons, List.all_nil, Bool.and_true]
    rw [Pf.inB_of (by omega) (by omega), Pf.inB_of (by omega) (by omega)]; rfl
  unfold Mx.canB
  rw [this]; simp
/-- What a try leaves: the spots as they are behind it. -/
def aft (xs : List Int) (m : Int × Int) : List Int := if Mx.canB xs m then Mx.mv xs m else xs
set_option maxHeartbeats 4000000 in
theorem ld_out {base g n c : Nat} {F T : Int} {xs : List Int} {w : World} (hx : xs.length = n) (h : F < 0 ∨ (n : Int) ≤ F ∨ T < 0 ∨ (n : Int) ≤ T) (own : w.ownsRow base 3 1 (.slice (some ⟨g, 0, none⟩) n c) n (ints xs)) :
    Calls Try.prog 38 #[.slice (some ⟨g, 0, none⟩) n c, .agg #[.int .i64 F, .int .i64 T]] w fun e w' => e = .returned (.bool (Mx.canB xs (F, T))) ∧ w'.ownsRow base 3 1 (.slice (some ⟨g, 0, none⟩) n c) n (ints (aft xs (F, T))) ∧ w.grownBy w' (some g) := by
  have hc := can_out (T := T) hx h
  have ha : aft xs (F, T) = xs := by unfold aft; rw [hc]; rfl
  rw [hc, ha]
  have HO := hide (own.alloc (.cells #[.int .i64 F, .int .i64 T] 30))
  have HG := hide (World.grownBy_alloc w (.cells #[.int .i64 F, .int .i64 T] 30) (some g))
  clear own hx hc ha
  by_cases h1 : F < 0
  · go_enter Try.func38, Try.ntmps38
    go_wp2_with fail
    go_ret
    exact ⟨rfl, HO.out, HG.out⟩
  · by_cases h2 : (n : Int) ≤ F
    · go_enter Try.func38, Try.ntmps38
      go_wp2_with fail
      go_ret
      exact ⟨rfl, HO.out, HG.out⟩
    · by_cases h3 : T < 0
      · go_enter Try.func38, Try.ntmps38
        go_wp2_with fail
        go_ret
        exact ⟨rfl, HO.out, HG.out⟩
      · have h4 : (n : Int) ≤ T := by omega
        go_enter Try.func38, Try.ntmps38
        go_wp2_with fail
        go_ret
        exact ⟨rfl, HO.out, HG.out⟩
set_option maxHeartbeats 4000000 in
theorem ld_in {base g n c f t : Nat} {xs : List Int} {w : World} (hx : xs.length = n) (hf : f < n) (ht : t < n) (own : w.ownsRow base 3 1 (.slice (some ⟨g, 0, none⟩) n c) n (ints xs)) :
    Calls Try.prog 38 #[.slice (some ⟨g, 0, none⟩) n c, .agg #[.int .i64 (f : Int), .int .i64 (t : Int)]] w fun e w' => e = .returned (.bool (Mx.canB xs ((f : Int), (t : Int)))) ∧ w'.ownsRow base 3 1 (.slice (some ⟨g, 0, none⟩) n c) n (ints (aft xs ((f : Int), (t : Int)))) ∧ w.grownBy w' (some g) := by
  have hc := can_at hx hf ht
  have hg := (own.lt g rfl).2
  have own1 := own.alloc (.cells #[.int .i64 (f : Int), .int .i64 (t : Int)] 30)
  have gr1 := World.grownBy_alloc w (.cells #[.int .i64 (f : Int), .int .i64 (t : Int)] 30) (some g)
  have cm0 : (w.alloc (.cells #[.int .i64 (f : Int), .int .i64 (t : Int)] 30)).cell? ⟨w.heap.size, 0, none⟩ = some (.int .i64 (f : Int)) := by simp
  have cm1 : (w.alloc (.cells #[.int .i64 (f : Int), .int .i64 (t : Int)] 30)).cell? ⟨w.heap.size, 1, none⟩ = some (.int .i64 (t : Int)) := by simp
  obtain ⟨W1, hW1⟩ : ∃ W, W = w.alloc (.cells #[.int .i64 (f : Int), .int .i64 (t : Int)] 30) := ⟨_, rfl⟩
  rw [← hW1] at own1 gr1 cm0 cm1
  have HW1 := hide hW1.symm
  obtain ⟨BV, hBV⟩ : ∃ b, b = w.heap.size := ⟨_, rfl⟩
  have hgB : g ≠ BV := by omega
  rw [← hBV] at cm0 cm1
  have HBV := hide hBV.symm
  obtain ⟨x, hxx⟩ : ∃ x, x = xs.getD f 0 := ⟨_, rfl⟩
  obtain ⟨y, hyy⟩ : ∃ y, y = xs.getD t 0 := ⟨_, rfl⟩
  have c1 : W1.cell? ⟨g, f, none⟩ = some (.int .i64 x) := by rw [own1.cellAt f (by omega), ints_get xs f (by omega), hxx]
  have c2 : W1.cell? ⟨g, t, none⟩ = some (.int .i64 y) := by rw [own1.cellAt t (by omega), ints_get xs t (by omega), hyy]
  have fz1 := own1.frozenAt t
  obtain ⟨s1, s2⟩ := own1.stored t (.int .i64 x)
  rw [ints_set] at s1
  have c3 : (W1.setCell ⟨g, t, none⟩ (.int .i64 x)).cell? ⟨g, f, none⟩ = some (.int .i64 ((xs.set t x).getD f 0)) := by rw [s1.cellAt f (by omega), ints_get _ f (by rw [List.length_set]; omega)]
  have fz2 := s1.frozenAt f
  obtain ⟨s3, s4⟩ := s1.stored f (.int .i64 0)
  rw [ints_set] at s3
  rw [← hxx, ← hyy] at hc
  have f0 : (0 : Int) ≤ (f : Int) := by omega
  have f1 : (f : Int) < (n : Int) := by omega
  have f2 : ¬ (f : Int) < 0 := by omega
  have f3 : ¬ (n : Int) ≤ (f : Int) := by omega
  have t0 : (0 : Int) ≤ (t : Int) := by omega
  have t1 : (t : Int) < (n : Int) := by omega
  have t2 : ¬ (t : Int) < 0 := by omega
  have t3 : ¬ (n : Int) ≤ (t : Int) := by omega
  have HSAME : Hid ((x != 0 && y == 0) = false → aft xs ((f : Int), (t : Int)) = xs) := hide fun h => by unfold aft; rw [hc, h]; rfl
  have HMV : Hid ((x != 0 && y == 0) = true → aft xs ((f : Int), (t : Int)) = (xs.set t x).set f 0) := hide fun h => by
    have e : Mx.mv xs ((f : Int), (t : Int)) = (xs.set f 0).set t x := by unfold Mx.mv; simp [hxx]
    have hne : f ≠ t := fun e => by subst e; rw [hyy, ← hxx] at h; simp at h
    unfold aft; rw [hc, h, if_pos rfl, e, Mx.mv_swap hne]
  have HG1 := hide gr1
  have HO1 := hide own1
  have HO3 := hide s3
  rw [hc]
  generalize aft xs ((f : Int), (t : Int)) = AF at *
  generalize (xs.set t x).getD f 0 = y2 at *
  clear own own1 gr1 hW1 hBV s1 s2 s3 s4 hg hxx hyy hx hc
  cases hx0 : (x == 0)
  · have hx1 : (x != 0) = true := by simp at hx0 ⊢; exact hx0
    cases hy0 : (y != 0)
    · have hy1 : (y == 0) = true := by simp at hy0 ⊢; exact hy0
      obtain rfl := HMV.out (by rw [hx1, hy1]; rfl)
      have HEND : Hid (((((W1.drewN 1).setCell ⟨g, t, none⟩ (.int .i64 x)).setCell ⟨g, f, none⟩ (.int .i64 0)).ownsRow base 3 1 (.slice (some ⟨g, 0, none⟩) n c) n (ints ((xs.set t x).set f 0))) ∧ w.grownBy (((W1.drewN 1).setCell ⟨g, t, none⟩ (.int .i64 x)).setCell ⟨g, f, none⟩ (.int .i64 0)) (some g)) := hide ⟨HO3.out, by
        have h := grownF_set (o := f) (v := .int .i64 0) (grownF_set (o := t) (v := .int .i64 x) HG1.out)
        exact ⟨h.os, h.tape, h.output, h.size, h.block⟩⟩
      rw [hx1, hy1]
      clear HSAME HMV HO1 HO3 HG1 hx1 hy1
      go_enter Try.func38, Try.ntmps38
      go_upto_region 2 with fail
      rw [HW1.out, HBV.out]
      clear HW1 HBV
      go_wp2_with fail
      go_region
      all_goals
        go_wp2_with fail
        go_ret
        exact ⟨rfl, HEND.out⟩
    · have hy1 : (y == 0) = false := by simp at hy0 ⊢; exact hy0
      obtain rfl := HSAME.out (by rw [hx1, hy1]; rfl)
      rw [hx1, hy1]
      clear HMV HO3 hx1 hy1 HSAME
      go_enter Try.func38, Try.ntmps38
      go_upto_region 2 with fail
      rw [HW1.out, HBV.out]
      clear HW1 HBV
      go_wp2_with fail
      go_ret
      exact ⟨rfl, HO1.out, HG1.out⟩
  · have hx1 : (x != 0) = false := by simp at hx0 ⊢; exact hx0
    obtain rfl := HSAME.out (by rw [hx1]; rfl)
    rw [hx1]
    clear HMV HO3 hx1 HSAME
    go_enter Try.func38, Try.ntmps38
    go_upto_region 2 with fail
    rw [HW1.out, HBV.out]
    clear HW1 HBV
    go_wp2_with fail
    go_ret
    exact ⟨rfl, HO1.out, HG1.out⟩
theorem ld_any {base g n c : Nat} {F T : Int} {xs : List Int} {w : World} (hx : xs.length = n) (own : w.ownsRow base 3 1 (.slice (some ⟨g, 0, none⟩) n c) n (ints xs)) :
    Calls Try.prog 38 #[.slice (some ⟨g, 0, none⟩) n c, .agg #[.int .i64 F, .int .i64 T]] w fun e w' => e = .returned (.bool (Mx.canB xs (F, T))) ∧ w'.ownsRow base 3 1 (.slice (some ⟨g, 0, none⟩) n c) n (ints (aft xs (F, T))) ∧ w.grownBy w' (some g) := by
  by_cases h : F < 0 ∨ (n : Int) ≤ F ∨ T < 0 ∨ (n : Int) ≤ T
  · exact ld_out hx h own
  · obtain ⟨f, rfl⟩ := Int.eq_ofNat_of_zero_le (show 0 ≤ F by omega)
    obtain ⟨t, rfl⟩ := Int.eq_ofNat_of_zero_le (show 0 ≤ T by omega)
    exact ld_in hx (by omega) (by omega) own
end Go.Proofs.Ytdigcbjkobjdmaa
