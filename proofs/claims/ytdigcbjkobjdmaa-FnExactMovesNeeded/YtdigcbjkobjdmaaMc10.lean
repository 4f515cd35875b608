/-
  What Clone, canMove and moveGood of the program and l10Do of the model answer.
-/
import Derived.Test.YtdigcbjkobjdmaaMd10
import Derived.Test.YtdigcbjkobjdmaaMb10
import Derived.Test.YtdigcbjkobjdmaaMm10
import Derived.Test.YtdigcbjkobjdmaaHv
import Derived.Test.YtdigcbjkobjdmaaShelf
import Derived.Lib.AppendZeros
import Derived.Deep.DeepCutAuto
namespace Go.Proofs.Ytdigcbjkobjdmaa
open Go.RowKit

theorem none_row10 (w : World) : (w.alloc (.cells #[] 3)).ownsRow w.heap.size 3 1 (.slice (some ⟨w.heap.size, 0, none⟩) 0 0) 0 [] := by
  have h := World.ownsRow_lit (base := w.heap.size) (e := 3) (size := 1) w #[] 0 (Nat.le_refl _) (by unfold maxLen; omega) (by simp)
  simpa using h
/-- A list of ints behind an empty one. -/
theorem cl_run {w : World} {a : Option Addr} {n c : Nat} {xs : List Int} (hx : xs.length = n) (hn : n ≤ 1000) (ha : ARow w a xs) :
    ∃ v' w', (∀ ty, (Builtin.append_ #[22, 22] ty #[.slice (some ⟨w.heap.size, 0, none⟩) 0 0, .slice a n c]).run Try.prog (w.alloc (.cells #[] 3)) = .ok v' w') ∧ w'.ownsRow w.heap.size 3 1 v' n (ints xs) ∧ Below w.heap.size w w' := by
  obtain ⟨i0', hi', hz0, hz1, hz2⟩ := infoI
  obtain ⟨v', w', h1, h2, h3⟩ := run_append_v (P := Try.prog) (w.alloc (.cells #[] 3)) w.heap.size 22 0 3 i0' _ 8 Try.underlying22 hi' hz0 hz1 hz2 rfl _ 0 _ (none_row10 w) a n c (ints xs) (by rw [ints_len, hx]) (ha.alloc _).vrow (fun u hu => by simp only [ints, List.mem_map] at hu; obtain ⟨_, _, rfl⟩ := hu; rfl) (by unfold maxLen; omega) (by omega) (by simp)
  rw [Nat.zero_add] at h2
  exact ⟨v', w', fun _ => h1, h2, ((Below.refl _ _).alloc (Nat.le_refl _) (.cells #[] 3)).trans (grown_under10 h3 (fun b e => by simp [Value.ownBlock] at e; omega) (by simp))⟩
theorem ARow2 (w : World) (x y : Int) (t : TypeId) : ARow (w.alloc (.cells #[.int .i64 x, .int .i64 y] t)) (some ⟨w.heap.size, 0, none⟩) [x, y] := by
  refine Or.inr ⟨w.heap.size, 0, rfl, by simp, fun i hi => ?_⟩
  have : i = 0 ∨ i = 1 := by simp at hi; omega
  rcases this with rfl | rfl <;> simp
theorem clone_any {b o n c : Nat} {xs : List Int} {w : World} (hx : xs.length = n) (hn : n ≤ 1000) (ha : ∀ i, i < xs.length → w.cell? ⟨b, o + i, none⟩ = some (.int .i64 (xs.getD i 0))) :
    Calls Try.prog 39 #[.slice (some ⟨b, o, none⟩) n c] w fun e w' => ∃ v, e = .returned v ∧ Below w.heap.size w w' ∧ w'.ownsRow w.heap.size 3 1 v n (ints xs) := by
  refine (Try.slices_Clone_int b o n c xs w (by rw [hx]; exact Nat.le_refl _) (by omega) ha).mono ?_
  rintro e w3 ⟨v, rfl, own3, _, hb3⟩
  rw [show (xs.take n).map (Value.int .i64) = ints xs by rw [← hx, List.take_length]; rfl] at own3
  exact ⟨v, rfl, hb3, own3⟩
theorem can_eq {xs : List Int} {n : Nat} {F T : Int} (hx : xs.length = n) : Mx.canB xs (F, T) = (Pf.allB [F, T] 0 ((n : Int) - 1) && ((xs.getD F.toNat 0 != 0) && (xs.getD T.toNat 0 == 0))) := by subst hx; rfl
set_option maxHeartbeats 2000000 in
theorem cm_any {a : Option Addr} {n c : Nat} {xs : List Int} {F T : Int} {w : World} (hx : xs.length = n) (hn : n ≤ 1000) (h1 : 1 ≤ n) (ha : ARow w a xs) :
    Calls Try.prog 40 #[.slice a n c, .agg #[.int .i64 F, .int .i64 T]] w fun e w' => e = .returned (.bool (Mx.canB xs (F, T))) ∧ Below w.heap.size w w' := by
  have HE := hide (can_eq (F := F) (T := T) hx)
  have bW1 := below_new w (.cells #[.int .i64 F, .int .i64 T] 30)
  have bW2 := below_new (w.alloc (.cells #[.int .i64 F, .int .i64 T] 30)) (.cells #[.int .i64 F, .int .i64 T] 3)
  have hb := bW1.trans (bW2.mono bW1.size)
  have hA2 := ha.below hb
  have hAR := ARow2 (w.alloc (.cells #[.int .i64 F, .int .i64 T] 30)) F T 3
  rw [World.size_alloc] at hAR
  have cm0 : ((w.alloc (.cells #[.int .i64 F, .int .i64 T] 30)).alloc (.cells #[.int .i64 F, .int .i64 T] 3)).cell? ⟨w.heap.size, 0, none⟩ = some (.int .i64 F) := by simp
  have cm1 : ((w.alloc (.cells #[.int .i64 F, .int .i64 T] 30)).alloc (.cells #[.int .i64 F, .int .i64 T] 3)).cell? ⟨w.heap.size, 1, none⟩ = some (.int .i64 T) := by simp
  have HB := hide hb
  have HAR := hide hAR
  have HA := hide hA2
  have HX := hide hx
  have HLN : Hid (([F, T] : List Int).length = 2) := hide rfl
  generalize Mx.canB xs (F, T) = R at *
  clear bW1 bW2 hb hA2 hAR ha hx
  cases hal : Pf.allB [F, T] 0 ((n : Int) - 1)
  · have HR : Hid (R = false) := hide (by rw [HE.out, hal]; rfl)
    have HK := hide hal
    clear hal
    go_enter Try.func40, Try.ntmps40
    go_wp2_with fail
    refine (areb_eqn HAR HLN (by omega) HK).mono ?_
    rintro e w2 ⟨rfl, hw2⟩
    subst hw2
    go_wp2_with fail
    go_ret
    exact ⟨ret_bool HR.out.symm, HB.out⟩
  · have bF := Pf.inB_yes (Pf.allB_get hal (show 0 < [F, T].length by simp))
    have bT := Pf.inB_yes (Pf.allB_get hal (show 1 < [F, T].length by simp))
    simp only [List.getD_cons_zero, List.getD_cons_succ] at bF bT
    obtain ⟨f, rfl⟩ := Int.eq_ofNat_of_zero_le bF.1
    obtain ⟨t, rfl⟩ := Int.eq_ofNat_of_zero_le bT.1
    have hf : f < n := by omega
    have ht : t < n := by omega
    have HR : Hid (R = ((xs.getD f 0 != 0) && (xs.getD t 0 == 0))) := hide (by rw [HE.out, hal]; simp)
    have HK := hide hal
    obtain ⟨b, off, rfl, r1⟩ := HA.out.at (i := f) (by rw [HX.out]; exact hf)
    obtain ⟨b', off', e2, r2⟩ := HA.out.at (i := t) (by rw [HX.out]; exact ht)
    cases e2
    generalize xs.getD f 0 = x at *
    generalize xs.getD t 0 = y at *
    have f0 : (0 : Int) ≤ (f : Int) := by omega
    have f1 : (f : Int) < (n : Int) := by omega
    have t0 : (0 : Int) ≤ (t : Int) := by omega
    have t1 : (t : Int) < (n : Int) := by omega
    clear hal bF bT HA HE
    go_enter Try.func40, Try.ntmps40
    go_wp2_with fail
    refine (areb_eqn HAR HLN (by omega) HK).mono ?_
    rintro e w2 ⟨rfl, hw2⟩
    subst hw2
    clear HAR HK
    generalize (w.alloc (.cells #[.int .i64 (f : Int), .int .i64 (t : Int)] 30)).alloc (.cells #[.int .i64 (f : Int), .int .i64 (t : Int)] 3) = W2 at *
    cases hxx : (x != 0)
    · have HR2 : Hid (R = false) := hide (by rw [HR.out, hxx]; rfl)
      go_wp2_with fail
      go_ret
      exact ⟨ret_bool HR2.out.symm, HB.out⟩
    · have HR2 : Hid (R = (y == 0)) := hide (by rw [HR.out, hxx]; rfl)
      cases hyy : (y == 0)
      · rw [hyy] at HR2
        go_wp2_with fail
        go_ret
        exact ⟨ret_bool HR2.out.symm, HB.out⟩
      · rw [hyy] at HR2
        go_wp2_with fail
        go_ret
        exact ⟨ret_bool HR2.out.symm, HB.out⟩
set_option maxHeartbeats 4000000 in
theorem mg_any {base g n c f t : Nat} {xs : List Int} {w : World} (hx : xs.length = n) (hf : f < n) (ht : t < n) (own : w.ownsRow base 3 1 (.slice (some ⟨g, 0, none⟩) n c) n (ints xs)) :
    Calls Try.prog 41 #[.slice (some ⟨g, 0, none⟩) n c, .agg #[.int .i64 (f : Int), .int .i64 (t : Int)]] w fun e w' => e = .returned (.tuple #[]) ∧ w'.ownsRow base 3 1 (.slice (some ⟨g, 0, none⟩) n c) n (ints (Mx.mv xs ((f : Int), (t : Int)))) ∧ w.grownBy w' (some g) := by
  have hg := (own.lt g rfl).2
  have own1 := own.alloc (.cells #[.int .i64 (f : Int), .int .i64 (t : Int)] 30)
  have gr1 := World.grownBy_alloc w (.cells #[.int .i64 (f : Int), .int .i64 (t : Int)] 30) (some g)
  have cm0 : (w.alloc (.cells #[.int .i64 (f : Int), .int .i64 (t : Int)] 30)).cell? ⟨w.heap.size, 0, none⟩ = some (.int .i64 (f : Int)) := by simp
  have cm1 : (w.alloc (.cells #[.int .i64 (f : Int), .int .i64 (t : Int)] 30)).cell? ⟨w.heap.size, 1, none⟩ = some (.int .i64 (t : Int)) := by simp
  obtain ⟨W1, hW1⟩ : ∃ W, W = w.alloc (.cells #[.int .i64 (f : Int), .int .i64 (t : Int)] 30) := ⟨_, rfl⟩
  rw [← hW1] at own1 gr1 cm0 cm1
  have HW1 := hide hW1.symm
  obtain ⟨BV, hBV⟩ : ∃ b, b = w.heap.size := ⟨_, rfl⟩
  have hgB : g ≠ BV := by omega
  rw [← hBV] at cm0 cm1
  have HBV := hide hBV.symm
  obtain ⟨x, hxx⟩ : ∃ x, x = xs.getD f 0 := ⟨_, rfl⟩
  have c1 : W1.cell? ⟨g, f, none⟩ = some (.int .i64 x) := by rw [own1.cellAt f (by omega), ints_get xs f (by omega), hxx]
  have fz1 := own1.frozenAt f
  obtain ⟨s1, s2⟩ := own1.stored f (.int .i64 0)
  rw [ints_set] at s1
  have c2 : (W1.setCell ⟨g, f, none⟩ (.int .i64 0)).cell? ⟨g, t, none⟩ = some (.int .i64 ((xs.set f 0).getD t 0)) := by rw [s1.cellAt t (by omega), ints_get _ t (by rw [List.length_set]; omega)]
  have c3 : W1.cell? ⟨g, t, none⟩ = some (.int .i64 (xs.getD t 0)) := by rw [own1.cellAt t (by omega), ints_get xs t (by omega)]
  have fz3 := own1.frozenAt t
  have fz2 := s1.frozenAt t
  obtain ⟨s3, s4⟩ := s1.stored t (.int .i64 x)
  rw [ints_set] at s3
  have HEND : Hid (∀ d : Nat, (((W1.setCell ⟨g, f, none⟩ (.int .i64 0)).setCell ⟨g, t, none⟩ (.int .i64 x)).drewN d).ownsRow base 3 1 (.slice (some ⟨g, 0, none⟩) n c) n (ints (Mx.mv xs ((f : Int), (t : Int)))) ∧ w.grownBy (((W1.setCell ⟨g, f, none⟩ (.int .i64 0)).setCell ⟨g, t, none⟩ (.int .i64 x)).drewN d) (some g)) := hide fun d => by
    have e : Mx.mv xs ((f : Int), (t : Int)) = (xs.set f 0).set t x := by unfold Mx.mv; simp [hxx]
    rw [e]
    refine ⟨s3, ?_⟩
    have h := grownF_set (o := t) (v := .int .i64 x) (grownF_set (o := f) (v := .int .i64 0) gr1)
    exact ⟨h.os, h.tape, h.output, h.size, h.block⟩
  generalize (xs.set f 0).getD t 0 = y2 at *
  generalize xs.getD t 0 = y3 at *
  have f0 : (0 : Int) ≤ (f : Int) := by omega
  have f1 : (f : Int) < (n : Int) := by omega
  have t0 : (0 : Int) ≤ (t : Int) := by omega
  have t1 : (t : Int) < (n : Int) := by omega
  clear own own1 gr1 hW1 hBV s1 s2 s3 s4 hg hxx hx
  go_enter Try.func41, Try.ntmps41
  go_upto_region 1 with fail
  rw [HW1.out, HBV.out]
  clear HW1 HBV
  go_region
  all_goals
    go_wp2_with fail
    go_end0
    exact ⟨rfl, HEND.out 1⟩
end Go.Proofs.Ytdigcbjkobjdmaa
