/-
  Ways: what farApart, wayTo, WayBetween, OnWay of the program and l11Way, WayBetween, OnWay of the model answer.
-/
import Derived.Test.YtkiadodoehcbmaaRb11
namespace Go.Proofs.Ytkiadodoehcbmaa
open Go.RowKit

set_option maxHeartbeats 400000 in
theorem fa_any {x y : Int} {w : World} (hx : 0 ≤ x ∧ x ≤ 1000) (hy : 0 ≤ y ∧ y ≤ 1000) :
    Calls Try.prog 50 #[.int .i64 x, .int .i64 y] w fun e w' => e = .returned (.int .i64 ((x - y).natAbs : Int)) ∧ w' = w := by
  obtain ⟨x0, x1⟩ := hx
  obtain ⟨y0, y1⟩ := hy
  have HE : Hid (max x y - min x y = ((x - y).natAbs : Int)) := hide (by omega)
  generalize ((x - y).natAbs : Int) = R at *
  go_enter Try.func50, Try.ntmps50
  go_wp2_with fail
  go_ret
  exact ⟨ret_int (by have := HE.out; omega), rfl⟩
theorem below_two (w : World) (o p : Obj) : Below w.heap.size w ((w.alloc o).alloc p) := ((Below.refl w.heap.size w).alloc (Nat.le_refl _) o).alloc (by simp) p
set_option maxHeartbeats 1000000 in
theorem wt_any {s t : Int × Int} {w : World} (hs : Rt.spotB s = true) (ht : Rt.spotB t = true) :
    Calls Try.prog 36 #[.agg #[.int .i64 s.1, .int .i64 s.2], .agg #[.int .i64 t.1, .int .i64 t.2]] w fun e w' => e = .returned (.int .i64 (Rt.way s t)) ∧ Below w.heap.size w w' := by
  obtain ⟨⟨x0, x1⟩, y0, y1⟩ := Rt.spot_yes hs
  obtain ⟨⟨u0, u1⟩, v0, v1⟩ := Rt.spot_yes ht
  have HE : Hid (Rt.way s t = if s.1 = t.1 then ((s.2 - t.2).natAbs : Int) else 3 * ((s.1 - t.1).natAbs : Int) + min (s.2 + t.2) (40 - (s.2 + t.2))) := hide rfl
  have HB := hide (below_two w (.cells #[.int .i64 s.1, .int .i64 s.2] 33) (.cells #[.int .i64 t.1, .int .i64 t.2] 33))
  generalize Rt.way s t = R at *
  obtain ⟨x, y⟩ := s
  obtain ⟨u, v⟩ := t
  clear hs ht
  by_cases he : x = u
  · subst he
    have HR : Hid (((y - v).natAbs : Int) = R) := hide (by rw [HE.out]; simp)
    go_enter Try.func36, Try.ntmps36
    go_wp2_with fail
    refine (fa_any (x := y) (y := v) (by simp at *; omega) (by simp at *; omega)).mono ?_
    rintro e w1 ⟨rfl, rfl⟩
    go_wp2_with fail
    go_ret
    exact ⟨ret_int HR.out, HB.out⟩
  · have HR : Hid (3 * ((x - u).natAbs : Int) + min (y + v) (40 - (y + v)) = R) := hide (by rw [HE.out]; simp [he])
    have hd : ((x - u).natAbs : Int) ≤ 9 := by simp at *; omega
    have HF := hide fun (W : World) => fa_any (x := x) (y := u) (w := W) (by simp at *; omega) (by simp at *; omega)
    generalize hD : ((x - u).natAbs : Int) = D at *
    have hd0 : 0 ≤ D := by omega
    clear HE
    simp only at x0 x1 y0 y1 u0 u1 v0 v1
    go_enter Try.func36, Try.ntmps36
    go_wp2_with fail
    refine (HF.out _).mono ?_
    rintro e w1 ⟨rfl, rfl⟩
    go_wp2_with fail
    go_ret
    exact ⟨ret_int (by have := HR.out; omega), HB.out⟩
set_option maxHeartbeats 1000000 in
theorem lw_any {s t : Int × Int} {w : World} (hs : Rt.spotB s = true) (ht : Rt.spotB t = true) :
    Calls Try.prog 35 #[.agg #[.int .i64 s.1, .int .i64 s.2], .agg #[.int .i64 t.1, .int .i64 t.2]] w fun e w' => e = .returned (.int .i64 (Rt.way s t)) ∧ Below w.heap.size w w' := by
  obtain ⟨⟨x0, x1⟩, y0, y1⟩ := Rt.spot_yes hs
  obtain ⟨⟨u0, u1⟩, v0, v1⟩ := Rt.spot_yes ht
  have HE : Hid (Rt.way s t = if s.1 = t.1 then ((s.2 - t.2).natAbs : Int) else 3 * ((s.1 - t.1).natAbs : Int) + min (s.2 + t.2) (40 - (s.2 + t.2))) := hide rfl
  have HB := hide (below_two w (.cells #[.int .i64 s.1, .int .i64 s.2] 33) (.cells #[.int .i64 t.1, .int .i64 t.2] 33))
  generalize Rt.way s t = R at *
  obtain ⟨x, y⟩ := s
  obtain ⟨u, v⟩ := t
  clear hs ht
  simp only at x0 x1 y0 y1 u0 u1 v0 v1
  by_cases he : x = u
  · subst he
    have HR : Hid (((y - v).natAbs : Int) = R) := hide (by rw [HE.out]; simp)
    have HF := hide fun (W : World) => abs_any (y - v) W (by omega) (by omega)
    generalize ((y - v).natAbs : Int) = D at *
    clear HE
    go_enter Try.func35, Try.ntmps35
    go_wp2_with fail
    refine (HF.out _).mono ?_
    rintro e w1 ⟨rfl, rfl⟩
    go_wp2_with fail
    go_ret
    exact ⟨ret_int HR.out, HB.out⟩
  · have HR : Hid (3 * ((x - u).natAbs : Int) + min (y + v) (40 - (y + v)) = R) := hide (by rw [HE.out]; simp [he])
    have hd : ((x - u).natAbs : Int) ≤ 9 := by omega
    have HF := hide fun (W : World) => abs_any (x - u) W (by omega) (by omega)
    generalize hD : ((x - u).natAbs : Int) = D at *
    have hd0 : 0 ≤ D := by omega
    clear HE
    by_cases hf : 40 - (y + v) < y + v
    all_goals
      go_enter Try.func35, Try.ntmps35
      go_wp2_with fail
      refine (HF.out _).mono ?_
      rintro e w1 ⟨rfl, rfl⟩
      go_wp2_with fail
      go_ret
      exact ⟨ret_int (by have := HR.out; omega), HB.out⟩
end Go.Proofs.Ytkiadodoehcbmaa
