/-
  What GainsOf of the program answers.
-/
import Derived.Test.YtdlpbemjbmgbeaaCi
namespace Go.Proofs.Ytdlpbemjbmgbeaa
open Go.RowKit

theorem two_row (W : World) (x y : Int) : ARow (W.alloc (.cells #[.int .i64 x, .int .i64 y] 3)) (some ⟨W.heap.size, 0, none⟩) [x, y] := by
  refine Or.inr ⟨W.heap.size, 0, rfl, by simp, fun i hi => ?_⟩
  match i, hi with
  | 0, _ => simp [go_sem]
  | 1, _ => simp [go_sem]
theorem gainsB_eq (p f s c : Int) : Of.gainsB p f s c = (Pf.allB [p, f] 0 100 && Pf.allB [s, c] 0 10) := by
  simp [Of.gainsB, Pf.allB, Bool.and_assoc]
theorem gainAt_eq (p f s c : Int) (i : Nat) : s * p - (c * f + ((i : Int) + 1) - 1) / ((i : Int) + 1) = Of.gainAt p f s c i := by
  unfold Of.gainAt
  rw [show c * f + ((i : Int) + 1) - 1 = c * f + i by omega]
set_option maxRecDepth 100000 in
set_option maxHeartbeats 400000 in
theorem dv_any {Y by' : Int} {w : World} (h0 : 0 ≤ Y) (h1 : Y ≤ 1000) (b0 : 1 ≤ by') (b1 : by' ≤ 6) :
    Calls Try.prog 45 #[.int .i64 Y, .int .i64 by'] w fun e w' => e = .returned (.int .i64 ((Y + by' - 1) / by')) ∧ w' = w := by
  have hz : (by' == 0) = false := by simp; omega
  go_enter Try.func45, Try.ntmps45
  go_wp2_with fail
  go_ret
  exact ⟨rfl, rfl⟩

theorem areb_two {W : World} {x y lo hi : Int} {b : Bool} {g : Nat} (hg : W.heap.size = g) (h : Pf.allB [x, y] lo hi = b) :
    Calls Try.prog 44 #[.slice (some ⟨g, 0, none⟩) 2 2, .int .i64 lo, .int .i64 hi] (W.alloc (.cells #[.int .i64 x, .int .i64 y] 3)) fun e w' => e = .returned (.bool b) ∧ w' = W.alloc (.cells #[.int .i64 x, .int .i64 y] 3) := by
  subst hg
  exact h ▸ areb_any (xs := [x, y]) (two_row W x y) (by simp)
set_option maxRecDepth 100000 in
set_option maxHeartbeats 200000 in
theorem ga_no {p f s c : Int} {w : World} (h : Of.gainsB p f s c = false) :
    Calls Try.prog 18 #[.int .i64 p, .int .i64 f, .int .i64 s, .int .i64 c] w fun e w' => e = .returned (.tuple #[.agg #[.slice none 0 0], .bool false]) ∧ Below w.heap.size w w' := by
  rw [gainsB_eq] at h
  cases h1 : Pf.allB [p, f] 0 100
  · clear h
    go_enter Try.func18, Try.ntmps18
    go_wp2_with ((go_at_call 44; refine (areb_two (by simp) h1).mono ?_; rintro e w1 ⟨rfl, rfl⟩))
    refine bodyPost_ret (v := .tuple #[.agg #[.slice none 0 0], .bool false]) (by simp [results, Try.results18, go_sem]) rfl ⟨rfl, ?_⟩
    exact ((Below.refl _ _).alloc (Nat.le_refl _) _).alloc (by simp) _
  · have h2 : Pf.allB [s, c] 0 10 = false := by rw [h1] at h; exact h
    clear h
    go_enter Try.func18, Try.ntmps18
    go_wp2_with fail
    refine (areb_two (by simp) h1).mono ?_
    rintro e w1 ⟨rfl, rfl⟩
    go_wp2_with fail
    refine (areb_two (by simp) h2).mono ?_
    rintro e w1 ⟨rfl, rfl⟩
    go_wp2_with fail
    refine bodyPost_ret (v := .tuple #[.agg #[.slice none 0 0], .bool false]) (by simp [results, Try.results18, go_sem]) rfl ⟨rfl, ?_⟩
    exact (((Below.refl _ _).alloc (Nat.le_refl _) _).alloc (by simp) _).alloc (by simp; omega) _
set_option maxRecDepth 100000 in
set_option maxHeartbeats 400000 in
theorem ga_yes {p f s c : Int} {w : World} (h : Of.gainsB p f s c = true) :
    Calls Try.prog 18 #[.int .i64 p, .int .i64 f, .int .i64 s, .int .i64 c] w fun e w' => ∃ g, e = .returned (.tuple #[.agg #[.slice (some ⟨g, 0, none⟩) 6 6], .bool true]) ∧ w'.ownsRow w.heap.size 3 1 (.slice (some ⟨g, 0, none⟩) 6 6) 6 (ints (Of.gainsL p f s c)) ∧ Below w.heap.size w w' := by
  have HOF := hide (Of.gainsL_off h)
  have HGL := hide (Of.gainsL_len p f s c)
  have HGB := hide fun (i : Nat) (hi : i < 6) => Of.gainAt_bd h hi
  obtain ⟨⟨p0, p1⟩, ⟨f0, f1⟩, ⟨s0, s1⟩, c0, c1⟩ := Of.gainsB_yes h
  obtain ⟨x0, x1⟩ := Of.mul_bd' s0 s1 p0 p1
  obtain ⟨y0, y1⟩ := Of.mul_bd' c0 c1 f0 f1
  rw [gainsB_eq, Bool.and_eq_true] at h
  obtain ⟨h1, h2⟩ := h
  obtain ⟨X, hX⟩ : ∃ X, X = s * p := ⟨_, rfl⟩
  obtain ⟨Y, hY⟩ : ∃ Y, Y = c * f := ⟨_, rfl⟩
  have HAT : Hid (∀ i : Nat, i < 6 → (Of.gainsL p f s c).getD i 0 = X - (Y + ((i : Int) + 1) - 1) / ((i : Int) + 1)) := hide fun i hi => by rw [hX, hY, gainAt_eq, Of.gainsL_at p f s c hi]
  rw [← hX] at x0 x1
  rw [← hY] at y0 y1
  have m1 : wrap64 (s * p) = X := by rw [← hX]; exact wrap_id' _ (by omega) (by omega)
  have m2 : wrap64 (c * f) = Y := by rw [← hY]; exact wrap_id' _ (by omega) (by omega)
  have hmk : ∀ w : World, (Instr.makeSlice 26 (.int .i64 6) (.int .i64 6)).run Try.prog w = .ok (.slice (some ⟨w.heap.size, 0, none⟩) 6 6) (w.alloc (.cells (madeCells #[.int .i64 0] 6) 3)) := fun w => makeI_run 6 (by omega) w
  have HB0 : Hid (Below w.heap.size w ((((w.alloc (.cells #[.slice none 0 0] 36)).alloc (.cells #[.int .i64 p, .int .i64 f] 3)).alloc (.cells #[.int .i64 s, .int .i64 c] 3)).alloc (.cells (madeCells #[.int .i64 0] 6) 3))) := hide (((((Below.refl _ _).alloc (Nat.le_refl _) _).alloc (by simp) _).alloc (by simp; omega) _).alloc (by simp; omega) _)
  have HM0 : Hid (((((w.alloc (.cells #[.slice none 0 0] 36)).alloc (.cells #[.int .i64 p, .int .i64 f] 3)).alloc (.cells #[.int .i64 s, .int .i64 c] 3)).alloc (.cells (madeCells #[.int .i64 0] 6) 3)).ownsRow (w.heap.size + 1 + 1 + 1) 3 1 (.slice (some ⟨w.heap.size + 1 + 1 + 1, 0, none⟩) 6 6) 6 (ints (List.replicate 6 0))) := hide (by
    have := made_own (((w.alloc (.cells #[.slice none 0 0] 36)).alloc (.cells #[.int .i64 p, .int .i64 f] 3)).alloc (.cells #[.int .i64 s, .int .i64 c] 3)) 6 (by omega)
    simp only [World.size_alloc] at this
    exact this)
  have HV0 : Hid (((((w.alloc (.cells #[.slice none 0 0] 36)).alloc (.cells #[.int .i64 p, .int .i64 f] 3)).alloc (.cells #[.int .i64 s, .int .i64 c] 3)).alloc (.cells (madeCells #[.int .i64 0] 6) 3)).cell? ⟨w.heap.size, 0, none⟩ = some (.slice none 0 0) ∧ ((((w.alloc (.cells #[.slice none 0 0] 36)).alloc (.cells #[.int .i64 p, .int .i64 f] 3)).alloc (.cells #[.int .i64 s, .int .i64 c] 3)).alloc (.cells (madeCells #[.int .i64 0] 6) 3)).frozen? ⟨w.heap.size, 0, none⟩ = false) := hide ⟨by simp [go_sem], by simp [go_sem]⟩
  clear hX hY
  go_enter Try.func18, Try.ntmps18
  go_wp2_with fail
  refine (areb_two (by simp) h1).mono ?_
  rintro e w1 ⟨rfl, rfl⟩
  go_wp2_with fail
  refine (areb_two (by simp) h2).mono ?_
  rintro e w1 ⟨rfl, rfl⟩
  go_wp2_with fail
  go_loopw [11, 29] (fun _ t wr => ∃ k : Nat, t = .int .i64 k ∧ k ≤ 6 ∧ Hid (wr.ownsRow (w.heap.size + 1 + 1 + 1) 3 1 (.slice (some ⟨w.heap.size + 1 + 1 + 1, 0, none⟩) 6 6) 6 (ints (mix (Of.gainsL p f s c) (List.replicate 6 0) k))) ∧ Hid (Below w.heap.size w wr) ∧ Hid (wr.cell? ⟨w.heap.size, 0, none⟩ = some (.slice none 0 0) ∧ wr.frozen? ⟨w.heap.size, 0, none⟩ = false)) (fun _ t _ => 6 - (intOf t).toNat)
  case atStart => exact ⟨0, rfl, Nat.zero_le _, hide (by rw [mix_zero]; exact HM0.out), HB0, HV0⟩
  case round =>
    obtain ⟨k, rfl, hk, HO, HB, HV⟩ := hrel
    clear HM0 HB0 HV0
    by_cases hlt : k < 6
    · have i0' : (0 : Int) ≤ (k : Int) := by omega
      have i1' : (k : Int) < 6 := by omega
      have e1 := HAT.out k hlt
      have hb := HGB.out k hlt
      rw [← Of.gainsL_at p f s c hlt, e1] at hb
      obtain ⟨st1, st2⟩ := HO.out.stored k (.int .i64 (X - (Y + ((k : Int) + 1) - 1) / ((k : Int) + 1)))
      rw [ints_set, ← e1, mix_set, e1] at st1
      have HST := hide st1
      have HV2 : Hid ((wr.setCell ⟨w.heap.size + 1 + 1 + 1, k, none⟩ (.int .i64 (X - (Y + ((k : Int) + 1) - 1) / ((k : Int) + 1)))).cell? ⟨w.heap.size, 0, none⟩ = some (.slice none 0 0) ∧ (wr.setCell ⟨w.heap.size + 1 + 1 + 1, k, none⟩ (.int .i64 (X - (Y + ((k : Int) + 1) - 1) / ((k : Int) + 1)))).frozen? ⟨w.heap.size, 0, none⟩ = false) := hide ⟨(World.cell?_setCell_other _ _ _ _ (by simp)).trans HV.out.1, (World.frozen?_setCell ..).trans HV.out.2⟩
      have c0 : wr.cell? ⟨w.heap.size + 1 + 1 + 1, k, none⟩ = some (.int .i64 ((mix (Of.gainsL p f s c) (List.replicate 6 0) k).getD k 0)) := by
        rw [HO.out.cellAt k (by omega), ints_get _ k (by rw [mix_len]; simpa using hlt)]
      have f0 := HO.out.frozenAt k
      have hdv := hide (dv_any (w := wr) (by' := (k : Int) + 1) y0 (by omega) (by omega) (by omega))
      generalize (Y + ((k : Int) + 1) - 1) / ((k : Int) + 1) = D at *
      generalize (mix (Of.gainsL p f s c) (List.replicate 6 0) k).getD k 0 = x00 at *
      obtain ⟨b0, b1⟩ := hb
      clear st1 st2 e1
      go_wp2_with ((go_at_call 45; refine hdv.out.mono ?_; rintro e w1 ⟨rfl, rfl⟩))
      go_roundw
      case rel => exact ⟨k + 1, by go_num, by omega, HST, hide (HB.out.setCell (by show w.heap.size ≤ w.heap.size + 1 + 1 + 1; omega) _), HV2⟩
      case measure => simp only [intOf]; omega
    · have hke : k = 6 := by omega
      have HE := HO.out
      rw [hke, mix_all (by rw [HGL.out]; simp) (by simp)] at HE
      have HOE := hide HE
      have hK := (HE.lt _ rfl).2
      have HC := hide fun (x : Obj) => isOff_any (c := 6) (n := 6) HGL.out ((arow_owns HGL.out.symm HE).alloc x)
      rw [HOF.out] at HC
      clear HE hke hmk
      go_wp2_with fail
      refine (HC.out _).mono ?_
      rintro e w5 ⟨rfl, hb5⟩
      simp only [World.size_alloc] at hb5
      have q0 : w5.cell? ⟨w.heap.size, 0, none⟩ = some (.slice none 0 0) := (hb5.cell (p := ⟨w.heap.size, 0, none⟩) (by show w.heap.size < _; omega)).trans (((o_below_new wr _).cell (p := ⟨w.heap.size, 0, none⟩) (by show w.heap.size < _; omega)).trans HV.out.1)
      have q1 : w5.frozen? ⟨w.heap.size, 0, none⟩ = false := (hb5.frozen (p := ⟨w.heap.size, 0, none⟩) (by show w.heap.size < _; omega)).trans (((o_below_new wr _).frozen (p := ⟨w.heap.size, 0, none⟩) (by show w.heap.size < _; omega)).trans HV.out.2)
      have q2 : w5.cell? ⟨wr.heap.size, 0, none⟩ = some (.slice (some ⟨w.heap.size + 1 + 1 + 1, 0, none⟩) 6 6) := (hb5.cell (p := ⟨wr.heap.size, 0, none⟩) (by show wr.heap.size < _; omega)).trans (by simp [go_sem])
      have HB5 : Hid (Below w.heap.size w w5) := hide (HB.out.trans (((o_below_new wr (.cells #[.slice (some ⟨w.heap.size + 1 + 1 + 1, 0, none⟩) 6 6] 36)).trans (hb5.mono (by omega))).mono HB.out.size))
      have HO5 : Hid (w5.ownsRow w.heap.size 3 1 (.slice (some ⟨w.heap.size + 1 + 1 + 1, 0, none⟩) 6 6) 6 (ints (Of.gainsL p f s c))) := hide (owns_low (o_own (o_own HOE.out (o_below_new _ _)) (by rw [World.size_alloc]; exact hb5)) (by omega))
      go_wp2_with fail
      refine bodyPost_ret (v := .tuple #[.agg #[.slice (some ⟨w.heap.size + 1 + 1 + 1, 0, none⟩) 6 6], .bool true]) (by simp [results, Try.results18, go_sem, q0]) rfl ⟨w.heap.size + 1 + 1 + 1, rfl, ?_, ?_⟩
      · exact owns_keep HO5.out (Below.heap_setCell _ _ _ _ (by simp; omega))
      · exact HB5.out.setCell (by show w.heap.size ≤ w.heap.size; omega) _
end Go.Proofs.Ytdlpbemjbmgbeaa
