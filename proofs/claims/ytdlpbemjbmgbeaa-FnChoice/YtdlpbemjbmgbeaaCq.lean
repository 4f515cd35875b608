/-
  What GainsOf of the model answers.
-/
import Derived.Test.YtdlpbemjbmgbeaaCp
import Derived.Deep.RegionLaw
import Derived.Deep.AppendLies
namespace Go.Proofs.Ytdlpbemjbmgbeaa
open Go.RowKit

theorem far_cell {wr w1 : World} {o : Obj} {base k b i : Nat} {v u : Value} {xs : List Value} (h : wr.ownsRow base 3 1 v k xs) (hg : (wr.alloc o).drew.grownBy w1 v.ownBlock) (hb : b < base) (hz : base ≤ wr.heap.size) (hf : wr.cell? ⟨b, i, none⟩ = some u) : w1.cell? ⟨b, i, none⟩ = some u :=
  (hg.cell_far ⟨b, i, none⟩ (by show b < (wr.alloc o).heap.size; simp; omega) (fun he => by have := h.lt b he.symm; omega)).trans ((World.cell?_of_block (w := wr) (a := ⟨b, i, none⟩) (((Below.refl _ _).alloc (Nat.le_refl _) o).block b (by omega))).trans hf)
theorem far_frozen {wr w1 : World} {o : Obj} {base k b i : Nat} {v : Value} {xs : List Value} (h : wr.ownsRow base 3 1 v k xs) (hg : (wr.alloc o).drew.grownBy w1 v.ownBlock) (hb : b < base) (hz : base ≤ wr.heap.size) (hf : wr.frozen? ⟨b, i, none⟩ = false) : w1.frozen? ⟨b, i, none⟩ = false :=
  (hg.frozen_far ⟨b, i, none⟩ (by show b < (wr.alloc o).heap.size; simp; omega) (fun he => by have := h.lt b he.symm; omega)).trans ((World.frozen?_of_block (w := wr) (a := ⟨b, i, none⟩) (((Below.refl _ _).alloc (Nat.le_refl _) o).block b (by omega))).trans hf)
/-- The offer that is being made, and the answer's variable. -/
structure GS (w wr : World) (V k : Nat) (v : Value) (gl : List Int) : Prop where
  c1 : wr.cell? ⟨V + 1, 0, none⟩ = some v
  f1 : wr.frozen? ⟨V + 1, 0, none⟩ = false
  own : wr.ownsRow (V + 2) 3 1 v k (ints (gl.take k))
  size : V + 2 ≤ wr.heap.size
  c0 : wr.cell? ⟨V, 0, none⟩ = some (.slice none 0 0)
  f0 : wr.frozen? ⟨V, 0, none⟩ = false
  bel : Below V w wr
theorem GS.step {w wr w1 : World} {V k gg cap : Nat} {v : Value} {gl : List Int} {x : Int} {o : Obj} (h : GS w wr V k v gl) (hg : (wr.alloc o).drew.grownBy w1 v.ownBlock) (hk : k < gl.length) (hx : gl.getD k 0 = x)
    (hown : w1.ownsRow (V + 2) 3 1 (.slice (some ⟨gg, 0, none⟩) (k + 1) cap) (k + 1) (ints (gl.take k) ++ ints [x])) : GS w (w1.setCell ⟨V + 1, 0, none⟩ (.slice (some ⟨gg, 0, none⟩) (k + 1) cap)) V (k + 1) (.slice (some ⟨gg, 0, none⟩) (k + 1) cap) gl := by
  have hs := hg.size
  have hz := h.size
  have e : gl.take (k + 1) = gl.take k ++ [x] := by rw [List.take_add_one, List.getElem?_eq_getElem hk, ← hx, Pf.getD_lt _ _ hk]; rfl
  have hs' : (wr.alloc o).drew.heap.size = wr.heap.size + 1 := by simp
  refine ⟨World.cell?_setCell_same _ _ _ (far_cell h.own hg (by omega) hz h.c1), (World.frozen?_setCell ..).trans (far_frozen h.own hg (by omega) hz h.f1), ?_, by simp; omega, (World.cell?_setCell_other _ _ _ _ (by simp)).trans (far_cell h.own hg (by omega) hz h.c0), (World.frozen?_setCell ..).trans (far_frozen h.own hg (by omega) hz h.f0), ?_⟩
  · rw [e]
    have : ints (gl.take k ++ [x]) = ints (gl.take k) ++ ints [x] := by simp [ints]
    rw [this]
    exact ownsRow_setCell_below hown (by show V + 1 < V + 2; omega) _
  · refine (h.bel.trans ((((Below.refl V wr).alloc (by omega) o).drew).trans ⟨hg.os, hg.tape, hg.output, hg.size, fun b hb => hg.block b (by omega) fun e => ?_⟩)).setCell (by show V ≤ V + 1; omega) _
    have := (h.own.lt b e.symm).1
    omega
theorem one_row {W : World} {g c : Nat} {xs : List Int} (a : Option Addr) (hg : W.heap.size = g) (h : ARow W a xs) : ORow (W.alloc (.cells #[.slice a xs.length c] 36)) (some ⟨g, 0, none⟩) [xs] := by
  subst hg
  refine Or.inr ⟨W.heap.size, 0, rfl, by simp, fun i hi => ?_⟩
  match i, hi with
  | 0, _ => exact ⟨a, c, by simp [go_sem], h.alloc _⟩
theorem offersB_one {o : List Int} (h : Of.offB o = true) : Of.offersB [o] = true := Of.offersB_of (by simp) fun i hi => by
  match i, hi with
  | 0, _ => exact h

set_option maxRecDepth 100000 in
set_option maxHeartbeats 1000000 in
theorem sga_no {p f s c : Int} {w : World} (h : Of.gainsB p f s c = false) :
    Calls Try.prog 19 #[.int .i64 p, .int .i64 f, .int .i64 s, .int .i64 c] w fun e w' => e = .returned (.tuple #[.agg #[.slice none 0 0], .bool false]) ∧ Below w.heap.size w w' := by
  unfold Of.gainsB at h
  cases h1 : Pf.inB p 0 100
  · clear h
    go_enter Try.func19, Try.ntmps19
    go_wp2_with fail
    refine (in_eq h1).mono ?_
    rintro e w1 ⟨rfl, rfl⟩
    go_wp2_with fail
    refine bodyPost_ret (v := .tuple #[.agg #[.slice none 0 0], .bool false]) (by simp [results, Try.results19, go_sem]) rfl ⟨rfl, ?_⟩
    exact (Below.refl _ _).alloc (Nat.le_refl _) _
  · cases h2 : Pf.inB f 0 100
    · clear h
      go_enter Try.func19, Try.ntmps19
      go_wp2_with fail
      refine (in_eq h1).mono ?_
      rintro e w1 ⟨rfl, rfl⟩
      go_wp2_with fail
      refine (in_eq h2).mono ?_
      rintro e w1 ⟨rfl, rfl⟩
      go_wp2_with fail
      refine bodyPost_ret (v := .tuple #[.agg #[.slice none 0 0], .bool false]) (by simp [results, Try.results19, go_sem]) rfl ⟨rfl, ?_⟩
      exact (Below.refl _ _).alloc (Nat.le_refl _) _
    · cases h3 : Pf.inB s 0 10
      · clear h
        go_enter Try.func19, Try.ntmps19
        go_wp2_with fail
        refine (in_eq h1).mono ?_
        rintro e w1 ⟨rfl, rfl⟩
        go_wp2_with fail
        refine (in_eq h2).mono ?_
        rintro e w1 ⟨rfl, rfl⟩
        go_wp2_with fail
        refine (in_eq h3).mono ?_
        rintro e w1 ⟨rfl, rfl⟩
        go_wp2_with fail
        refine bodyPost_ret (v := .tuple #[.agg #[.slice none 0 0], .bool false]) (by simp [results, Try.results19, go_sem]) rfl ⟨rfl, ?_⟩
        exact (Below.refl _ _).alloc (Nat.le_refl _) _
      · have h4 : Pf.inB c 0 10 = false := by rw [h1, h2, h3] at h; exact h
        clear h
        go_enter Try.func19, Try.ntmps19
        go_wp2_with fail
        refine (in_eq h1).mono ?_
        rintro e w1 ⟨rfl, rfl⟩
        go_wp2_with fail
        refine (in_eq h2).mono ?_
        rintro e w1 ⟨rfl, rfl⟩
        go_wp2_with fail
        refine (in_eq h3).mono ?_
        rintro e w1 ⟨rfl, rfl⟩
        go_wp2_with fail
        refine (in_eq h4).mono ?_
        rintro e w1 ⟨rfl, rfl⟩
        go_wp2_with fail
        refine bodyPost_ret (v := .tuple #[.agg #[.slice none 0 0], .bool false]) (by simp [results, Try.results19, go_sem]) rfl ⟨rfl, ?_⟩
        exact (Below.refl _ _).alloc (Nat.le_refl _) _
set_option maxRecDepth 100000 in
set_option maxHeartbeats 4000000 in
theorem sga_yes {p f s c : Int} {w : World} (h : Of.gainsB p f s c = true) :
    Calls Try.prog 19 #[.int .i64 p, .int .i64 f, .int .i64 s, .int .i64 c] w fun e w' => ∃ g cap, e = .returned (.tuple #[.agg #[.slice (some ⟨g, 0, none⟩) 6 cap], .bool true]) ∧ w'.ownsRow w.heap.size 3 1 (.slice (some ⟨g, 0, none⟩) 6 cap) 6 (ints (Of.gainsL p f s c)) ∧ Below w.heap.size w w' := by
  obtain ⟨i0, hi, hz0, hz1, hz2⟩ := infoI
  have HOF := hide (Of.gainsL_off h)
  have HGL := hide (Of.gainsL_len p f s c)
  have HGB := hide fun (i : Nat) (hi : i < 6) => Of.gainAt_bd h hi
  obtain ⟨⟨p0, p1⟩, ⟨f0, f1⟩, ⟨s0, s1⟩, c0, c1⟩ := Of.gainsB_yes h
  obtain ⟨x0, x1⟩ := Of.mul_bd' s0 s1 p0 p1
  obtain ⟨y0, y1⟩ := Of.mul_bd' c0 c1 f0 f1
  have h1 := Pf.inB_of p0 p1
  have h2 := Pf.inB_of f0 f1
  have h3 := Pf.inB_of s0 s1
  have h4 := Pf.inB_of c0 c1
  obtain ⟨X, hX⟩ : ∃ X, X = s * p := ⟨_, rfl⟩
  obtain ⟨Y, hY⟩ : ∃ Y, Y = c * f := ⟨_, rfl⟩
  have HAT : Hid (∀ i : Nat, i < 6 → (Of.gainsL p f s c).getD i 0 = X - (Y + ((i : Int) + 1) - 1) / ((i : Int) + 1)) := hide fun i hi => by rw [hX, hY, gainAt_eq, Of.gainsL_at p f s c hi]
  rw [← hX] at x0 x1
  rw [← hY] at y0 y1
  have m1 : IntKind.i64.wrap (s * p) = X := by rw [← hX, IntKind.wrap_i64]; omega
  have m2 : IntKind.i64.wrap (c * f) = Y := by rw [← hY, IntKind.wrap_i64]; omega
  have HS0 : Hid (GS w ((w.alloc (.cells #[.slice none 0 0] 36)).alloc (.cells #[.slice none 0 0] 36)) w.heap.size 0 (.slice none 0 0) (Of.gainsL p f s c)) := hide ⟨by simp [go_sem], by simp [go_sem], World.ownsRow_nil _ _ _ _, by simp, by simp [go_sem], by simp [go_sem], ((Below.refl _ _).alloc (Nat.le_refl _) _).alloc (by simp) _⟩
  clear hX hY h
  go_enter Try.func19, Try.ntmps19
  go_wp2_with fail
  refine (in_eq h1).mono ?_
  rintro e w1 ⟨rfl, rfl⟩
  go_wp2_with fail
  refine (in_eq h2).mono ?_
  rintro e w1 ⟨rfl, rfl⟩
  go_wp2_with fail
  refine (in_eq h3).mono ?_
  rintro e w1 ⟨rfl, rfl⟩
  go_wp2_with fail
  refine (in_eq h4).mono ?_
  rintro e w1 ⟨rfl, rfl⟩
  go_wp2_with fail
  go_loopw [11] (fun t wr => ∃ (k : Nat) (v : Value), t = .int .i64 ((k : Int) + 1) ∧ k ≤ 6 ∧ Hid (GS w wr w.heap.size k v (Of.gainsL p f s c))) (fun t _ => 7 - (intOf t).toNat)
  case atStart => exact ⟨0, _, rfl, Nat.zero_le _, HS0⟩
  case round =>
    obtain ⟨k, v, rfl, hk, HS⟩ := hrel
    clear HS0
    have c1' := HS.out.c1
    by_cases hlt : k < 6
    · have i1' : (k : Int) + 1 ≤ 6 := by omega
      have e1 := HAT.out k hlt
      have hb := HGB.out k hlt
      rw [← Of.gainsL_at p f s c hlt, e1] at hb
      have HE := hide e1
      have u1 : IntKind.i64.wrap (Y + ((k : Int) + 1)) = Y + ((k : Int) + 1) := by rw [IntKind.wrap_i64]; omega
      have u2 : IntKind.i64.wrap (Y + ((k : Int) + 1) - 1) = Y + ((k : Int) + 1) - 1 := by rw [IntKind.wrap_i64]; omega
      have u3 : ((k : Int) + 1 == 0) = false := by simp; omega
      have hf1 := HS.out.f1
      have hown := HS.out.own
      have hzr := HS.out.size
      obtain ⟨D, hD⟩ : ∃ D, D = (Y + ((k : Int) + 1) - 1) / ((k : Int) + 1) := ⟨_, rfl⟩
      rw [← hD] at hb HE
      obtain ⟨b0, b1⟩ := hb
      have hD0 : -3000 ≤ D ∧ D ≤ 3000 := by omega
      have u7 : ¬ (k : Int) + 1 = 0 := by omega
      have u4 : Int.tdiv (Y + ((k : Int) + 1) - 1) ((k : Int) + 1) = D := by rw [hD]; exact Int.tdiv_eq_ediv_of_nonneg (by omega)
      have u5 : IntKind.i64.wrap D = D := by rw [IntKind.wrap_i64]; omega
      have u6 : IntKind.i64.wrap (X - D) = X - D := by rw [IntKind.wrap_i64]; omega
      have nV : ¬ w.heap.size + 1 = wr.heap.size := by omega
      have nV' : w.heap.size + 1 ≠ wr.heap.size := by omega
      have ca : ∀ o : Obj, (wr.alloc o).cell? ⟨w.heap.size + 1, 0, none⟩ = some v := fun o => ((o_below_new wr o).cell (p := ⟨w.heap.size + 1, 0, none⟩) (show w.heap.size + 1 < wr.heap.size by omega)).trans c1'
      clear hD e1
      go_wp2_with fail
      go_region_law ((refine step_append_lies _ (by rfl) _ _ _ (by rfl) (w.heap.size + 2) 3 i0 _ 1 8 Try.underlying26 hi hz0 hz1 hz2 rfl (by omega) v k (ints ((Of.gainsL p f s c).take k)) (by rfl) ((hown.alloc _).drew) ⟨wr.heap.size, 0, none⟩ 1 1 (ints [X - D]) (by rfl) (by rfl) (World.news_of_block (cs := #[.int .i64 (X - D)]) (t := 3) (fr := (0, 0)) (heap_alloc_new wr _)) (c_ints _) (by omega) (by unfold maxLen; omega) (by omega) (by simp; omega) (wr.heap.size + 1) (by simp) ?_; intro gg cap w1 hown1 hgrow hat hlt'; have F0' := far_frozen hown hgrow (show w.heap.size + 1 < w.heap.size + 2 by omega) hzr hf1; have C0' := far_cell hown hgrow (show w.heap.size + 1 < w.heap.size + 2 by omega) hzr c1'))
      all_goals
        go_wp2_with fail
        exact ⟨⟨k + 1, _, by go_num, by omega, hide (HS.out.step hgrow (by rw [HGL.out]; exact hlt) HE.out hown1)⟩, by simp only [intOf]; omega⟩
    · have hke : k = 6 := by omega
      subst hke
      have hown := HS.out.own
      rw [List.take_of_length_le (by rw [HGL.out]; exact Nat.le_refl _)] at hown
      obtain ⟨g, cap, rfl, _, hgl⟩ := hown.form (by omega)
      have HR := hide (arow_owns HGL.out.symm hown)
      have HOW := hide hown
      have hf1 := HS.out.f1
      have hzr := HS.out.size
      have HB := hide HS.out.bel
      have q00 := HS.out.c0
      have q01 := HS.out.f0
      have HOR := hide (one_row (c := cap) (xs := Of.gainsL p f s c) _ rfl HR.out)
      rw [HGL.out] at HOR
      have HC := hide (sgof_any (c := 1) (n := 1) rfl (by omega) HOR.out)
      rw [offersB_one HOF.out] at HC
      clear hown
      go_wp2_with fail
      refine HC.out.mono ?_
      rintro e w5 ⟨rfl, hb5⟩
      simp only [World.size_alloc] at hb5
      have q0 : w5.cell? ⟨w.heap.size, 0, none⟩ = some (.slice none 0 0) := (hb5.cell (p := ⟨w.heap.size, 0, none⟩) (by show w.heap.size < _; omega)).trans (((o_below_new wr _).cell (p := ⟨w.heap.size, 0, none⟩) (by show w.heap.size < _; omega)).trans q00)
      have q1 : w5.frozen? ⟨w.heap.size, 0, none⟩ = false := (hb5.frozen (p := ⟨w.heap.size, 0, none⟩) (by show w.heap.size < _; omega)).trans (((o_below_new wr _).frozen (p := ⟨w.heap.size, 0, none⟩) (by show w.heap.size < _; omega)).trans q01)
      have q2 : w5.cell? ⟨w.heap.size + 1, 0, none⟩ = some (.slice (some ⟨g, 0, none⟩) 6 cap) := (hb5.cell (p := ⟨w.heap.size + 1, 0, none⟩) (by show w.heap.size + 1 < _; omega)).trans (((o_below_new wr _).cell (p := ⟨w.heap.size + 1, 0, none⟩) (by show w.heap.size + 1 < _; omega)).trans c1')
      have HB5 : Hid (Below w.heap.size w w5) := hide (HB.out.trans (((o_below_new wr (.cells #[.slice (some ⟨g, 0, none⟩) 6 cap] 36)).trans (hb5.mono (by omega))).mono (by omega)))
      have HR5 : Hid ((w5.setCell ⟨w.heap.size, 0, none⟩ (.slice (some ⟨g, 0, none⟩) 6 cap)).ownsRow w.heap.size 3 1 (.slice (some ⟨g, 0, none⟩) 6 cap) 6 (ints (Of.gainsL p f s c))) := hide (owns_low (ownsRow_setCell_below (o_own (o_own HOW.out (o_below_new wr (.cells #[.slice (some ⟨g, 0, none⟩) 6 cap] 36))) (by rw [World.size_alloc]; exact hb5)) (by show w.heap.size < w.heap.size + 2; omega) _) (by omega))
      go_wp2_with fail
      refine bodyPost_ret (v := .tuple #[.agg #[.slice (some ⟨g, 0, none⟩) 6 cap], .bool true]) (by simp [results, Try.results19, go_sem, q0]) rfl ⟨g, cap, rfl, HR5.out, ?_⟩
      exact HB5.out.setCell (by show w.heap.size ≤ w.heap.size; omega) _
end Go.Proofs.Ytdlpbemjbmgbeaa
