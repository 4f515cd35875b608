/-
  What the Draw functions of chapter 8 hand out; what sameInts and has of the laws answer.
-/
import Derived.Test.YtfmdahpldjkifaaJs
import Derived.Test.YtfmdahpldjkifaaJq
namespace Go.Proofs.Ytfmdahpldjkifaa
open Go.RowKit

theorem cur_below8 {w w1 : World} {o : Obj} (hk : Kp w.heap.size (w.alloc o) w1) : Below w.heap.size w w1 :=
  ((Below.refl w.heap.size w).alloc (Nat.le_refl _) o).trans (hk.below (Nat.le_refl _) (by simp))
def GFPost (w : World) (e : Ending) (w' : World) : Prop := ∃ ao co, ∃ F : List (List Bool), e = .returned (.slice ao F.length co) ∧ F.length ≤ 9 ∧ GRow w' ao F ∧ Below w.heap.size w w'
set_option maxRecDepth 100000 in
set_option maxHeartbeats 1000000 in
theorem drawGF_any {a : Option Addr} {len cap : Nat} {w : World} (hs : Hid (Src w a len)) :
    Calls Try.prog 25 #[.slice a len cap] w (GFPost w) := by
  have HC := hide (cur_new (cap := cap) hs.out)
  go_enter Try.func25, Try.ntmps25
  go_wp2_with fail
  refine (fits_any HC.out (by omega)).mono ?_
  rintro e w1 ⟨v, F, rfl, hl, _, hF, hc1, hk1⟩
  obtain ⟨ao, co, rfl, hr⟩ := hF.row
  have HR := hide hr
  have HB := hide (cur_below8 hk1)
  clear hF hr hc1 hk1 HC
  go_wp2_with fail
  go_ret
  exact ⟨ao, co, F, rfl, hl, HR.out, HB.out⟩
set_option maxRecDepth 100000 in
set_option maxHeartbeats 1000000 in
theorem drawML_any {a : Option Addr} {len cap : Nat} {w : World} (hs : Hid (Src w a len)) :
    Calls Try.prog 5 #[.slice a len cap] w (GFPost w) := by
  go_enter Try.func5, Try.ntmps5
  go_wp2_with fail
  refine (drawGF_any hs).mono ?_
  rintro e w1 ⟨ao, co, F, rfl, hl, hr, hb⟩
  have HR := hide hr
  have HB := hide hb
  clear hr hb
  go_wp2_with fail
  go_ret
  exact ⟨ao, co, F, rfl, hl, HR.out, HB.out⟩
set_option maxRecDepth 100000 in
set_option maxHeartbeats 1000000 in
theorem drawCO_any {a : Option Addr} {len cap : Nat} {w : World} (hs : Hid (Src w a len)) :
    Calls Try.prog 19 #[.slice a len cap] w (GFPost w) := by
  go_enter Try.func19, Try.ntmps19
  go_wp2_with fail
  refine (drawGF_any hs).mono ?_
  rintro e w1 ⟨ao, co, F, rfl, hl, hr, hb⟩
  have HR := hide hr
  have HB := hide hb
  clear hr hb
  go_wp2_with fail
  go_ret
  exact ⟨ao, co, F, rfl, hl, HR.out, HB.out⟩
theorem mtL_8 (F : List (List Bool)) : (mtL F).length ≤ 8 := by
  unfold mtL
  cases hg : Ma.goodB F
  · simp
  · rw [if_pos rfl, (Ma.inv_mat hg).mo.lm]; exact Ma.goodB_len hg
theorem cvA_8 (F : List (List Bool)) : (cvA F).length ≤ 8 := by
  unfold cvA
  cases hg : Ma.goodB F
  · simp
  · rw [if_pos rfl]; have := those_le (Ma.rL F (Ma.mat F)) false; rw [Ma.rL_len] at this; have := Ma.goodB_len hg; omega
theorem cvB_8 (F : List (List Bool)) : (cvB F).length ≤ 8 := by
  unfold cvB
  cases hg : Ma.goodB F
  · simp
  · rw [if_pos rfl]; have := those_le (Ma.rB F (Ma.mat F)) true; rw [Ma.rB_len] at this; have := Ma.goodB_bins hg; omega
def IMPost (w : World) (e : Ending) (w' : World) : Prop := ∃ ao co am cm, ∃ (F : List (List Bool)) (ms : List Int), e = .returned (.tuple #[.slice ao F.length co, .slice am ms.length cm]) ∧ F.length ≤ 9 ∧ ms.length ≤ 8 ∧ ms.length ≤ cm ∧ GRow w' ao F ∧ ARow w' am ms ∧ Below w.heap.size w w'
set_option maxRecDepth 20000 in
set_option maxHeartbeats 4000000 in
theorem drawIM_any {a : Option Addr} {len cap : Nat} {w : World} (hs : Hid (Src w a len)) :
    Calls Try.prog 15 #[.slice a len cap] w (IMPost w) := by
  have HC := hide (cur_new (cap := cap) hs.out)
  go_enter Try.func15, Try.ntmps15
  go_wp2_with fail
  refine (fits_any HC.out (by omega)).mono ?_
  rintro e w1 ⟨v, F, rfl, hl, _, hF, hc1, hk1⟩
  obtain ⟨ao, co, rfl, hr⟩ := hF.row
  have HF1 := hide hF
  have HC1 := hide hc1
  have HK1 := hide hk1
  have HCS := hide (sml_w (c := co) rfl (by omega) hr)
  have hs1 := hk1.size
  rw [World.size_alloc] at hs1
  have h8 := mtL_8 F
  generalize mtL F = ms at HCS h8
  clear hF hr hc1 hk1 HC
  generalize hFL : F.length = FL at *
  have HFL := hide hFL
  clear hFL
  go_wp2_with fail
  refine HCS.out.mono ?_
  rintro e w2 ⟨vm, rfl, hb2, own2⟩
  have KF2 := hide (Kp.of_below (c := w.heap.size) hb2)
  have HC2 := hide (HC1.out.below hb2)
  have HK2 := hide (HK1.out.trans (Kp.of_below hb2))
  have HO2 := hide own2
  have HRow : Hid (∀ W, Kp w.heap.size w1 W → GRow W ao F) := hide fun W hW => by
    obtain ⟨ao', co', e1, hr⟩ := (HF1.out.kp hW (by simp)).row
    rw [HFL.out] at e1
    cases e1
    exact hr
  have hc1 : w.heap.size < w1.heap.size := by omega
  clear hb2 own2 HC1 HK1 HCS HF1
  by_cases h0 : ms.length = 0
  · obtain ⟨am, cm, rfl, hcm, r2⟩ := own_cap rfl HO2.out
    have HR := hide (HRow.out _ KF2.out)
    have HR2 := hide r2
    have z1 : ¬ (0 : Int) < (ms.length : Int) := by omega
    have HBF := hide (cur_below8 HK2.out)
    generalize hml : ms.length = ML at *
    have HML := hide hml
    clear r2 h0 hml
    go_wp2_with fail
    go_ret2
    exact ⟨ao, co, am, cm, F, ms, by rw [HFL.out, HML.out]; rfl, by have := HFL.out; omega, by have := HML.out; omega, by have := HML.out; omega, HR.out, HR2.out, HBF.out⟩
  · obtain ⟨g, cm, e1, hg0, hg1⟩ := own_some HO2.out h0
    subst e1
    have z1 : (0 : Int) < (ms.length : Int) := by omega
    have hcap : ms.length ≤ cm := by
      obtain ⟨_, _, e2, h2, _⟩ := own_cap rfl HO2.out
      cases e2; exact h2
    generalize hml : ms.length = ML at *
    have HML := hide hml
    clear hml
    go_wp2_with fail
    refine (one_any 2 (by omega) HC2.out (by omega)).mono ?_
    rintro e w3 ⟨r3, rfl, hc3, hk3⟩
    have KF3 := hide (KF2.out.trans hk3)
    have HC3 := hide hc3
    have HK3 := hide (HK2.out.trans hk3)
    have HO3 := hide (own_kp HO2.out hk3 hc1)
    clear hc3 hk3 KF2 HC2 HK2 HO2
    cases r3
    · have HR := hide (HRow.out _ KF3.out)
      have HR2 := hide (arow_owns HML.out.symm HO3.out)
      have HBF := hide (cur_below8 HK3.out)
      go_wp2_with fail
      go_ret2
      exact ⟨ao, co, some ⟨g, 0, none⟩, cm, F, ms, by rw [HFL.out, HML.out]; rfl, by have := HFL.out; omega, by have := HML.out; omega, by have := HML.out; omega, HR.out, HR2.out, HBF.out⟩
    · go_wp2_with fail
      refine (pick_any (ML : Int) (by omega) HC3.out (by omega)).mono ?_
      rintro e w4 ⟨r4, rfl, q0, q1, hc4, hk4⟩
      obtain ⟨i, rfl⟩ := Int.eq_ofNat_of_zero_le q0
      have hi : i < ML := by omega
      have KF4 := hide (KF3.out.trans hk4)
      have HC4 := hide hc4
      have HK4 := hide (HK3.out.trans hk4)
      have HO4 := hide (own_kp HO3.out hk4 hc1)
      clear hc4 hk4 KF3 HC3 HK3 HO3 q1
      go_wp2_with fail
      refine (pick_any 7 (by omega) HC4.out (by omega)).mono ?_
      rintro e w5 ⟨r5, rfl, q2, q3, hc5, hk5⟩
      have hK5 := HK4.out.trans hk5
      have hKF := KF4.out.trans hk5
      have own5 := own_kp HO4.out hk5 hc1
      have i0 : (0 : Int) ≤ (i : Int) := by omega
      have i1 : (i : Int) < (ML : Int) := by omega
      have r50 : 0 ≤ r5 := q2
      have r51 : r5 ≤ 6 := by omega
      have c0 : ∃ x, w5.cell? ⟨g, i, none⟩ = some (.int .i64 x) := ⟨_, by rw [own5.cellAt i (by omega), ints_get ms i (by rw [HML.out]; exact hi)]⟩
      obtain ⟨x, c0⟩ := c0
      have f0 := own5.frozenAt i
      obtain ⟨st1, st2⟩ := own5.stored i (.int .i64 (r5 - 1))
      rw [ints_set] at st1
      have HST := hide (arow_owns (by simp [HML.out]) st1)
      have HR := hide (HRow.out _ (kp_set (o := i) (v := .int .i64 (r5 - 1)) hKF hg0))
      have HBF := hide (cur_below8 (kp_set (g := g) (o := i) (v := .int .i64 (r5 - 1)) hK5 (by simp; omega)))
      clear hc5 hk5 own5 st1 st2 HC4 HK4 HO4 KF4 q3 hK5 hKF
      go_wp2_with fail
      go_ret2
      exact ⟨ao, co, some ⟨g, 0, none⟩, cm, F, ms.set i (r5 - 1), by rw [HFL.out, List.length_set, HML.out]; rfl, by have := HFL.out; omega, by rw [List.length_set]; have := HML.out; omega, by rw [List.length_set]; have := HML.out; omega, HR.out, HST.out, HBF.out⟩
def CIPost (w : World) (e : Ending) (w' : World) : Prop := ∃ am cm, ∃ ms : List Int, e = .returned (.slice am ms.length cm) ∧ ms.length ≤ 8 ∧ ARow w' am ms ∧ Below w.heap.size w w'
set_option maxRecDepth 100000 in
set_option maxHeartbeats 1000000 in
theorem drawCI_any {a : Option Addr} {len cap : Nat} {w : World} (hs : Hid (Src w a len)) :
    Calls Try.prog 17 #[.slice a len cap] w (CIPost w) := by
  go_enter Try.func17, Try.ntmps17
  go_wp2_with fail
  refine (drawIM_any hs).mono ?_
  rintro e w1 ⟨ao, co, am, cm, F, ms, rfl, h1, h2, h3, r1, r2, hb⟩
  have HR := hide r2
  have HB := hide hb
  clear r1 r2 hb
  go_wp2_with fail
  go_ret
  exact ⟨am, cm, ms, rfl, h2, HR.out, HB.out⟩
/-- A list of ints without its first. -/
theorem ARow.tail1 {w : World} {a a' : Option Addr} {xs : List Int} (h : ARow w a xs) (ha : 1 < xs.length → ∀ b off, a = some ⟨b, off, none⟩ → a' = some ⟨b, off + 1, none⟩) : ARow w a' xs.tail := by
  by_cases hz : xs.tail = []
  · exact Or.inl hz
  · have hlt : 1 < xs.length := by
      have : xs.tail.length ≠ 0 := fun e => hz (List.length_eq_zero_iff.1 e)
      rw [List.length_tail] at this; omega
    rcases h with h | ⟨b, off, e, hb, hc⟩
    · rw [h] at hlt; simp at hlt
    · refine Or.inr ⟨b, off + 1, ha hlt b off e, hb, fun i hi => ?_⟩
      rw [List.length_tail] at hi
      have := hc (i + 1) (by omega)
      rw [show off + (i + 1) = off + 1 + i by omega] at this
      rw [this]
      simp
theorem ARow.kp8 {w w' : World} {a : Option Addr} {xs : List Int} {c : Nat} (h : ARow w a xs) (hk : Kp c w w') (hne : ∀ b off, a = some ⟨b, off, none⟩ → xs ≠ [] → b ≠ c) : ARow w' a xs := by
  by_cases hz : xs = []
  · exact Or.inl hz
  · rcases h with h | ⟨b, off, e, hb, hc⟩
    · exact absurd h hz
    · exact Or.inr ⟨b, off, e, Nat.lt_of_lt_of_le hb hk.size, fun i hi => (World.cell?_of_block (w := w) (a := ⟨b, off + i, none⟩) (hk.block b hb (hne b off e hz))).trans (hc i hi)⟩
def ICPost (w : World) (e : Ending) (w' : World) : Prop := ∃ ao co ax cx ay cy, ∃ (F : List (List Bool)) (xs ys : List Int), e = .returned (.tuple #[.slice ao F.length co, .slice ax xs.length cx, .slice ay ys.length cy]) ∧ F.length ≤ 9 ∧ xs.length ≤ 8 ∧ ys.length ≤ 8 ∧ GRow w' ao F ∧ ARow w' ax xs ∧ ARow w' ay ys ∧ Below w.heap.size w w'
/-- The first list, in block g0 at most, from base on. -/
def Lst (w : World) (base : Nat) (a : Option Addr) (u : Value) (xs : List Int) : Prop := ARow w a xs ∧ ∀ b off, a = some ⟨b, off, none⟩ → xs ≠ [] → base ≤ b ∧ u.ownBlock ≠ some b
theorem Lst.kp {w w' : World} {base c : Nat} {a : Option Addr} {u : Value} {xs : List Int} (h : Lst w base a u xs) (hk : Kp c w w') (hc : c < base) : Lst w' base a u xs := ⟨h.1.kp8 hk fun b off e hz => by have := (h.2 b off e hz).1; omega, h.2⟩
theorem Lst.grown {w w' : World} {base : Nat} {a : Option Addr} {u : Value} {xs : List Int} (h : Lst w base a u xs) (hg : w.grownBy w' u.ownBlock) : ARow w' a xs := by
  by_cases hz : xs = []
  · exact Or.inl hz
  · rcases h.1 with h0 | ⟨b, off, e, hb, hc⟩
    · exact absurd h0 hz
    · exact Or.inr ⟨b, off, e, Nat.lt_of_lt_of_le hb hg.size, fun i hi => (World.cell?_of_block (w := w) (a := ⟨b, off + i, none⟩) (hg.block b hb (fun e2 => (h.2 b off e hz).2 e2.symm))).trans (hc i hi)⟩
set_option maxRecDepth 20000 in
set_option maxHeartbeats 4000000 in
theorem drawIC_any {a : Option Addr} {len cap : Nat} {w : World} (hs : Hid (Src w a len)) :
    Calls Try.prog 23 #[.slice a len cap] w (ICPost w) := by
  have HC := hide (cur_new (cap := cap) hs.out)
  go_enter Try.func23, Try.ntmps23
  go_wp2_with fail
  refine (fits_any HC.out (by omega)).mono ?_
  rintro e w1 ⟨v, F, rfl, hl, _, hF, hc1, hk1⟩
  obtain ⟨ao, co, rfl, hr⟩ := hF.row
  have HF1 := hide hF
  have HC1 := hide hc1
  have HK1 := hide hk1
  have HCS := hide (scv_w (c := co) rfl (by omega) hr)
  have hs1 := hk1.size
  rw [World.size_alloc] at hs1
  have h8 := cvA_8 F
  have h9 := cvB_8 F
  generalize cvA F = xs at HCS h8
  generalize cvB F = ys at HCS h9
  clear hF hr hc1 hk1 HC
  generalize hFL : F.length = FL at *
  have HFL := hide hFL
  clear hFL
  go_wp2_with fail
  refine HCS.out.mono ?_
  rintro e w2 ⟨v0, v1, rfl, hb2, own0, own1, dj⟩
  have hc1 : w.heap.size < w1.heap.size := by omega
  have KF2 := hide (Kp.of_below (c := w.heap.size) hb2)
  have HC2 := hide (HC1.out.below hb2)
  have HK2 := hide (HK1.out.trans (Kp.of_below hb2))
  have HO2 := hide own1
  have HRow : Hid (∀ W, Kp w.heap.size w1 W → GRow W ao F) := hide fun W hW => by
    obtain ⟨ao', co', e1, hr⟩ := (HF1.out.kp hW (by simp)).row
    rw [HFL.out] at e1
    cases e1
    exact hr
  obtain ⟨ax, cx, rfl, hcx, rx⟩ := own_cap rfl own0
  have HX2 : Hid (Lst w2 w1.heap.size ax v1 xs) := hide ⟨rx, fun b off e hz => by
    subst e
    have h1 : (Value.slice (some ⟨b, off, none⟩) xs.length cx).ownBlock = some b := rfl
    refine ⟨(own0.lt b h1).1, fun e2 => ?_⟩
    rcases dj with d | d
    · rw [h1] at d; cases d
    · exact d (h1.trans e2.symm)⟩
  generalize hxl : xs.length = XL at *
  have HXL := hide hxl
  clear hb2 own0 own1 rx HC1 HK1 HCS HF1 dj hxl
  have hx1 : XL ≤ cx := hcx
  by_cases x0 : XL = 0
  · have y1 : ¬ (0 : Int) < (XL : Int) := by omega
    have HXc := HX2
    clear x0
    by_cases y0 : ys.length = 0
    · obtain ⟨ay, cy, rfl, _, ry⟩ := own_cap rfl HO2.out
      have HR := hide (HRow.out _ KF2.out)
      have HRX := hide HXc.out.1
      have HRY := hide ry
      have HBF := hide (cur_below8 HK2.out)
      have z1 : ¬ (0 : Int) < (ys.length : Int) := by omega
      generalize hyl : ys.length = YL at *
      have HYL := hide hyl
      clear ry y0 hyl
      go_wp2_with fail
      go_ret3
      exact ⟨ao, co, ax, cx, ay, cy, F, xs, ys, by rw [HFL.out, HYL.out, HXL.out]; rfl, by have := HFL.out; omega, by have := HXL.out; omega, by have := HYL.out; omega, HR.out, HRX.out, HRY.out, HBF.out⟩
    · obtain ⟨g1, cy, e1, hg0, hg1⟩ := own_some HO2.out y0
      subst e1
      have z1 : (0 : Int) < (ys.length : Int) := by omega
      generalize hyl : ys.length = YL at *
      have HYL := hide hyl
      clear hyl
      go_wp2_with fail
      refine (one_any 6 (by omega) HC2.out (by omega)).mono ?_
      rintro e w7 ⟨r7, rfl, hc7, hk7⟩
      have KF7 := hide (KF2.out.trans hk7)
      have HC7 := hide hc7
      have HK7 := hide (HK2.out.trans hk7)
      have HO7 := hide (own_kp HO2.out hk7 hc1)
      have HX7 := hide (HXc.out.kp hk7 hc1)
      clear hc7 hk7 KF2 HC2 HK2 HO2 HXc
      cases r7
      · have HR := hide (HRow.out _ KF7.out)
        have HRX := hide HX7.out.1
        have HRY := hide (arow_owns HYL.out.symm HO7.out)
        have HBF := hide (cur_below8 HK7.out)
        go_wp2_with fail
        go_ret3
        exact ⟨ao, co, ax, cx, some ⟨g1, 0, none⟩, cy, F, xs, ys, by rw [HFL.out, HYL.out, HXL.out]; rfl, by have := HFL.out; omega, by have := HXL.out; omega, by have := HYL.out; omega, HR.out, HRX.out, HRY.out, HBF.out⟩
      · go_wp2_with fail
        refine (pick_any 9 (by omega) HC7.out (by omega)).mono ?_
        rintro e w8 ⟨r8, rfl, q2, q3, hc8, hk8⟩
        have hK8 := HK7.out.trans hk8
        have hKF := KF7.out.trans hk8
        have own8 := own_kp HO7.out hk8 hc1
        have hX8 := HX7.out.kp hk8 hc1
        have c0 : ∃ x, w8.cell? ⟨g1, 0, none⟩ = some (.int .i64 x) := ⟨_, by rw [own8.cellAt 0 (by omega), ints_get ys 0 (by rw [HYL.out]; omega)]⟩
        obtain ⟨x, c0⟩ := c0
        have f0 := own8.frozenAt 0
        obtain ⟨st1, st2⟩ := own8.stored 0 (.int .i64 r8)
        rw [ints_set] at st1
        have HRY := hide (arow_owns (by simp [HYL.out]) st1)
        have HRX := hide (hX8.grown st2)
        have HR := hide (HRow.out _ (kp_set (o := 0) (v := .int .i64 r8) hKF hg0))
        have HBF := hide (cur_below8 (kp_set (g := g1) (o := 0) (v := .int .i64 r8) hK8 (by simp; omega)))
        clear hc8 hk8 own8 st1 st2 hX8 HC7 HK7 HO7 KF7 HX7 q3 hK8 hKF
        go_wp2_with fail
        go_ret3
        exact ⟨ao, co, ax, cx, some ⟨g1, 0, none⟩, cy, F, xs, ys.set 0 r8, by rw [HFL.out, List.length_set, HYL.out, HXL.out]; rfl, by have := HFL.out; omega, by have := HXL.out; omega, by rw [List.length_set]; have := HYL.out; omega, HR.out, HRX.out, HRY.out, HBF.out⟩
  · have y1 : (0 : Int) < (XL : Int) := by omega
    clear x0
    go_wp2_with fail
    refine (one_any 3 (by omega) HC2.out (by omega)).mono ?_
    rintro e w3 ⟨r3, rfl, hc3, hk3⟩
    have KF3 := hide (KF2.out.trans hk3)
    have HC3 := hide hc3
    have HK3 := hide (HK2.out.trans hk3)
    have HO3 := hide (own_kp HO2.out hk3 hc1)
    have HX3 := hide (HX2.out.kp hk3 hc1)
    clear hc3 hk3 KF2 HC2 HK2 HO2 HX2
    cases r3
    · have HXc := HX3
      by_cases y0 : ys.length = 0
      · obtain ⟨ay, cy, rfl, _, ry⟩ := own_cap rfl HO3.out
        have HR := hide (HRow.out _ KF3.out)
        have HRX := hide HXc.out.1
        have HRY := hide ry
        have HBF := hide (cur_below8 HK3.out)
        have z1 : ¬ (0 : Int) < (ys.length : Int) := by omega
        generalize hyl : ys.length = YL at *
        have HYL := hide hyl
        clear ry y0 hyl
        go_wp2_with fail
        go_ret3
        exact ⟨ao, co, ax, cx, ay, cy, F, xs, ys, by rw [HFL.out, HYL.out, HXL.out]; rfl, by have := HFL.out; omega, by have := HXL.out; omega, by have := HYL.out; omega, HR.out, HRX.out, HRY.out, HBF.out⟩
      · obtain ⟨g1, cy, e1, hg0, hg1⟩ := own_some HO3.out y0
        subst e1
        have z1 : (0 : Int) < (ys.length : Int) := by omega
        generalize hyl : ys.length = YL at *
        have HYL := hide hyl
        clear hyl
        go_wp2_with fail
        refine (one_any 6 (by omega) HC3.out (by omega)).mono ?_
        rintro e w7 ⟨r7, rfl, hc7, hk7⟩
        have KF7 := hide (KF3.out.trans hk7)
        have HC7 := hide hc7
        have HK7 := hide (HK3.out.trans hk7)
        have HO7 := hide (own_kp HO3.out hk7 hc1)
        have HX7 := hide (HXc.out.kp hk7 hc1)
        clear hc7 hk7 KF3 HC3 HK3 HO3 HXc
        cases r7
        · have HR := hide (HRow.out _ KF7.out)
          have HRX := hide HX7.out.1
          have HRY := hide (arow_owns HYL.out.symm HO7.out)
          have HBF := hide (cur_below8 HK7.out)
          go_wp2_with fail
          go_ret3
          exact ⟨ao, co, ax, cx, some ⟨g1, 0, none⟩, cy, F, xs, ys, by rw [HFL.out, HYL.out, HXL.out]; rfl, by have := HFL.out; omega, by have := HXL.out; omega, by have := HYL.out; omega, HR.out, HRX.out, HRY.out, HBF.out⟩
        · go_wp2_with fail
          refine (pick_any 9 (by omega) HC7.out (by omega)).mono ?_
          rintro e w8 ⟨r8, rfl, q2, q3, hc8, hk8⟩
          have hK8 := HK7.out.trans hk8
          have hKF := KF7.out.trans hk8
          have own8 := own_kp HO7.out hk8 hc1
          have hX8 := HX7.out.kp hk8 hc1
          have c0 : ∃ x, w8.cell? ⟨g1, 0, none⟩ = some (.int .i64 x) := ⟨_, by rw [own8.cellAt 0 (by omega), ints_get ys 0 (by rw [HYL.out]; omega)]⟩
          obtain ⟨x, c0⟩ := c0
          have f0 := own8.frozenAt 0
          obtain ⟨st1, st2⟩ := own8.stored 0 (.int .i64 r8)
          rw [ints_set] at st1
          have HRY := hide (arow_owns (by simp [HYL.out]) st1)
          have HRX := hide (hX8.grown st2)
          have HR := hide (HRow.out _ (kp_set (o := 0) (v := .int .i64 r8) hKF hg0))
          have HBF := hide (cur_below8 (kp_set (g := g1) (o := 0) (v := .int .i64 r8) hK8 (by simp; omega)))
          clear hc8 hk8 own8 st1 st2 hX8 HC7 HK7 HO7 KF7 HX7 q3 hK8 hKF
          go_wp2_with fail
          go_ret3
          exact ⟨ao, co, ax, cx, some ⟨g1, 0, none⟩, cy, F, xs, ys.set 0 r8, by rw [HFL.out, List.length_set, HYL.out, HXL.out]; rfl, by have := HFL.out; omega, by have := HXL.out; omega, by rw [List.length_set]; have := HYL.out; omega, HR.out, HRX.out, HRY.out, HBF.out⟩
    · have y2 : (1 : Int) ≤ (XL : Int) := by omega
      have y3 : (1 : Int) ≤ (cx : Int) := by omega
      by_cases hcx1 : cx = 1
      · subst hcx1
        obtain rfl : XL = 1 := by omega
        have HTL : Hid (xs.tail.length = 0) := hide (by rw [List.length_tail, HXL.out])
        have HXc : Hid (Lst w3 w1.heap.size ax v1 xs.tail) := hide ⟨Or.inl (List.length_eq_zero_iff.1 HTL.out), fun b off _ hz => absurd (List.length_eq_zero_iff.1 HTL.out) hz⟩
        by_cases y0 : ys.length = 0
        · obtain ⟨ay, cy, rfl, _, ry⟩ := own_cap rfl HO3.out
          have HR := hide (HRow.out _ KF3.out)
          have HRX := hide HXc.out.1
          have HRY := hide ry
          have HBF := hide (cur_below8 HK3.out)
          have z1 : ¬ (0 : Int) < (ys.length : Int) := by omega
          generalize hyl : ys.length = YL at *
          have HYL := hide hyl
          clear ry y0 hyl
          go_wp2_with fail
          go_ret3
          exact ⟨ao, co, ax, 0, ay, cy, F, xs.tail, ys, by rw [HFL.out, HYL.out, HTL.out]; rfl, by have := HFL.out; omega, by rw [HTL.out]; omega, by have := HYL.out; omega, HR.out, HRX.out, HRY.out, HBF.out⟩
        · obtain ⟨g1, cy, e1, hg0, hg1⟩ := own_some HO3.out y0
          subst e1
          have z1 : (0 : Int) < (ys.length : Int) := by omega
          generalize hyl : ys.length = YL at *
          have HYL := hide hyl
          clear hyl
          go_wp2_with fail
          refine (one_any 6 (by omega) HC3.out (by omega)).mono ?_
          rintro e w7 ⟨r7, rfl, hc7, hk7⟩
          have KF7 := hide (KF3.out.trans hk7)
          have HC7 := hide hc7
          have HK7 := hide (HK3.out.trans hk7)
          have HO7 := hide (own_kp HO3.out hk7 hc1)
          have HX7 := hide (HXc.out.kp hk7 hc1)
          clear hc7 hk7 KF3 HC3 HK3 HO3 HXc
          cases r7
          · have HR := hide (HRow.out _ KF7.out)
            have HRX := hide HX7.out.1
            have HRY := hide (arow_owns HYL.out.symm HO7.out)
            have HBF := hide (cur_below8 HK7.out)
            go_wp2_with fail
            go_ret3
            exact ⟨ao, co, ax, 0, some ⟨g1, 0, none⟩, cy, F, xs.tail, ys, by rw [HFL.out, HYL.out, HTL.out]; rfl, by have := HFL.out; omega, by rw [HTL.out]; omega, by have := HYL.out; omega, HR.out, HRX.out, HRY.out, HBF.out⟩
          · go_wp2_with fail
            refine (pick_any 9 (by omega) HC7.out (by omega)).mono ?_
            rintro e w8 ⟨r8, rfl, q2, q3, hc8, hk8⟩
            have hK8 := HK7.out.trans hk8
            have hKF := KF7.out.trans hk8
            have own8 := own_kp HO7.out hk8 hc1
            have hX8 := HX7.out.kp hk8 hc1
            have c0 : ∃ x, w8.cell? ⟨g1, 0, none⟩ = some (.int .i64 x) := ⟨_, by rw [own8.cellAt 0 (by omega), ints_get ys 0 (by rw [HYL.out]; omega)]⟩
            obtain ⟨x, c0⟩ := c0
            have f0 := own8.frozenAt 0
            obtain ⟨st1, st2⟩ := own8.stored 0 (.int .i64 r8)
            rw [ints_set] at st1
            have HRY := hide (arow_owns (by simp [HYL.out]) st1)
            have HRX := hide (hX8.grown st2)
            have HR := hide (HRow.out _ (kp_set (o := 0) (v := .int .i64 r8) hKF hg0))
            have HBF := hide (cur_below8 (kp_set (g := g1) (o := 0) (v := .int .i64 r8) hK8 (by simp; omega)))
            clear hc8 hk8 own8 st1 st2 hX8 HC7 HK7 HO7 KF7 HX7 q3 hK8 hKF
            go_wp2_with fail
            go_ret3
            exact ⟨ao, co, ax, 0, some ⟨g1, 0, none⟩, cy, F, xs.tail, ys.set 0 r8, by rw [HFL.out, List.length_set, HYL.out, HTL.out]; rfl, by have := HFL.out; omega, by rw [HTL.out]; omega, by rw [List.length_set]; have := HYL.out; omega, HR.out, HRX.out, HRY.out, HBF.out⟩
      · have HTL : Hid (xs.tail.length = XL - 1) := hide (by rw [List.length_tail, HXL.out])
        have HXc : Hid (Lst w3 w1.heap.size (Option.map (fun x : Addr => ({ block := x.block, off := x.off + 1, spot := none } : Addr)) ax) v1 xs.tail) := hide (by
          have hz : xs ≠ [] := fun e => by have := HXL.out; rw [e] at this; simp at this; omega
          refine ⟨HX3.out.1.tail1 fun _ b off e => by rw [e]; rfl, fun b off e _ => ?_⟩
          rcases HX3.out.1 with h | ⟨b', off', e', _⟩
          · exact absurd h hz
          · rw [e'] at e
            simp only [Option.map_some, Option.some.injEq, Addr.mk.injEq] at e
            obtain ⟨rfl, _, _⟩ := e
            exact HX3.out.2 _ _ e' hz)
        by_cases y0 : ys.length = 0
        · obtain ⟨ay, cy, rfl, _, ry⟩ := own_cap rfl HO3.out
          have HR := hide (HRow.out _ KF3.out)
          have HRX := hide HXc.out.1
          have HRY := hide ry
          have HBF := hide (cur_below8 HK3.out)
          have z1 : ¬ (0 : Int) < (ys.length : Int) := by omega
          generalize hyl : ys.length = YL at *
          have HYL := hide hyl
          clear ry y0 hyl
          go_wp2_with fail
          go_ret3
          exact ⟨ao, co, (Option.map (fun x : Addr => ({ block := x.block, off := x.off + 1, spot := none } : Addr)) ax), (cx - 1), ay, cy, F, xs.tail, ys, by rw [HFL.out, HYL.out, HTL.out]; rfl, by have := HFL.out; omega, by rw [HTL.out]; omega, by have := HYL.out; omega, HR.out, HRX.out, HRY.out, HBF.out⟩
        · obtain ⟨g1, cy, e1, hg0, hg1⟩ := own_some HO3.out y0
          subst e1
          have z1 : (0 : Int) < (ys.length : Int) := by omega
          generalize hyl : ys.length = YL at *
          have HYL := hide hyl
          clear hyl
          go_wp2_with fail
          refine (one_any 6 (by omega) HC3.out (by omega)).mono ?_
          rintro e w7 ⟨r7, rfl, hc7, hk7⟩
          have KF7 := hide (KF3.out.trans hk7)
          have HC7 := hide hc7
          have HK7 := hide (HK3.out.trans hk7)
          have HO7 := hide (own_kp HO3.out hk7 hc1)
          have HX7 := hide (HXc.out.kp hk7 hc1)
          clear hc7 hk7 KF3 HC3 HK3 HO3 HXc
          cases r7
          · have HR := hide (HRow.out _ KF7.out)
            have HRX := hide HX7.out.1
            have HRY := hide (arow_owns HYL.out.symm HO7.out)
            have HBF := hide (cur_below8 HK7.out)
            go_wp2_with fail
            go_ret3
            exact ⟨ao, co, (Option.map (fun x : Addr => ({ block := x.block, off := x.off + 1, spot := none } : Addr)) ax), (cx - 1), some ⟨g1, 0, none⟩, cy, F, xs.tail, ys, by rw [HFL.out, HYL.out, HTL.out]; rfl, by have := HFL.out; omega, by rw [HTL.out]; omega, by have := HYL.out; omega, HR.out, HRX.out, HRY.out, HBF.out⟩
          · go_wp2_with fail
            refine (pick_any 9 (by omega) HC7.out (by omega)).mono ?_
            rintro e w8 ⟨r8, rfl, q2, q3, hc8, hk8⟩
            have hK8 := HK7.out.trans hk8
            have hKF := KF7.out.trans hk8
            have own8 := own_kp HO7.out hk8 hc1
            have hX8 := HX7.out.kp hk8 hc1
            have c0 : ∃ x, w8.cell? ⟨g1, 0, none⟩ = some (.int .i64 x) := ⟨_, by rw [own8.cellAt 0 (by omega), ints_get ys 0 (by rw [HYL.out]; omega)]⟩
            obtain ⟨x, c0⟩ := c0
            have f0 := own8.frozenAt 0
            obtain ⟨st1, st2⟩ := own8.stored 0 (.int .i64 r8)
            rw [ints_set] at st1
            have HRY := hide (arow_owns (by simp [HYL.out]) st1)
            have HRX := hide (hX8.grown st2)
            have HR := hide (HRow.out _ (kp_set (o := 0) (v := .int .i64 r8) hKF hg0))
            have HBF := hide (cur_below8 (kp_set (g := g1) (o := 0) (v := .int .i64 r8) hK8 (by simp; omega)))
            clear hc8 hk8 own8 st1 st2 hX8 HC7 HK7 HO7 KF7 HX7 q3 hK8 hKF
            go_wp2_with fail
            go_ret3
            exact ⟨ao, co, (Option.map (fun x : Addr => ({ block := x.block, off := x.off + 1, spot := none } : Addr)) ax), (cx - 1), some ⟨g1, 0, none⟩, cy, F, xs.tail, ys.set 0 r8, by rw [HFL.out, List.length_set, HYL.out, HTL.out]; rfl, by have := HFL.out; omega, by rw [HTL.out]; omega, by rw [List.length_set]; have := HYL.out; omega, HR.out, HRX.out, HRY.out, HBF.out⟩
end Go.Proofs.Ytfmdahpldjkifaa
