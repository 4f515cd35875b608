/-
  The law on the order of fractions: its own walk, out of what the functions answer.
-/
import Derived.Test.YtjbmoidhkplomaaV
import Derived.Deep.DeepCutAuto
namespace Go.Proofs.Ytjbmoidhkplomaa
open Go.RowKit

set_option maxRecDepth 100000 in
set_option maxHeartbeats 400000 in
theorem lOrd_long (a1 a2 : Option Addr) (len1 cap1 len2 cap2 : Nat) (w : World) (h : (1048576 : Int) < wrap64 ((len1 : Int) + (len2 : Int))) :
    Calls Try.prog 3 #[.slice a1 len1 cap1, .slice a2 len2 cap2] w fun e w' => e = .returned (.bool true) ∧ Below w.heap.size w w' := by
  go_enter Try.func3, Try.ntmps3
  go_wp2_with fail
  go_ret
  exact ⟨rfl, Below.refl _ _⟩

theorem flr_walk (n d : Int) (h : Fr.goodB n d = true) : wrap64 (Fr.flr n d * d) ≤ n ∧ n < wrap64 (wrap64 (Fr.flr n d + 1) * d) := by
  unfold Fr.goodB at h
  simp only [decide_eq_true_eq] at h
  obtain ⟨h1, h2, h3, h4, _⟩ := h
  obtain ⟨k1, k2⟩ := Fr.flr_spec n d h3
  generalize Fr.flr n d = q at *
  have e : (q + 1) * d = q * d + d := by rw [Int.add_mul]; omega
  have b1 : q ≤ 2000000000 := by
    by_cases hq : 0 ≤ q
    · have := Int.mul_le_mul_of_nonneg_left h3 hq; omega
    · omega
  have b2 : -3000000000 ≤ q := by
    by_cases hq : 0 ≤ q
    · omega
    · have := Int.mul_le_mul_of_nonpos_left (a := q) (b := d) (c := 1) (by omega) h3; omega
  rw [wrap_id (q + 1) (by omega) (by omega), wrap_id (q * d) (by omega) (by omega), wrap_id ((q + 1) * d) (by omega) (by omega)]
  exact ⟨k1, k2⟩

theorem flr_cond (n d : Int) (h : Fr.goodB n d = true) : (decide (n < wrap64 (Fr.flr n d * d)) || decide (wrap64 (wrap64 (Fr.flr n d + 1) * d) ≤ n)) = false := by
  obtain ⟨f1, f2⟩ := flr_walk n d h
  rw [decide_eq_false (by omega), decide_eq_false (by omega)]; rfl
theorem sum_m (b cap m : Nat) (xs : List (Int × Int)) (hm : xs.length = m) (w : World) (hr : RowAt w b 0 xs) (hb : b < w.heap.size) :
    Calls Try.prog 12 #[.slice (some ⟨b, 0, none⟩) m cap] w fun e w' => e = .returned (.tuple #[.agg #[.int .i64 (Fr.sumN xs), .int .i64 (Fr.sumD xs)], .bool (Fr.sumB xs)]) ∧ Below w.heap.size w w' := by
  subst hm; exact sum_any b 0 cap xs w hr hb
theorem ssum_m (b cap m : Nat) (xs : List (Int × Int)) (hm : xs.length = m) (w : World) (hr : RowAt w b 0 xs) (hb : b < w.heap.size) :
    Calls Try.prog 13 #[.slice (some ⟨b, 0, none⟩) m cap] w fun e w' => e = .returned (.tuple #[.agg #[.int .i64 (Fr.sumN xs), .int .i64 (Fr.sumD xs)], .bool (Fr.sumB xs)]) ∧ Below w.heap.size w w' := by
  subst hm; exact ssum_any b 0 cap xs w hr hb
theorem nil_or_snoc (xs : List (Int × Int)) : xs = [] ∨ ∃ ys x, xs = ys ++ [x] := by
  rcases List.eq_nil_or_concat xs with h | ⟨ys, x, h⟩
  · exact Or.inl h
  · exact Or.inr ⟨ys, x, by simpa using h⟩
/-- A row without its last one, and the last one. -/
theorem RowAt.front {w : World} {b : Nat} {ys : List (Int × Int)} {x : Int × Int} (h : RowAt w b 0 (ys ++ [x])) :
    RowAt w b 0 ys ∧ w.cell? ⟨b, ys.length * 2, none⟩ = some (.int .i64 x.1) ∧ w.cell? ⟨b, ys.length * 2 + 1, none⟩ = some (.int .i64 x.2) := by
  refine ⟨fun i hi => ?_, ?_, ?_⟩
  · have := h i (by simp; omega)
    simpa [List.getD_eq_getElem?_getD, List.getElem?_append_left hi] using this
  · have := (h ys.length (by simp)).1
    simpa using this
  · have := (h ys.length (by simp)).2
    simpa using this

theorem last_at (m L : Nat) (h : m + 1 = L) (hm : m ≤ 50) : (0 : Int) ≤ (m : Int) ∧ (m : Int) < (L : Int) ∧ wrap64 ((L : Int) - 1) = (m : Int) ∧ IntKind.i64.wrap ((L : Int) - 1) = (m : Int) := by
  subst h
  have e : (((m + 1 : Nat) : Int) - 1) = (m : Int) := by omega
  rw [e]
  refine ⟨by omega, by omega, wrap_id _ (by omega) (by omega), ?_⟩
  unfold IntKind.wrap
  simp only [IntKind.bits, IntKind.signed]
  first | omega | (simp; omega)
theorem held9_below {w w1 w2 : World} {p g o t : Nat} {a1 a2 x1 x2 N D : Int} (hg : g < p) (ht : t < p) (hw : w.heap.size ≤ p)
    (s : w1.cell? ⟨p, 0, none⟩ = some (.int .i64 a1) ∧ w1.cell? ⟨p, 1, none⟩ = some (.int .i64 a2) ∧ w1.cell? ⟨g, o, none⟩ = some (.int .i64 x1) ∧ w1.cell? ⟨g, o + 1, none⟩ = some (.int .i64 x2) ∧ w1.cell? ⟨t, 0, none⟩ = some (.int .i64 N) ∧ w1.cell? ⟨t, 1, none⟩ = some (.int .i64 D) ∧ Below w.heap.size w w1 ∧ p < w1.heap.size)
    (hb : Below w1.heap.size w1 w2) :
    w2.cell? ⟨p, 0, none⟩ = some (.int .i64 a1) ∧ w2.cell? ⟨p, 1, none⟩ = some (.int .i64 a2) ∧ w2.cell? ⟨g, o, none⟩ = some (.int .i64 x1) ∧ w2.cell? ⟨g, o + 1, none⟩ = some (.int .i64 x2) ∧ w2.cell? ⟨t, 0, none⟩ = some (.int .i64 N) ∧ w2.cell? ⟨t, 1, none⟩ = some (.int .i64 D) ∧ Below w.heap.size w w2 ∧ p < w2.heap.size := by
  obtain ⟨s0, s1, s2, s3, s4, s5, s6, s7⟩ := s
  obtain ⟨hc, _⟩ := bcell hb
  exact ⟨(hc _ _ s7).trans s0, (hc _ _ s7).trans s1, (hc _ _ (by omega)).trans s2, (hc _ _ (by omega)).trans s3, (hc _ _ (by omega)).trans s4, (hc _ _ (by omega)).trans s5, s6.trans (hb.mono (by omega)), Nat.lt_of_lt_of_le s7 hb.size⟩
theorem held9_set {w w1 : World} {p g o t c i : Nat} {v : Value} {a1 a2 x1 x2 N D : Int} (hg : g < p) (ht : t < p) (hw : w.heap.size ≤ p)
    (s : w1.cell? ⟨p, 0, none⟩ = some (.int .i64 a1) ∧ w1.cell? ⟨p, 1, none⟩ = some (.int .i64 a2) ∧ w1.cell? ⟨g, o, none⟩ = some (.int .i64 x1) ∧ w1.cell? ⟨g, o + 1, none⟩ = some (.int .i64 x2) ∧ w1.cell? ⟨t, 0, none⟩ = some (.int .i64 N) ∧ w1.cell? ⟨t, 1, none⟩ = some (.int .i64 D) ∧ Below w.heap.size w w1 ∧ p < w1.heap.size)
    (hx : p < c) :
    (w1.setCell ⟨c, i, none⟩ v).cell? ⟨p, 0, none⟩ = some (.int .i64 a1) ∧ (w1.setCell ⟨c, i, none⟩ v).cell? ⟨p, 1, none⟩ = some (.int .i64 a2) ∧ (w1.setCell ⟨c, i, none⟩ v).cell? ⟨g, o, none⟩ = some (.int .i64 x1) ∧ (w1.setCell ⟨c, i, none⟩ v).cell? ⟨g, o + 1, none⟩ = some (.int .i64 x2) ∧ (w1.setCell ⟨c, i, none⟩ v).cell? ⟨t, 0, none⟩ = some (.int .i64 N) ∧ (w1.setCell ⟨c, i, none⟩ v).cell? ⟨t, 1, none⟩ = some (.int .i64 D) ∧ Below w.heap.size w (w1.setCell ⟨c, i, none⟩ v) ∧ p < (w1.setCell ⟨c, i, none⟩ v).heap.size := by
  obtain ⟨s0, s1, s2, s3, s4, s5, s6, s7⟩ := s
  have hb' : Below c w1 (w1.setCell ⟨c, i, none⟩ v) := (Below.refl c w1).setCell (p := ⟨c, i, none⟩) (Nat.le_refl c) v
  exact ⟨(hb'.cell (p := ⟨p, 0, none⟩) hx).trans s0, (hb'.cell (p := ⟨p, 1, none⟩) hx).trans s1, (hb'.cell (p := ⟨g, o, none⟩) (Nat.lt_trans hg hx)).trans s2, (hb'.cell (p := ⟨g, o + 1, none⟩) (Nat.lt_trans hg hx)).trans s3, (hb'.cell (p := ⟨t, 0, none⟩) (Nat.lt_trans ht hx)).trans s4, (hb'.cell (p := ⟨t, 1, none⟩) (Nat.lt_trans ht hx)).trans s5, s6.setCell (by show w.heap.size ≤ c; omega) v, by simpa using s7⟩

set_option maxRecDepth 100000 in
set_option maxHeartbeats 2000000 in
theorem lOrd_short (a1 a2 : Option Addr) (len1 cap1 len2 cap2 : Nat) (w : World) (h : ¬ (1048576 : Int) < wrap64 ((len1 : Int) + (len2 : Int))) (hs1 : Src w a1 len1) (hs2 : Src w a2 len2) :
    Calls Try.prog 3 #[.slice a1 len1 cap1, .slice a2 len2 cap2] w fun e w' => e = .returned (.bool true) ∧ Below w.heap.size w w' := by
  have HS1 := hide hs1
  have HS2 := hide hs2
  clear hs1 hs2
  go_enter Try.func3, Try.ntmps3
  go_wp2_with fail
  refine (drawLess_any a1 len1 cap1 _ HS1.out).mono ?_
  rintro e w1 ⟨n1, d1, n2, d2, rfl, hb1⟩
  have hne1 : (okV n1 d1 n2 d2 != okV n1 d1 n2 d2) = false := by simp
  have hne2 : (leV n1 d1 n2 d2 != leV n1 d1 n2 d2) = false := by simp
  go_wp2_with fail
  refine (lessF_any n1 d1 n2 d2 _).mono ?_
  rintro e w2 ⟨rfl, hb2⟩
  have hB2 : Below w.heap.size w w2 := ((hb1.alloc hb1.size _).alloc (by have := hb1.size; simp; omega) _).trans (hb2.mono (by have := hb1.size; simp; omega))
  have hv2 : Vars2 w2 w1.heap.size (w1.heap.size + 1) n1 d1 n2 d2 := Vars2.below (w := (w1.alloc (.cells #[.int .i64 n1, .int .i64 d1] 24)).alloc (.cells #[.int .i64 n2, .int .i64 d2] 24)) ⟨by simp; omega, by simp, by simp [go_sem], by simp [go_sem], by simp [go_sem], by simp [go_sem]⟩ hb2
  have HV2 := hide hv2
  obtain ⟨_, _, c0, c1, c2, c3⟩ := hv2
  clear hb2
  go_wp2_with fail
  refine (sLessF_any n1 d1 n2 d2 _).mono ?_
  rintro e w3 ⟨rfl, hb3⟩
  have hB3 : Below w.heap.size w w3 := hB2.trans (hb3.mono hB2.size)
  have hv3 := HV2.out.below hb3
  have HV3 := hide hv3
  obtain ⟨_, _, e0, e1, e2, e3⟩ := hv3
  clear hb3 c0 c1 c2 c3 HV2
  go_upto_if 60 with fail
  go_cut [4, 7, 8, 9, 10, 11, 12, 13, 14] (fun s4 _ _ _ _ _ _ _ _ wc => s4 = .bool false ∧ Below w.heap.size w wc)
  case first =>
    cases hok : okV n1 d1 n2 d2
    · go_wp2_with fail
      go_meet
      case rel => exact ⟨rfl, hB3⟩
    have hg1 : Fr.goodB n1 d1 = true := by unfold okV at hok; simp at hok; exact hok.1
    have hg2 : Fr.goodB n2 d2 = true := by unfold okV at hok; simp at hok; exact hok.2
    have hok2 : okV n2 d2 n1 d1 = true := by unfold okV; rw [hg1, hg2]; rfl
    have q1 := frac_neq n1 d1 n2 d2
    have q2 := fun x y => frac_neqg x y n1 d1 n2 d2
    rcases Fr.less_cases n1 d1 n2 d2 hg1 hg2 with ⟨hL, hM⟩ | ⟨hL, hM⟩ | ⟨hL, hM, hn, hd⟩
    · -- the first is less
      have hl : leV n1 d1 n2 d2 = true := by unfold leV; rw [hg1, hg2, hL]; rfl
      have hm : leV n2 d2 n1 d1 = false := by unfold leV; rw [hg1, hg2, hM]; rfl
      go_wp2_with fail
      refine (lessF_any n2 d2 n1 d1 _).mono ?_
      rintro e w4 ⟨rfl, hb4⟩
      have hB4 : Below w.heap.size w w4 := hB3.trans (hb4.mono hB3.size)
      have hv4 := HV3.out.below hb4
      have HV4 := hide hv4
      obtain ⟨hp4, hq4, c0, c1, c2, c3⟩ := hv4
      clear hb4 e0 e1 e2 e3
      go_wp2_with fail
      refine (subF_any n1 d1 n2 d2 _).mono ?_
      rintro e w5 ⟨rfl, hb5⟩
      have hB5 : Below w.heap.size w w5 := hB4.trans (hb5.mono hB4.size)
      clear hb5 c0 c1 c2 c3
      cases hsub : Fr.subB n1 d1 n2 d2
      · go_wp2_with fail
        go_meet
        case rel => exact ⟨rfl, hB5.alloc hB5.size _⟩
      · have hlt := Fr.sub_less n1 d1 n2 d2 hg1 hg2 hsub
        rw [hL] at hlt
        have hlt' : decide (Fr.subN n1 d1 n2 d2 < 0) = true := hlt.symm
        clear hlt
        go_wp2_with fail
        go_meet
        case rel => exact ⟨rfl, hB5.alloc hB5.size _⟩
    · -- the second is less
      have hl : leV n1 d1 n2 d2 = false := by unfold leV; rw [hg1, hg2, hL]; rfl
      have hm : leV n2 d2 n1 d1 = true := by unfold leV; rw [hg1, hg2, hM]; rfl
      go_wp2_with fail
      refine (lessF_any n2 d2 n1 d1 _).mono ?_
      rintro e w4 ⟨rfl, hb4⟩
      have hB4 : Below w.heap.size w w4 := hB3.trans (hb4.mono hB3.size)
      have hv4 := HV3.out.below hb4
      have HV4 := hide hv4
      obtain ⟨hp4, hq4, c0, c1, c2, c3⟩ := hv4
      clear hb4 e0 e1 e2 e3
      go_wp2_with fail
      refine (subF_any n1 d1 n2 d2 _).mono ?_
      rintro e w5 ⟨rfl, hb5⟩
      have hB5 : Below w.heap.size w w5 := hB4.trans (hb5.mono hB4.size)
      clear hb5 c0 c1 c2 c3
      cases hsub : Fr.subB n1 d1 n2 d2
      · go_wp2_with fail
        go_meet
        case rel => exact ⟨rfl, hB5.alloc hB5.size _⟩
      · have hlt := Fr.sub_less n1 d1 n2 d2 hg1 hg2 hsub
        rw [hL] at hlt
        have hlt' : decide (Fr.subN n1 d1 n2 d2 < 0) = false := hlt.symm
        clear hlt
        go_wp2_with fail
        go_meet
        case rel => exact ⟨rfl, hB5.alloc hB5.size _⟩
    · -- alike
      have hl : leV n1 d1 n2 d2 = false := by unfold leV; rw [hg1, hg2, hL]; rfl
      have hm : leV n2 d2 n1 d1 = false := by unfold leV; rw [hg1, hg2, hM]; rfl
      have q1' : ∀ w, (binOp .neq 24 (.agg #[.int .i64 n1, .int .i64 d1]) (.agg #[.int .i64 n2, .int .i64 d2])).run Try.prog w = .ok (.bool false) w := fun w => by rw [q1, hn, hd]; simp
      clear q1 hn hd
      go_wp2_with fail
      refine (lessF_any n2 d2 n1 d1 _).mono ?_
      rintro e w4 ⟨rfl, hb4⟩
      have hB4 : Below w.heap.size w w4 := hB3.trans (hb4.mono hB3.size)
      have hv4 := HV3.out.below hb4
      have HV4 := hide hv4
      obtain ⟨hp4, hq4, c0, c1, c2, c3⟩ := hv4
      clear hb4 e0 e1 e2 e3
      go_wp2_with fail
      refine (subF_any n1 d1 n2 d2 _).mono ?_
      rintro e w5 ⟨rfl, hb5⟩
      have hB5 : Below w.heap.size w w5 := hB4.trans (hb5.mono hB4.size)
      clear hb5 c0 c1 c2 c3
      cases hsub : Fr.subB n1 d1 n2 d2
      · go_wp2_with fail
        go_meet
        case rel => exact ⟨rfl, hB5.alloc hB5.size _⟩
      · have hlt := Fr.sub_less n1 d1 n2 d2 hg1 hg2 hsub
        rw [hL] at hlt
        have hlt' : decide (Fr.subN n1 d1 n2 d2 < 0) = false := hlt.symm
        clear hlt
        go_wp2_with fail
        go_meet
        case rel => exact ⟨rfl, hB5.alloc hB5.size _⟩
  case rest =>
    obtain ⟨rfl, hBc⟩ := hcut
    clear e0 e1 e2 e3 HV3 hB3 hB2
    go_wp2_with fail
    refine (drawFloor_any a2 len2 cap2 _ (HS2.out.below hBc)).mono ?_
    rintro e w6 ⟨n3, d3, rfl, hb6⟩
    have hB6 : Below w.heap.size w w6 := hBc.trans (hb6.mono hBc.size)
    clear hb6
    have hne3 : (Fr.goodB n3 d3 != Fr.goodB n3 d3) = false := by simp
    have hne4 : (flV n3 d3 != flV n3 d3) = false := by simp
    go_wp2_with fail
    refine (floorF_any n3 d3 _).mono ?_
    rintro e w7 ⟨rfl, hb7⟩
    have hB7 : Below w.heap.size w w7 := (hB6.alloc hB6.size _).trans (hb7.mono (by have := hB6.size; simp; omega))
    have hv7 : Vars2 w7 w6.heap.size w6.heap.size n3 d3 n3 d3 := Vars2.below (w := w6.alloc (.cells #[.int .i64 n3, .int .i64 d3] 24)) ⟨by simp, by simp, by simp [go_sem], by simp [go_sem], by simp [go_sem], by simp [go_sem]⟩ hb7
    have HV7 := hide hv7
    obtain ⟨hp7, _, c0, c1, _, _⟩ := hv7
    clear hb7
    go_wp2_with fail
    refine (sfloorF_any n3 d3 _).mono ?_
    rintro e w8 ⟨rfl, hb8⟩
    have hB8 : Below w.heap.size w w8 := hB7.trans (hb8.mono hB7.size)
    have hv8 := HV7.out.below hb8
    obtain ⟨hp8, _, e0, e1, _, _⟩ := hv8
    clear hb8 c0 c1 HV7
    go_upto_region 20 with fail
    go_cut [4, 16, 17, 18, 19, 141] (fun s4 _ _ _ _ s141 wc => s4 = .bool false ∧ s141 = .bool false ∧ Below w.heap.size w wc)
    case first =>
      cases hg3 : Fr.goodB n3 d3
      · go_wp2_with fail
        go_meet
        case rel => exact ⟨rfl, rfl, hB8⟩
      · have hfl : flV n3 d3 = Fr.flr n3 d3 := by unfold flV; rw [hg3]; rfl
        have HCOND := hide (flr_cond n3 d3 hg3)
        obtain ⟨f1, f2⟩ := flr_walk n3 d3 hg3
        go_wp2_with fail
        go_meet
        case rel => exact ⟨rfl, by rw [HCOND.out], hB8⟩
    case rest =>
      obtain ⟨rfl, rfl, hBd⟩ := hcut
      clear e0 e1 hB8 hB7 hB6 hBc
      go_wp2_with fail
      refine (drawSum_any a2 len2 cap2 _ (HS2.out.below hBd)).mono ?_
      rintro e w9 ⟨v, xs, rfl, hlen, hb9, hown⟩
      have hB9 : Below w.heap.size w w9 := hBd.trans (hb9.mono hBd.size)
      clear hb9
      rcases row_of_owns hown with ⟨rfl, rfl⟩ | ⟨g, cap, rfl, hg0, hg, hcap, hrow⟩
      · clear hown
        go_wp2_with fail
        refine (sum_zero none 0 _).mono ?_
        rintro e wA ⟨rfl, hbA⟩
        have q1 : ∀ w, (binOp .neq 24 (.agg #[.int .i64 0, .int .i64 1]) (.agg #[.int .i64 0, .int .i64 1])).run Try.prog w = .ok (.bool false) w := fun w => by rw [frac_neq]; simp
        have q2 := fun x y => frac_neqg x y 0 1 0 1
        have hBA : Below w.heap.size w wA := hB9.trans (hbA.mono hB9.size)
        clear hbA
        go_wp2_with fail
        refine (ssum_zero none 0 _).mono ?_
        rintro e wB ⟨rfl, hbB⟩
        have hBB : Below w.heap.size w wB := (hBA.alloc hBA.size _).trans (hbB.mono (by have := hBA.size; simp; omega))
        have hv : Vars2 wB wA.heap.size wA.heap.size 0 1 0 1 := Vars2.below (w := wA.alloc (.cells #[.int .i64 0, .int .i64 1] 24)) ⟨by simp, by simp, by simp [go_sem], by simp [go_sem], by simp [go_sem], by simp [go_sem]⟩ hbB
        obtain ⟨_, _, e0, e1, _, _⟩ := hv
        clear hbB
        go_wp2_with fail
        go_ret
        exact ⟨rfl, hBB.alloc hBB.size _⟩
      · clear hown
        obtain ⟨m, hm⟩ : ∃ m, xs.length = m := ⟨_, rfl⟩
        rw [hm] at hcap hlen ⊢
        have HROW := hide hrow
        clear hrow
        have q1 : ∀ w, (binOp .neq 24 (.agg #[.int .i64 (Fr.sumN xs), .int .i64 (Fr.sumD xs)]) (.agg #[.int .i64 (Fr.sumN xs), .int .i64 (Fr.sumD xs)])).run Try.prog w = .ok (.bool false) w := fun w => by rw [frac_neq]; simp
        have q2 := fun x y => frac_neqg x y (Fr.sumN xs) (Fr.sumD xs) (Fr.sumN xs) (Fr.sumD xs)
        have hne5 : (Fr.sumB xs != Fr.sumB xs) = false := by simp
        go_wp2_with fail
        refine (sum_m g cap m xs hm _ HROW.out hg).mono ?_
        rintro e wA ⟨rfl, hbA⟩
        have hBA : Below w.heap.size w wA := hB9.trans (hbA.mono hB9.size)
        have HROWA := hide (HROW.out.below hbA hg)
        have hgA : g < wA.heap.size := Nat.lt_of_lt_of_le hg hbA.size
        clear hbA HROW
        go_wp2_with fail
        refine (ssum_m g cap m xs hm _ (HROWA.out.below (below_alloc wA _) hgA) (by simp; omega)).mono ?_
        rintro e wB ⟨rfl, hbB⟩
        have hBB : Below w.heap.size w wB := (hBA.alloc hBA.size _).trans (hbB.mono (by have := hBA.size; simp; omega))
        have hv : Vars2 wB wA.heap.size wA.heap.size (Fr.sumN xs) (Fr.sumD xs) (Fr.sumN xs) (Fr.sumD xs) := Vars2.below (w := wA.alloc (.cells #[.int .i64 (Fr.sumN xs), .int .i64 (Fr.sumD xs)] 24)) ⟨by simp, by simp, by simp [go_sem], by simp [go_sem], by simp [go_sem], by simp [go_sem]⟩ hbB
        have HV := hide hv
        have HROWB := hide ((HROWA.out.below (below_alloc wA (.cells #[.int .i64 (Fr.sumN xs), .int .i64 (Fr.sumD xs)] 24)) hgA).below hbB (by simp; omega))
        have hgB : g < wB.heap.size := Nat.lt_of_lt_of_le (by simp; omega) hbB.size
        obtain ⟨hpB, _, e0, e1, _, _⟩ := hv
        clear hbB HROWA
        cases hsb : Fr.sumB xs
        · go_wp2_with fail
          go_ret
          exact ⟨rfl, hBB.alloc hBB.size _⟩
        · rcases nil_or_snoc xs with rfl | ⟨ys, x, rfl⟩
          · obtain rfl : 0 = m := hm
            go_wp2_with fail
            go_ret
            exact ⟨rfl, hBB.alloc hBB.size _⟩
          · obtain rfl : m = ys.length + 1 := by rw [← hm]; simp
            obtain ⟨k1, k2, k3, k4⟩ := Fr.sum_back ys x hsb
            have HADD := hide (addF_any (Fr.sumN ys) (Fr.sumD ys) x.1 x.2)
            rw [k2, k3, k4] at HADD
            obtain ⟨x1, x2⟩ := x
            clear k2 k3 k4 hm hne5
            generalize hN : Fr.sumN (ys ++ [(x1, x2)]) = N at *
            generalize hD : Fr.sumD (ys ++ [(x1, x2)]) = D at *
            clear hN hD hsb
            have q3 : ∀ w, (binOp .eql 24 (.agg #[.int .i64 N, .int .i64 D]) (.agg #[.int .i64 N, .int .i64 D])).run Try.prog w = .ok (.bool true) w := fun w => by rw [frac_eq]; simp
            have q4 := fun x y => frac_eqg x y N D N D
            go_wp2_with fail
            refine (sum_m g cap ys.length ys rfl _ (HROWB.out.front.1.below (below_alloc wB _) hgB) (by simp; omega)).mono ?_
            rintro e wC ⟨rfl, hbC⟩
            have hBC : Below w.heap.size w wC := (hBB.alloc hBB.size _).trans (hbC.mono (by have := hBB.size; simp; omega))
            have hvC : Vars2 wC wA.heap.size wA.heap.size N D N D := (HV.out.below (below_alloc wB (.cells #[.int .i64 N, .int .i64 D] 24))).below hbC
            have hrC := ((HROWB.out.below (below_alloc wB (.cells #[.int .i64 N, .int .i64 D] 24)) hgB).below hbC (by simp; omega))
            have hgC : g < wC.heap.size := Nat.lt_of_lt_of_le (by simp; omega) hbC.size
            obtain ⟨_, r0, r1⟩ := hrC.front
            obtain ⟨hpC, _, t0, t1, _, _⟩ := hvC
            clear hbC HROWB HV hrC e0 e1 q1 q2
            have hwC := hBC.size
            have HC : (wC.alloc (.cells #[.int .i64 (Fr.sumN ys), .int .i64 (Fr.sumD ys)] 24)).drew.cell? ⟨wC.heap.size, 0, none⟩ = some (.int .i64 (Fr.sumN ys)) ∧ (wC.alloc (.cells #[.int .i64 (Fr.sumN ys), .int .i64 (Fr.sumD ys)] 24)).drew.cell? ⟨wC.heap.size, 1, none⟩ = some (.int .i64 (Fr.sumD ys)) ∧ (wC.alloc (.cells #[.int .i64 (Fr.sumN ys), .int .i64 (Fr.sumD ys)] 24)).drew.cell? ⟨g, ys.length * 2, none⟩ = some (.int .i64 x1) ∧ (wC.alloc (.cells #[.int .i64 (Fr.sumN ys), .int .i64 (Fr.sumD ys)] 24)).drew.cell? ⟨g, ys.length * 2 + 1, none⟩ = some (.int .i64 x2) ∧ (wC.alloc (.cells #[.int .i64 (Fr.sumN ys), .int .i64 (Fr.sumD ys)] 24)).drew.cell? ⟨wA.heap.size, 0, none⟩ = some (.int .i64 N) ∧ (wC.alloc (.cells #[.int .i64 (Fr.sumN ys), .int .i64 (Fr.sumD ys)] 24)).drew.cell? ⟨wA.heap.size, 1, none⟩ = some (.int .i64 D) ∧ Below w.heap.size w (wC.alloc (.cells #[.int .i64 (Fr.sumN ys), .int .i64 (Fr.sumD ys)] 24)).drew ∧ wC.heap.size < (wC.alloc (.cells #[.int .i64 (Fr.sumN ys), .int .i64 (Fr.sumD ys)] 24)).drew.heap.size := by
              refine ⟨?_, ?_, ?_, ?_, ?_, ?_, (hBC.alloc hBC.size _).drew, ?_⟩
              · simp [go_sem]
              · simp [go_sem]
              · exact ((bcell (below_alloc wC _)).1 _ _ hgC).trans r0
              · exact ((bcell (below_alloc wC _)).1 _ _ hgC).trans r1
              · exact ((bcell (below_alloc wC _)).1 _ _ hpC).trans t0
              · exact ((bcell (below_alloc wC _)).1 _ _ hpC).trans t1
              · simp
            obtain ⟨L, hL⟩ : ∃ L, ys.length + 1 = L := ⟨_, rfl⟩
            obtain ⟨j0, j1, j2, j3⟩ := last_at ys.length L hL (by omega)
            rw [hL] at hlen hcap ⊢
            clear hL
            clear t0 t1 r0 r1
            go_upto_region 29 with fail
            go_cut [27, 28] (fun s27 s28 wd => ∃ c, s27 = .pointer (some ⟨c, 0, none⟩) ∧ s28 = .bool true ∧ wd.cell? ⟨c, 0, none⟩ = some (.int .i64 N) ∧ wd.cell? ⟨c, 1, none⟩ = some (.int .i64 D) ∧ wd.cell? ⟨wA.heap.size, 0, none⟩ = some (.int .i64 N) ∧ wd.cell? ⟨wA.heap.size, 1, none⟩ = some (.int .i64 D) ∧ Below w.heap.size w wd)
            case first =>
              go_region_held3 (fun w' => w'.cell? ⟨wC.heap.size, 0, none⟩ = some (.int .i64 (Fr.sumN ys)) ∧ w'.cell? ⟨wC.heap.size, 1, none⟩ = some (.int .i64 (Fr.sumD ys)) ∧ w'.cell? ⟨g, ys.length * 2, none⟩ = some (.int .i64 x1) ∧ w'.cell? ⟨g, ys.length * 2 + 1, none⟩ = some (.int .i64 x2) ∧ w'.cell? ⟨wA.heap.size, 0, none⟩ = some (.int .i64 N) ∧ w'.cell? ⟨wA.heap.size, 1, none⟩ = some (.int .i64 D) ∧ Below w.heap.size w w' ∧ wC.heap.size < w'.heap.size) (first | exact HC | assumption | exact held9_below hgC hpC hwC ‹_› (by assumption) | exact held9_below hgC hpC hwC ‹_› (below_alloc _ _) | exact held9_below hgC hpC hwC ‹_› (below_alloc_drew _ _) | (refine held9_set hgC hpC hwC ?_ ?_ <;> first | assumption | omega) | (refine held9_set hgC hpC hwC (held9_set hgC hpC hwC ?_ ?_) ?_ <;> first | assumption | omega))
                (first | (go_at_call 14; refine (HADD.out _).mono ?_; rintro e wD ⟨rfl, hb⟩; have hS := held9_below hgC hpC hwC ‹_› hb; obtain ⟨hc, hf⟩ := bsome hb; have l0 := hc (wC.heap.size + 1) 0; have l1 := hc (wC.heap.size + 1) 1; have l2 := hf (wC.heap.size + 1) 0; have l3 := hf (wC.heap.size + 1) 1; try simp [go_sem] at l0; try simp [go_sem] at l1; try simp [go_sem] at l2; try simp [go_sem] at l3; have m0 := last_cell hb 0; have m1 := last_cell hb 1; have m2 := last_frozen hb 0; have m3 := last_frozen hb 1; try simp [go_sem] at m0; try simp [go_sem] at m1; try simp [go_sem] at m2; try simp [go_sem] at m3))
              all_goals
                go_wp2_with fail
                go_meet
                case rel =>
                  obtain ⟨p0, p1, p2, p3, p4, p5, p6, p7⟩ := ‹_ ∧ _ ∧ _ ∧ _ ∧ _ ∧ _ ∧ _ ∧ _›
                  refine ⟨_, rfl, rfl, ?c0, ?c1, p4, p5, p6⟩
                  case c0 => first | (simp [go_sem, *]; done) | exact (set2 (by simp [go_sem, *]) (by simp [go_sem, *])).1
                  case c1 => first | (simp [go_sem, *]; done) | exact (set2 (by simp [go_sem, *]) (by simp [go_sem, *])).2.1
            case rest =>
              obtain ⟨c, rfl, rfl, y0, y1, y2, y3, y4⟩ := hcut
              clear HC
              go_wp2_with fail
              go_ret
              exact ⟨rfl, y4⟩
end Go.Proofs.Ytjbmoidhkplomaa
