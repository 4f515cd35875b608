/-
  Trees: joints in memory; what isNearer, firstBest over joints, and slices.Contains over bools answer.
-/
import Derived.Test.YtkiadodoehcbmaaRi11
import Derived.Deep.AppendLies
namespace Go.Proofs.Ytkiadodoehcbmaa
open Go.RowKit

def jce (L : List (Int × Int)) (P : List (Nat × Nat)) : List Value := P.flatMap fun p => [.int .i64 (p.1 : Int), .int .i64 (p.2 : Int), .int .i64 (Rt.wp L p)]
theorem jce_len (L : List (Int × Int)) (P : List (Nat × Nat)) : (jce L P).length = P.length * 3 := by
  induction P with
  | nil => rfl
  | cons p r ih => simp only [jce, List.flatMap_cons, List.length_append, List.length_cons, List.length_nil] at *; omega
theorem jce_snoc (L : List (Int × Int)) (P : List (Nat × Nat)) (p : Nat × Nat) : jce L (P ++ [p]) = jce L P ++ [.int .i64 (p.1 : Int), .int .i64 (p.2 : Int), .int .i64 (Rt.wp L p)] := by simp [jce]
theorem jce_get (L : List (Int × Int)) : ∀ (P : List (Nat × Nat)) (i : Nat), i < P.length → (jce L P)[i * 3]? = some (.int .i64 ((P.getD i (0, 0)).1 : Int)) ∧ (jce L P)[i * 3 + 1]? = some (.int .i64 ((P.getD i (0, 0)).2 : Int)) ∧ (jce L P)[i * 3 + 2]? = some (.int .i64 (Rt.wp L (P.getD i (0, 0))))
  | [], i, h => by simp at h
  | p :: r, 0, _ => by simp [jce]
  | p :: r, i + 1, h => by
    have ih := jce_get L r i (by simpa using h)
    have e : jce L (p :: r) = [.int .i64 (p.1 : Int), .int .i64 (p.2 : Int), .int .i64 (Rt.wp L p)] ++ jce L r := by simp [jce]
    rw [e, List.getD_cons_succ]
    have h3 : ([.int .i64 (p.1 : Int), .int .i64 (p.2 : Int), .int .i64 (Rt.wp L p)] : List Value).length = 3 := rfl
    refine ⟨?_, ?_, ?_⟩
    · rw [List.getElem?_append_right (by rw [h3]; omega), h3, show (i + 1) * 3 - 3 = i * 3 by omega]; exact ih.1
    · rw [List.getElem?_append_right (by rw [h3]; omega), h3, show (i + 1) * 3 + 1 - 3 = i * 3 + 1 by omega]; exact ih.2.1
    · rw [List.getElem?_append_right (by rw [h3]; omega), h3, show (i + 1) * 3 + 2 - 3 = i * 3 + 2 by omega]; exact ih.2.2
/-- Joints in a block. -/
def JAt (w : World) (b : Nat) (L : List (Int × Int)) (P : List (Nat × Nat)) : Prop := b < w.heap.size ∧ ∀ i, i < P.length → w.cell? ⟨b, i * 3, none⟩ = some (.int .i64 ((P.getD i (0, 0)).1 : Int)) ∧ w.cell? ⟨b, i * 3 + 1, none⟩ = some (.int .i64 ((P.getD i (0, 0)).2 : Int)) ∧ w.cell? ⟨b, i * 3 + 2, none⟩ = some (.int .i64 (Rt.wp L (P.getD i (0, 0))))
theorem JAt.below {w w' : World} {b : Nat} {L : List (Int × Int)} {P : List (Nat × Nat)} (h : JAt w b L P) (hb : Below w.heap.size w w') : JAt w' b L P :=
  ⟨Nat.lt_of_lt_of_le h.1 hb.size, fun i hi => ⟨(hb.cell (p := ⟨b, i * 3, none⟩) h.1).trans (h.2 i hi).1, (hb.cell (p := ⟨b, i * 3 + 1, none⟩) h.1).trans (h.2 i hi).2.1, (hb.cell (p := ⟨b, i * 3 + 2, none⟩) h.1).trans (h.2 i hi).2.2⟩⟩
set_option maxHeartbeats 400000 in
theorem in_any' (x y z u v t : Int) (w : World) :
    Calls Try.prog 58 #[.agg #[.int .i64 x, .int .i64 y, .int .i64 z], .agg #[.int .i64 u, .int .i64 v, .int .i64 t]] w fun e w' => e = .returned (.bool (decide (z < t))) ∧ Below w.heap.size w w' := by
  have HB := hide (below_two w (.cells #[.int .i64 x, .int .i64 y, .int .i64 z] 62) (.cells #[.int .i64 u, .int .i64 v, .int .i64 t] 62))
  go_enter Try.func58, Try.ntmps58
  go_wp2_with fail
  go_ret
  exact ⟨rfl, HB.out⟩
theorem near_eq {x y z u v t : Int} {w : World} {r : Bool} (h : Hid (decide (z < t) = r)) :
    Calls Try.prog 58 #[.agg #[.int .i64 x, .int .i64 y, .int .i64 z], .agg #[.int .i64 u, .int .i64 v, .int .i64 t]] w fun e w' => e = .returned (.bool r) ∧ Below w.heap.size w w' := h.out ▸ in_any' x y z u v t w
theorem six_keep {W w1 w2 : World} {b o1 o2 o3 o4 o5 o6 : Nat} {v1 v2 v3 v4 v5 v6 : Value}
    (s : w1.cell? ⟨b, o1, none⟩ = some v1 ∧ w1.cell? ⟨b, o2, none⟩ = some v2 ∧ w1.cell? ⟨b, o3, none⟩ = some v3 ∧ w1.cell? ⟨b, o4, none⟩ = some v4 ∧ w1.cell? ⟨b, o5, none⟩ = some v5 ∧ w1.cell? ⟨b, o6, none⟩ = some v6 ∧ Below W.heap.size W w1) (h : Below w1.heap.size w1 w2) :
    w2.cell? ⟨b, o1, none⟩ = some v1 ∧ w2.cell? ⟨b, o2, none⟩ = some v2 ∧ w2.cell? ⟨b, o3, none⟩ = some v3 ∧ w2.cell? ⟨b, o4, none⟩ = some v4 ∧ w2.cell? ⟨b, o5, none⟩ = some v5 ∧ w2.cell? ⟨b, o6, none⟩ = some v6 ∧ Below W.heap.size W w2 := by
  obtain ⟨s1, s2, s3, s4, s5, s6, s7⟩ := s
  have hl := World.block_lt_of_cell? w1 _ s1
  exact ⟨(h.cell (p := ⟨b, o1, none⟩) hl).trans s1, (h.cell (p := ⟨b, o2, none⟩) hl).trans s2, (h.cell (p := ⟨b, o3, none⟩) hl).trans s3, (h.cell (p := ⟨b, o4, none⟩) hl).trans s4, (h.cell (p := ⟨b, o5, none⟩) hl).trans s5, (h.cell (p := ⟨b, o6, none⟩) hl).trans s6, bw_below s7 h⟩
set_option maxHeartbeats 4000000 in
theorem fj_any {b n cap : Nat} {L : List (Int × Int)} {P : List (Nat × Nat)} {w : World} (hr : Hid (JAt w b L P)) (hn : Hid (P.length = n)) (h0 : 0 < n) (h8 : n ≤ 1000) :
    Calls Try.prog 57 #[.slice (some ⟨b, 0, none⟩) n cap, .func (.func 58) #[] #[]] w fun e w' => e = .returned (.int .i64 ((Rt.bi (Rt.wp L) (0, 0) P n : Nat) : Int)) ∧ Below w.heap.size w w' := by
  go_enter Try.func57, Try.ntmps57
  go_wp2_with fail
  go_loopw [5, 6, 9] (fun s5 _ s wr => ∃ k m : Nat, s5 = .int .i64 m ∧ s = .int .i64 k ∧ k ≤ n ∧ m < n ∧ Hid (m = Rt.bi (Rt.wp L) (0, 0) P k) ∧ Below w.heap.size w wr) (fun _ _ s _ => n - (intOf s).toNat)
  case atStart => exact ⟨0, 0, rfl, rfl, Nat.zero_le _, h0, hide rfl, Below.refl _ _⟩
  case round =>
    obtain ⟨k, m, rfl, rfl, hk, hmn, HM, hB⟩ := hrel
    by_cases hlt : k < n
    · obtain ⟨r0, r1, r2⟩ := (hr.out.below hB).2 k (by rw [hn.out]; exact hlt)
      obtain ⟨r3, r4, r5⟩ := (hr.out.below hB).2 m (by rw [hn.out]; exact hmn)
      have HS : Hid (Rt.bi (Rt.wp L) (0, 0) P (k + 1) = if Rt.wp L (P.getD k (0, 0)) < Rt.wp L (P.getD m (0, 0)) then k else m) := hide (by rw [Rt.bi, ← HM.out])
      have i0 : (0 : Int) ≤ (k : Int) := by omega
      have i1 : (k : Int) < (n : Int) := by omega
      have j0 : (0 : Int) ≤ (m : Int) := by omega
      have j1 : (m : Int) < (n : Int) := by omega
      generalize Rt.wp L (P.getD k (0, 0)) = Y1 at *
      generalize Rt.wp L (P.getD m (0, 0)) = Y2 at *
      generalize ((P.getD k (0, 0)).1 : Int) = p1 at *
      generalize ((P.getD k (0, 0)).2 : Int) = p2 at *
      generalize ((P.getD m (0, 0)).1 : Int) = q1 at *
      generalize ((P.getD m (0, 0)).2 : Int) = q2 at *
      by_cases hc : Y1 < Y2
      · have HN : Hid (k = Rt.bi (Rt.wp L) (0, 0) P (k + 1)) := hide (by rw [HS.out, if_pos hc])
        have HD : Hid (decide (Y1 < Y2) = true) := hide (by simpa using hc)
        clear hc HS
        go_wp2_with fail
        go_region_held3 (fun w' => w'.cell? ⟨b, k * 3, none⟩ = some (.int .i64 p1) ∧ w'.cell? ⟨b, k * 3 + 1, none⟩ = some (.int .i64 p2) ∧ w'.cell? ⟨b, k * 3 + 2, none⟩ = some (.int .i64 Y1) ∧ w'.cell? ⟨b, m * 3, none⟩ = some (.int .i64 q1) ∧ w'.cell? ⟨b, m * 3 + 1, none⟩ = some (.int .i64 q2) ∧ w'.cell? ⟨b, m * 3 + 2, none⟩ = some (.int .i64 Y2) ∧ Below w.heap.size w w')
          (first | exact ⟨r0, r1, r2, r3, r4, r5, hB.drew⟩ | assumption | exact six_keep ‹_› (by assumption) | fail)
          (first | (go_at_call 58; refine (near_eq HD).mono ?_; rintro e w1 ⟨rfl, hb1⟩) | fail)
        obtain ⟨_, _, _, _, _, _, hB2⟩ := ‹_ ∧ _ ∧ _ ∧ _ ∧ _ ∧ _ ∧ Below w.heap.size w _›
        go_wp2_with fail
        go_roundw
        case rel => exact ⟨k + 1, k, rfl, by go_num, by omega, hlt, HN, hB2⟩
        case measure => simp only [intOf]; omega
      · have HN : Hid (m = Rt.bi (Rt.wp L) (0, 0) P (k + 1)) := hide (by rw [HS.out, if_neg hc])
        have HD : Hid (decide (Y1 < Y2) = false) := hide (by simpa using hc)
        clear hc HS
        go_wp2_with fail
        go_region_held3 (fun w' => w'.cell? ⟨b, k * 3, none⟩ = some (.int .i64 p1) ∧ w'.cell? ⟨b, k * 3 + 1, none⟩ = some (.int .i64 p2) ∧ w'.cell? ⟨b, k * 3 + 2, none⟩ = some (.int .i64 Y1) ∧ w'.cell? ⟨b, m * 3, none⟩ = some (.int .i64 q1) ∧ w'.cell? ⟨b, m * 3 + 1, none⟩ = some (.int .i64 q2) ∧ w'.cell? ⟨b, m * 3 + 2, none⟩ = some (.int .i64 Y2) ∧ Below w.heap.size w w')
          (first | exact ⟨r0, r1, r2, r3, r4, r5, hB.drew⟩ | assumption | exact six_keep ‹_› (by assumption) | fail)
          (first | (go_at_call 58; refine (near_eq HD).mono ?_; rintro e w1 ⟨rfl, hb1⟩) | fail)
        obtain ⟨_, _, _, _, _, _, hB2⟩ := ‹_ ∧ _ ∧ _ ∧ _ ∧ _ ∧ _ ∧ Below w.heap.size w _›
        go_wp2_with fail
        go_roundw
        case rel => exact ⟨k + 1, m, rfl, by go_num, by omega, hmn, HN, hB2⟩
        case measure => simp only [intOf]; omega
    · have hke : k = n := by omega
      subst hke
      go_wp2_with fail
      go_ret
      exact ⟨ret_int (by rw [← HM.out]), hB⟩
/-- Bools in a block. -/
def BAt (w : World) (g : Nat) (J : List Bool) : Prop := g < w.heap.size ∧ ∀ i, i < J.length → w.cell? ⟨g, i, none⟩ = some (.bool (J.getD i false))
theorem BAt.below {w w' : World} {g : Nat} {J : List Bool} (h : BAt w g J) (hb : Below w.heap.size w w') : BAt w' g J :=
  ⟨Nat.lt_of_lt_of_le h.1 hb.size, fun i hi => (hb.cell (p := ⟨g, i, none⟩) h.1).trans (h.2 i hi)⟩
theorem has_false {J : List Bool} {k : Nat} (hk : k < J.length) (h : J.getD k false = false) : J.contains false = true := by
  rw [List.contains_eq_mem, decide_eq_true_eq]
  rw [List.getD_eq_getElem?_getD, List.getElem?_eq_getElem hk] at h
  exact h ▸ List.getElem_mem hk
theorem no_false {J : List Bool} (h : ∀ i, i < J.length → J.getD i false = true) : J.contains false = false := by
  cases e : J.contains false
  · rfl
  · rw [List.contains_eq_mem, decide_eq_true_eq] at e
    obtain ⟨i, hi, he⟩ := List.getElem_of_mem e
    have := h i hi
    rw [List.getD_eq_getElem?_getD, List.getElem?_eq_getElem hi] at this
    simp [he] at this
def IbP (J : List Bool) (w : World) (e : Ending) (w' : World) : Prop := (∃ z : Int, e = .returned (.int .i64 z) ∧ decide (0 ≤ z) = J.contains false ∧ -1 ≤ z ∧ z ≤ 1000) ∧ w' = w
set_option maxHeartbeats 1000000 in
theorem ib_any {g n cap : Nat} {J : List Bool} {w : World} (hn : Hid (J.length = n)) (h7 : n ≤ 1000) (h : Hid (BAt w g J)) :
    Calls Try.prog 56 #[.slice (some ⟨g, 0, none⟩) n cap, .bool false] w (IbP J w) := by
  go_enter Try.func56, Try.ntmps56
  go_wp2_with fail
  go_loop [5, 8] (fun _ s => ∃ k : Nat, s = .int .i64 k ∧ k ≤ n ∧ Hid (∀ i, i < k → J.getD i false = true)) (fun _ s => n - (intOf s).toNat)
  case atStart => exact ⟨0, rfl, Nat.zero_le _, hide fun i hi => absurd hi (Nat.not_lt_zero _)⟩
  case round =>
    obtain ⟨k, rfl, hk, HK⟩ := hrel
    by_cases hlt : k < n
    · have r := h.out.2 k (by rw [hn.out]; exact hlt)
      have i0 : (0 : Int) ≤ (k : Int) := by omega
      have i1 : (k : Int) < (n : Int) := by omega
      cases hc : J.getD k false
      · have HY := hide (has_false (by rw [hn.out]; exact hlt) hc)
        rw [hc] at r
        clear hc
        go_wp2_with fail
        go_ret
        exact ⟨⟨_, rfl, (decide_eq_true (by omega)).trans HY.out.symm, by omega, by omega⟩, rfl⟩
      · have HK2 : Hid (∀ i, i < k + 1 → J.getD i false = true) := hide fun i hi => by
          by_cases e : i = k
          · subst e; exact hc
          · exact HK.out i (by omega)
        rw [hc] at r
        clear hc
        go_wp2_with fail
        go_round
        case rel => exact ⟨k + 1, by go_num, by omega, HK2⟩
        case measure => simp only [intOf]; omega
    · have hke : k = n := by omega
      subst hke
      have HN := hide (no_false (J := J) (by rw [hn.out]; exact HK.out))
      go_wp2_with fail
      go_ret
      exact ⟨⟨_, rfl, (decide_eq_false (by omega)).trans HN.out.symm, by omega, by omega⟩, rfl⟩
set_option maxHeartbeats 1000000 in
theorem cb_any {g n cap : Nat} {J : List Bool} {w : World} {r : Bool} (hn : Hid (J.length = n)) (h7 : n ≤ 1000) (h : Hid (BAt w g J)) (hr : Hid (J.contains false = r)) :
    Calls Try.prog 45 #[.slice (some ⟨g, 0, none⟩) n cap, .bool false] w fun e w' => e = .returned (.bool r) ∧ w' = w := by
  go_enter Try.func45, Try.ntmps45
  go_wp2_with fail
  refine (ib_any hn h7 h).mono ?_
  rintro e w1 ⟨⟨z, rfl, hz, z0, z1⟩, hw⟩
  obtain rfl : w = w1 := hw.symm
  rw [hr.out] at hz
  cases r
  · have hz' : ¬ (0 : Int) ≤ z := by simpa using hz
    clear hz
    go_wp2_with fail
    go_ret
    exact ⟨ret_bool (by first | rfl | (simp; omega)), rfl⟩
  · have hz' : (0 : Int) ≤ z := by simpa using hz
    clear hz
    go_wp2_with fail
    go_ret
    exact ⟨ret_bool (by first | rfl | (simp; omega)), rfl⟩
end Go.Proofs.Ytkiadodoehcbmaa
