/-
  What BestTour of the model answers, in one word.
-/
import Derived.Test.YtkiadodoehcbmaaBu11
namespace Go.Proofs.Ytkiadodoehcbmaa
open Go.RowKit

theorem bt_no {L : List (Int × Int)} (h : Rt.stopsB L = false) : Rt.btL L = [] ∧ Rt.btI L = 0 := by
  unfold Rt.btI Rt.btL; rw [h]; exact ⟨rfl, rfl⟩
theorem bt_is {L : List (Int × Int)} {n : Nat} (hl : L.length = n) (h : Rt.stopsB L = true) : Rt.btL L = cst (Rt.bo L n (n - 1) [0]) ∧ Rt.btI L = Rt.tour L (cst (Rt.bo L n (n - 1) [0])) ∧ Rt.Bg n 0 (Rt.bo L n (n - 1) [0]) := by
  have h1 := (Rt.stops_len h).1
  have e1 : Rt.btL L = cst (Rt.bo L n (n - 1) [0]) := by unfold Rt.btL Rt.btN; rw [if_pos h, hl]; rfl
  refine ⟨e1, ?_, (Rt.bo_all L n (n - 1) (Rt.bg_zero (by omega))).2⟩
  unfold Rt.btI
  rw [if_pos h, e1]
theorem bt_le (L : List (Int × Int)) : (Rt.btL L).length ≤ 1048576 := by
  cases h : Rt.stopsB L
  · rw [(bt_no h).1]; simp
  · obtain ⟨e1, _, hb⟩ := bt_is rfl h
    have := hb.len
    have := (Rt.stops_len h).2
    rw [e1, cst_len]; omega
/-- What BestTour answers. -/
def BT (w w' : World) (L : List (Int × Int)) (e : Ending) : Prop := ∃ v, e = .returned (.tuple #[v, .int .i64 (Rt.btI L), .bool (Rt.stopsB L)]) ∧ Below w.heap.size w w' ∧ AV w' w.heap.size w'.heap.size v (Rt.btL L).length (Rt.btL L)
theorem one_zero (w : World) : ARow (w.alloc (.cells #[.int .i64 0] 3)) (some ⟨w.heap.size, 0, none⟩) (cst [0]) := by
  refine Or.inr ⟨w.heap.size, 0, rfl, by simp, fun i hi => ?_⟩
  have : i = 0 := by simp [cst] at hi; omega
  subst this
  simp [cst]
set_option maxHeartbeats 2000000 in
theorem sbt_w {a : Option Addr} {n c : Nat} {L : List (Int × Int)} {w : World} (hl : L.length = n) (hn : n ≤ 1048576) (ha : FRow w a L) :
    Calls Try.prog 21 #[.slice a n c] w fun e w' => BT w w' L e := by
  have HL := hide hl
  have HA := hide ha
  cases hg : Rt.stopsB L
  · obtain ⟨e1, e2⟩ := bt_no hg
    have HE : Hid (∀ w' e, Below w.heap.size w w' → e = .returned (.tuple #[.slice none 0 0, .int .i64 0, .bool false]) → BT w w' L e) := hide fun w' e hb he => ⟨.slice none 0 0, by rw [he, e2, hg], hb, by rw [e1]; exact av_none _ _⟩
    have HG := hide hg
    clear hg e1 e2 ha hl
    go_enter Try.func21, Try.ntmps21
    go_wp2_with fail
    refine (sgst_eq HL hn HA HG).mono ?_
    rintro e w1 ⟨rfl, hb1⟩
    go_wp2_with fail
    exact bodyPost_ret (v := .tuple #[.slice none 0 0, .int .i64 0, .bool false]) (by simp [results, Try.results21, go_sem]) rfl (HE.out _ _ hb1 rfl)
  · obtain ⟨s1, s2⟩ := Rt.stops_len hg
    have n7 : n ≤ 7 := by omega
    have n1 : 1 ≤ n := by omega
    obtain ⟨e1, e2, e3⟩ := bt_is hl hg
    have HG := hide hg
    have HS := hide (Rt.stops_all hg)
    have HFR := hide fun (W : World) (h : Below w.heap.size w W) => ha.below h
    have HBO := hide fun (W : World) (h : Below w.heap.size w W) => sbo_any (a := a) (a' := some ⟨W.heap.size, 0, none⟩) (c := c) (d := 1) (m := 1) (b := [0]) (w := W.alloc (.cells #[.int .i64 0] 3)) HL n1 n7 HS (n - 1) (hide (Rt.bg_zero n1)) (hide rfl) (by omega) (hide ((ha.below h).below (below_alloc W _))) (hide (one_zero W))
    have HE : Hid (∀ w' (lo : Nat) (v : Value) e, w.heap.size ≤ lo → Below w.heap.size w w' → w'.ownsRow lo 3 1 v n (ints (cst (Rt.bo L n (n - 1) [0]))) → e = .returned (.tuple #[v, .int .i64 (Rt.tour L (cst (Rt.bo L n (n - 1) [0]))), .bool true]) → BT w w' L e) := hide fun w' lo v e hlo hb ho he => by
      refine ⟨v, by rw [he, e2, hg], hb, ?_⟩
      have := e3.len
      rw [e1, cst_len, show (Rt.bo L n (n - 1) [0]).length = n by omega]
      exact AV.new (owns_low ho hlo)
    have HIN := hide (Rt.bg_in hl e3)
    have HK : Hid ((cst (Rt.bo L n (n - 1) [0])).length = n) := hide (by rw [cst_len]; have := e3.len; omega)
    generalize Rt.bo L n (n - 1) [0] = K at *
    clear ha hl hg s1 s2 e1 e2 e3
    go_enter Try.func21, Try.ntmps21
    go_wp2_with fail
    refine (sgst_eq HL hn HA HG).mono ?_
    rintro e w1 ⟨rfl, hb1⟩
    have HB1 := hide (HBO.out _ hb1)
    have B1 := hide hb1
    clear hb1 HBO
    go_wp2_with fail
    refine HB1.out.mono ?_
    rintro e w2 ⟨v2, rfl, own2, hb2⟩
    obtain ⟨a2, c2, rfl, r2⟩ := own_row HK.out own2
    have hA := below_alloc w1 (.cells #[.int .i64 0] 3)
    have hB2 : Below w.heap.size w w2 := (B1.out.trans (hA.mono B1.out.size)).trans (hb2.mono (by have := B1.out.size; have := hA.size; omega))
    have B2 := hide hB2
    have HO2 : Hid (w2.ownsRow w.heap.size 3 1 (.slice a2 n c2) n (ints (cst K))) := hide (owns_low own2 (by have := B1.out.size; have := hA.size; omega))
    have HRC := hide (src_any (w := w2) (c := c) (d := c2) (os := cst K) HL HK n1 n7 HS HIN (hide (HFR.out _ hB2)) (hide r2))
    clear own2 hb2 r2 hA hB2 HB1 B1
    go_wp2_with fail
    refine HRC.out.mono ?_
    rintro e w3 ⟨rfl, hb3⟩
    have B3 := hide (bw_below B2.out hb3)
    have HO3 := hide (own_below HO2.out hb3)
    clear hb3 HO2 B2 HRC
    go_wp2_with fail
    exact bodyPost_ret (v := .tuple #[.slice a2 n c2, .int .i64 (Rt.tour L (cst K)), .bool true]) (by simp [results, Try.results21, go_sem]) rfl (HE.out _ _ _ _ (Nat.le_refl _) B3.out HO3.out rfl)
end Go.Proofs.Ytkiadodoehcbmaa
