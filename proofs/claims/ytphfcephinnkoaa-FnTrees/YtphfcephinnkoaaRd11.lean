/-
  What WayBetween and OnWay of the program and of the model answer, in one word each.
-/
import Derived.Test.YtphfcephinnkoaaRc11
import Derived.Deep.DeepCutAuto
namespace Go.Proofs.Ytphfcephinnkoaa.Rt
def wbB (s t : Int × Int) : Bool := spotB s && spotB t
def wbI (s t : Int × Int) : Int := if wbB s t then way s t else 0
def owB (s t u : Int × Int) : Bool := spotB s && (spotB t && spotB u)
def owI (s t u : Int × Int) : Bool := owB s t u && decide (way s t + way t u = way s u)
theorem all_two (s t : Int × Int) : allS [s, t] = wbB s t := by
  simp [allS, wbB, List.range_succ]
theorem all_three (s t u : Int × Int) : allS [s, t, u] = owB s t u := by
  simp [allS, owB, List.range_succ]
end Go.Proofs.Ytphfcephinnkoaa.Rt
namespace Go.Proofs.Ytphfcephinnkoaa
open Go.RowKit
abbrev spV (s : Int × Int) : Value := .agg #[.int .i64 s.1, .int .i64 s.2]
theorem frow_two (W : World) (s t : Int × Int) (ty : TypeId) : FRow (W.alloc (.cells #[.int .i64 s.1, .int .i64 s.2, .int .i64 t.1, .int .i64 t.2] ty)) (some ⟨W.heap.size, 0, none⟩) [s, t] := by
  refine Or.inr ⟨_, 0, rfl, by simp, fun i hi => ?_⟩
  have : i = 0 ∨ i = 1 := by simp at hi; omega
  rcases this with rfl | rfl <;> simp
theorem frow_three (W : World) (s t u : Int × Int) (ty : TypeId) : FRow (W.alloc (.cells #[.int .i64 s.1, .int .i64 s.2, .int .i64 t.1, .int .i64 t.2, .int .i64 u.1, .int .i64 u.2] ty)) (some ⟨W.heap.size, 0, none⟩) [s, t, u] := by
  refine Or.inr ⟨_, 0, rfl, by simp, fun i hi => ?_⟩
  have : i = 0 ∨ i = 1 ∨ i = 2 := by simp at hi; omega
  rcases this with rfl | rfl | rfl <;> simp
theorem as_two {W : World} {s t : Int × Int} {ty : TypeId} {r : Bool} (h : Hid (Rt.wbB s t = r)) :
    Calls Try.prog 32 #[.slice (some ⟨W.heap.size, 0, none⟩) 2 2] (W.alloc (.cells #[.int .i64 s.1, .int .i64 s.2, .int .i64 t.1, .int .i64 t.2] ty)) fun e w' => e = .returned (.bool r) ∧ Below W.heap.size W w' := by
  refine (as_eq (L := [s, t]) (n := 2) (c := 2) (hide rfl) (by omega) (hide (frow_two W s t ty)) (hide ((Rt.all_two s t).trans h.out))).mono ?_
  rintro e w' ⟨rfl, hb⟩
  have h1 := below_new W (.cells #[.int .i64 s.1, .int .i64 s.2, .int .i64 t.1, .int .i64 t.2] ty)
  exact ⟨rfl, h1.trans (hb.mono h1.size)⟩
set_option maxRecDepth 100000 in
set_option maxHeartbeats 1000000 in
theorem wb_w (s t : Int × Int) (w : World) :
    Calls Try.prog 19 #[.agg #[.int .i64 s.1, .int .i64 s.2], .agg #[.int .i64 t.1, .int .i64 t.2]] w fun e w' => e = .returned (.tuple #[.int .i64 (Rt.wbI s t), .bool (Rt.wbB s t)]) ∧ Below w.heap.size w w' := by
  have HB := hide (below_two w (.cells #[.int .i64 s.1, .int .i64 s.2] 35) (.cells #[.int .i64 t.1, .int .i64 t.2] 35))
  have c0 : ((w.alloc (.cells #[.int .i64 s.1, .int .i64 s.2] 35)).alloc (.cells #[.int .i64 t.1, .int .i64 t.2] 35)).cell? ⟨w.heap.size, 0, none⟩ = some (.int .i64 s.1) := by simp
  have c1 : ((w.alloc (.cells #[.int .i64 s.1, .int .i64 s.2] 35)).alloc (.cells #[.int .i64 t.1, .int .i64 t.2] 35)).cell? ⟨w.heap.size, 1, none⟩ = some (.int .i64 s.2) := by simp
  have c2 : ((w.alloc (.cells #[.int .i64 s.1, .int .i64 s.2] 35)).alloc (.cells #[.int .i64 t.1, .int .i64 t.2] 35)).cell? ⟨w.heap.size + 1, 0, none⟩ = some (.int .i64 t.1) := by simp
  have c3 : ((w.alloc (.cells #[.int .i64 s.1, .int .i64 s.2] 35)).alloc (.cells #[.int .i64 t.1, .int .i64 t.2] 35)).cell? ⟨w.heap.size + 1, 1, none⟩ = some (.int .i64 t.2) := by simp
  have hsz : ((w.alloc (.cells #[.int .i64 s.1, .int .i64 s.2] 35)).alloc (.cells #[.int .i64 t.1, .int .i64 t.2] 35)).heap.size = w.heap.size + 2 := by simp
  obtain ⟨W, hW⟩ : ∃ W, (w.alloc (.cells #[.int .i64 s.1, .int .i64 s.2] 35)).alloc (.cells #[.int .i64 t.1, .int .i64 t.2] 35) = W := ⟨_, rfl⟩
  rw [hW] at HB c0 c1 c2 c3 hsz
  have HW := hide hW
  have HZ := hide hsz
  clear hsz
  obtain ⟨G, hG⟩ : ∃ G, Rt.wbB s t = G := ⟨_, rfl⟩
  have HG := hide hG
  have HAS := hide (as_two (W := W) (ty := 3) HG)
  have HAT := hide fun (ty : TypeId) => as_two (W := W) (ty := ty) HG
  have HWT := hide fun (h : G = true) (V : World) => wt_any (s := s) (t := t) (w := V) (by rw [h] at hG; simp only [Rt.wbB, Bool.and_eq_true] at hG; exact hG.1) (by rw [h] at hG; simp only [Rt.wbB, Bool.and_eq_true] at hG; exact hG.2)
  have HI : Hid (Rt.wbI s t = if G then Rt.way s t else 0) := hide (by unfold Rt.wbI; rw [hG])
  rw [hG]
  generalize Rt.wbI s t = R at *
  generalize Rt.way s t = Y at *
  clear hW hG HAS
  obtain ⟨x, y⟩ := s
  obtain ⟨u, v⟩ := t
  simp only at *
  go_enter Try.func19, Try.ntmps19
  go_upto_region 1 with fail
  rw [HW.out]
  clear HW
  cases G
  · have HR : Hid (0 = R) := hide (by rw [HI.out]; rfl)
    go_wp2_with fail
    refine (HAT.out _).mono ?_
    rintro e w2 ⟨rfl, hb2⟩
    have HB2 := hide (HB.out.trans (hb2.mono HB.out.size))
    clear hb2 HB
    go_wp2_with fail
    go_ret2
    exact ⟨by rw [← HR.out]; rfl, HB2.out⟩
  · have HR : Hid (Y = R) := hide (by rw [HI.out]; rfl)
    go_wp2_with fail
    refine (HAT.out _).mono ?_
    rintro e w2 ⟨rfl, hb2⟩
    have d0 := (hb2.cell (p := ⟨w.heap.size, 0, none⟩) (by show w.heap.size < _; have := HZ.out; omega)).trans c0
    have d1 := (hb2.cell (p := ⟨w.heap.size, 1, none⟩) (by show w.heap.size < _; have := HZ.out; omega)).trans c1
    have d2 := (hb2.cell (p := ⟨w.heap.size + 1, 0, none⟩) (by show w.heap.size + 1 < _; have := HZ.out; omega)).trans c2
    have d3 := (hb2.cell (p := ⟨w.heap.size + 1, 1, none⟩) (by show w.heap.size + 1 < _; have := HZ.out; omega)).trans c3
    have HB2 := hide (HB.out.trans (hb2.mono HB.out.size))
    clear hb2 HB c0 c1 c2 c3
    go_wp2_with fail
    refine (HWT.out trivial _).mono ?_
    rintro e w3 ⟨rfl, hb3⟩
    have HB3 := hide (HB2.out.trans (hb3.mono HB2.out.size))
    clear hb3 HB2
    go_wp2_with fail
    go_ret2
    exact ⟨by rw [← HR.out]; rfl, HB3.out⟩
set_option maxRecDepth 100000 in
set_option maxHeartbeats 1000000 in
theorem swb_w (s t : Int × Int) (w : World) :
    Calls Try.prog 21 #[.agg #[.int .i64 s.1, .int .i64 s.2], .agg #[.int .i64 t.1, .int .i64 t.2]] w fun e w' => e = .returned (.tuple #[.int .i64 (Rt.wbI s t), .bool (Rt.wbB s t)]) ∧ Below w.heap.size w w' := by
  have HB := hide (below_two w (.cells #[.int .i64 s.1, .int .i64 s.2] 35) (.cells #[.int .i64 t.1, .int .i64 t.2] 35))
  have c0 : ((w.alloc (.cells #[.int .i64 s.1, .int .i64 s.2] 35)).alloc (.cells #[.int .i64 t.1, .int .i64 t.2] 35)).cell? ⟨w.heap.size, 0, none⟩ = some (.int .i64 s.1) := by simp
  have c1 : ((w.alloc (.cells #[.int .i64 s.1, .int .i64 s.2] 35)).alloc (.cells #[.int .i64 t.1, .int .i64 t.2] 35)).cell? ⟨w.heap.size, 1, none⟩ = some (.int .i64 s.2) := by simp
  have c2 : ((w.alloc (.cells #[.int .i64 s.1, .int .i64 s.2] 35)).alloc (.cells #[.int .i64 t.1, .int .i64 t.2] 35)).cell? ⟨w.heap.size + 1, 0, none⟩ = some (.int .i64 t.1) := by simp
  have c3 : ((w.alloc (.cells #[.int .i64 s.1, .int .i64 s.2] 35)).alloc (.cells #[.int .i64 t.1, .int .i64 t.2] 35)).cell? ⟨w.heap.size + 1, 1, none⟩ = some (.int .i64 t.2) := by simp
  have hsz : ((w.alloc (.cells #[.int .i64 s.1, .int .i64 s.2] 35)).alloc (.cells #[.int .i64 t.1, .int .i64 t.2] 35)).heap.size = w.heap.size + 2 := by simp
  obtain ⟨W, hW⟩ : ∃ W, (w.alloc (.cells #[.int .i64 s.1, .int .i64 s.2] 35)).alloc (.cells #[.int .i64 t.1, .int .i64 t.2] 35) = W := ⟨_, rfl⟩
  rw [hW] at HB c0 c1 c2 c3 hsz
  have HW := hide hW
  have HZ := hide hsz
  have HI : Hid (Rt.wbI s t = if Rt.spotB s && Rt.spotB t then Rt.way s t else 0) := hide rfl
  have HG : Hid (Rt.wbB s t = (Rt.spotB s && Rt.spotB t)) := hide rfl
  have HWT := hide fun (h1 : Rt.spotB s = true) (h2 : Rt.spotB t = true) (V : World) => lw_any (s := s) (t := t) (w := V) h1 h2
  have HL1 := hide fun (V : World) => ls_any s.1 s.2 V
  have HL2 := hide fun (V : World) => ls_any t.1 t.2 V
  generalize Rt.wbI s t = R at *
  generalize Rt.wbB s t = G at *
  generalize Rt.way s t = Y at *
  obtain ⟨x, y⟩ := s
  obtain ⟨u, v⟩ := t
  generalize Rt.spotB (x, y) = P at *
  generalize Rt.spotB (u, v) = Q at *
  clear hW hsz
  simp only at *
  go_enter Try.func21, Try.ntmps21
  go_upto_region 1 with fail
  rw [HW.out]
  clear HW
  cases P
  · have HR : Hid (0 = R ∧ false = G) := hide (by rw [HI.out, HG.out]; exact ⟨rfl, rfl⟩)
    go_wp2_with fail
    refine (HL1.out _).mono ?_
    rintro e w2 ⟨rfl, hb2⟩
    have HB2 := hide (HB.out.trans (hb2.mono HB.out.size))
    clear hb2 HB
    go_wp2_with fail
    go_ret2
    exact ⟨by rw [← HR.out.1, ← HR.out.2]; rfl, HB2.out⟩
  · go_wp2_with fail
    refine (HL1.out _).mono ?_
    rintro e w2 ⟨rfl, hb2⟩
    have d0 := (hb2.cell (p := ⟨w.heap.size, 0, none⟩) (by show w.heap.size < _; have := HZ.out; omega)).trans c0
    have d1 := (hb2.cell (p := ⟨w.heap.size, 1, none⟩) (by show w.heap.size < _; have := HZ.out; omega)).trans c1
    have d2 := (hb2.cell (p := ⟨w.heap.size + 1, 0, none⟩) (by show w.heap.size + 1 < _; have := HZ.out; omega)).trans c2
    have d3 := (hb2.cell (p := ⟨w.heap.size + 1, 1, none⟩) (by show w.heap.size + 1 < _; have := HZ.out; omega)).trans c3
    have HB2 := hide (HB.out.trans (hb2.mono HB.out.size))
    have HZ2 : Hid (w.heap.size + 1 < w2.heap.size) := hide (by have := HZ.out; have := hb2.size; omega)
    clear hb2 HB c0 c1 c2 c3
    cases Q
    · have HR : Hid (0 = R ∧ false = G) := hide (by rw [HI.out, HG.out]; exact ⟨rfl, rfl⟩)
      go_wp2_with fail
      refine (HL2.out _).mono ?_
      rintro e w3 ⟨rfl, hb3⟩
      have HB3 := hide (HB2.out.trans (hb3.mono HB2.out.size))
      clear hb3 HB2
      go_wp2_with fail
      go_ret2
      exact ⟨by rw [← HR.out.1, ← HR.out.2]; rfl, HB3.out⟩
    · have HR : Hid (Y = R ∧ true = G) := hide (by rw [HI.out, HG.out]; exact ⟨rfl, rfl⟩)
      go_wp2_with fail
      refine (HL2.out _).mono ?_
      rintro e w3 ⟨rfl, hb3⟩
      have e0 := (hb3.cell (p := ⟨w.heap.size, 0, none⟩) (by show w.heap.size < _; have := HZ2.out; omega)).trans d0
      have e1 := (hb3.cell (p := ⟨w.heap.size, 1, none⟩) (by show w.heap.size < _; have := HZ2.out; omega)).trans d1
      have e2 := (hb3.cell (p := ⟨w.heap.size + 1, 0, none⟩) (by show w.heap.size + 1 < _; have := HZ2.out; omega)).trans d2
      have e3 := (hb3.cell (p := ⟨w.heap.size + 1, 1, none⟩) (by show w.heap.size + 1 < _; have := HZ2.out; omega)).trans d3
      have HB3 := hide (HB2.out.trans (hb3.mono HB2.out.size))
      clear hb3 HB2 d0 d1 d2 d3
      go_wp2_with fail
      refine (HWT.out trivial trivial _).mono ?_
      rintro e w4 ⟨rfl, hb4⟩
      have HB4 := hide (HB3.out.trans (hb4.mono HB3.out.size))
      clear hb4 HB3
      go_wp2_with fail
      go_ret2
      exact ⟨by rw [← HR.out.1, ← HR.out.2]; rfl, HB4.out⟩
end Go.Proofs.Ytphfcephinnkoaa
