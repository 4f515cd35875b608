/-
  At any job the function answers as the model does: the law's own walk.
-/
import Derived.Test.YtnjkdfeajlnojaaY4
namespace Go.Proofs.Ytnjkdfeajlnojaa
open Go.RowKit

set_option maxHeartbeats 1000000 in
theorem lGj16_long {v : Value} {x : Jb.J} {w : World} (h : LIn w v x) (hs : 1048576 < x.xs.length + x.ws.length + x.L.length + x.M.length) :
    Calls Try.prog 4 #[v] w fun e w' => e = .returned (.bool true) ∧ Below w.heap.size w w' := by
  obtain ⟨a, b, p, r, c, d, e, t, rfl, ⟨l1, l2, l3, l4⟩, ra, rb, rp, rr⟩ := h.ex
  have hb0 := below_new w (.cells #[.slice a x.xs.length c, .slice b x.ws.length d, .slice p x.L.length e, .slice r x.M.length t, .int .i64 x.f] 35)
  go_enter Try.func4, Try.ntmps4
  go_wp2_with fail
  refine (szJ_no l1 l2 l3 l4 hs).mono ?_
  rintro _ w1 ⟨rfl, hb⟩
  have HB := hide (hb0.trans (hb.mono hb0.size))
  clear hb
  go_wp2_with fail
  go_ret
  exact ⟨rfl, HB.out⟩
set_option maxRecDepth 100000 in
set_option maxHeartbeats 8000000 in
theorem lGj16_main {v : Value} {x : Jb.J} {w : World} (h : LIn w v x) (hs : x.xs.length + x.ws.length + x.L.length + x.M.length ≤ 1048576) :
    Calls Try.prog 4 #[v] w fun e w' => e = .returned (.bool true) ∧ Below w.heap.size w w' := by
  obtain ⟨a, b, p, r, c, d, e, t, rfl, _, ra, rb, rp, rr⟩ := h.ex
  have hl : x.xs.length ≤ 1048576 ∧ x.ws.length ≤ 1048576 ∧ x.L.length ≤ 1048576 ∧ x.M.length ≤ 1048576 := by omega
  have HT := hide fun (W : World) (hb : Below w.heap.size w W) => toJ_any (w := W) (c := c) (d := d) (e := e) (t := t) hl (ra.below hb) (rb.below hb) (rp.below hb) (rr.below hb)
  have HSZ := hide (szJ_yes (w := w.alloc (.cells #[.slice a x.xs.length c, .slice b x.ws.length d, .slice p x.L.length e, .slice r x.M.length t, .int .i64 x.f] 35)) (a := a) (b := b) (p := p) (r := r) (c := c) (d := d) (e := e) (t := t) (f := x.f) hs)
  have HL := hide hl
  have hwg : wgt x ≤ 2097152 := by unfold wgt; omega
  have hz : ¬ (1048576 : Int) - (x.xs.length : Int) - (x.ws.length : Int) - (x.L.length : Int) - (x.M.length : Int) < 0 := by omega
  have hjb := JW.new w 35 (.slice a x.xs.length c) (.slice b x.ws.length d) (.slice p x.L.length e) (.slice r x.M.length t) (.int .i64 x.f)
  have JB := hide hjb
  have BB := hide (below_new w (.cells #[.slice a x.xs.length c, .slice b x.ws.length d, .slice p x.L.length e, .slice r x.M.length t, .int .i64 x.f] 35))
  have sz0 : (w.alloc (.cells #[.slice a x.xs.length c, .slice b x.ws.length d, .slice p x.L.length e, .slice r x.M.length t, .int .i64 x.f] 35)).heap.size = w.heap.size + 1 := World.size_alloc _ _
  obtain ⟨c0, c1, c2, c3, c4⟩ := hjb.cells
  have HS := hide fun (W : World) (u : Value) (h : JIn W u x) => sgj_in h rfl
  have HI := hide fun (W : World) (u : Value) (h : JIn W u x) => gj_in h rfl
  generalize goodJ x = G at *
  have hne : (G != G) = false := by simp
  clear h ra rb rp rr hl hjb
  go_enter Try.func4, Try.ntmps4
  go_wp2_with fail
  refine HSZ.out.mono ?_
  rintro _ w0 ⟨rfl, hb0⟩
  have B0 := hide (BB.out.trans (hb0.mono BB.out.size))
  have sz1 : w.heap.size + 1 ≤ w0.heap.size := by have := hb0.size; omega
  have JB' := hide (JB.out.below hb0)
  clear hb0 HSZ JB c0 c1 c2 c3 c4 BB
  obtain ⟨c0, c1, c2, c3, c4⟩ := JB'.out.cells
  go_wp2_with fail
  refine (HT.out _ B0.out).mono ?_
  rintro _ w1 ⟨v1, rfl, hb1, o1⟩
  clear c0 c1 c2 c3 c4
  have B1 := hide (B0.out.trans (hb1.mono B0.out.size))
  have s1 := hb1.size
  have JB'' := hide (JB'.out.below hb1)
  clear JB'
  have J1 := hide o1
  clear o1
  clear hb1
  go_wp2_with fail
  refine (HS.out _ _ J1.out.jin).mono ?_
  rintro _ w2 ⟨rfl, hb2⟩
  have B2 := hide (B1.out.trans (hb2.mono B1.out.size))
  have s2 := hb2.size
  have JB''' := hide (JB''.out.below hb2)
  clear JB''
  have J1' := hide (J1.out.below hb2)
  clear J1
  clear hb2
  clear J1'
  obtain ⟨c0, c1, c2, c3, c4⟩ := JB'''.out.cells
  go_wp2_with fail
  refine (HT.out _ B2.out).mono ?_
  rintro _ w3 ⟨v3, rfl, hb3, o3⟩
  clear c0 c1 c2 c3 c4
  have B3 := hide (B2.out.trans (hb3.mono B2.out.size))
  have s3 := hb3.size
  have JB'''' := hide (JB'''.out.below hb3)
  clear JB'''
  have J3 := hide o3
  clear o3
  clear hb3
  obtain ⟨a3, b3, p3, r3, c3, d3, e3, t3, rfl, _⟩ := J3.out.jin.ex
  have hx3 := below_new w3 (.cells #[.slice a3 x.xs.length c3, .slice b3 x.ws.length d3, .slice p3 x.L.length e3, .slice r3 x.M.length t3, .int .i64 x.f] 25)
  have X3 := hide (JW.new w3 25 (.slice a3 x.xs.length c3) (.slice b3 x.ws.length d3) (.slice p3 x.L.length e3) (.slice r3 x.M.length t3) (.int .i64 x.f))
  have zx3 : (w3.alloc (.cells #[.slice a3 x.xs.length c3, .slice b3 x.ws.length d3, .slice p3 x.L.length e3, .slice r3 x.M.length t3, .int .i64 x.f] 25)).heap.size = w3.heap.size + 1 := World.size_alloc _ _
  have Bx3 := hide (B3.out.trans (hx3.mono B3.out.size))
  have JB''''' := hide (JB''''.out.below hx3)
  clear JB''''
  have J3' := hide (J3.out.below hx3)
  clear J3
  clear hx3
  obtain ⟨x0, x1, x2, x3, x4⟩ := X3.out.cells
  go_wp2_with fail
  refine (HI.out _ _ J3'.out.jin).mono ?_
  rintro _ w4 ⟨rfl, hb4⟩
  clear x0 x1 x2 x3 x4
  have B4 := hide (Bx3.out.trans (hb4.mono Bx3.out.size))
  have s4 := hb4.size
  have JB'''''' := hide (JB'''''.out.below hb4)
  clear JB'''''
  have J3'' := hide (J3'.out.below hb4)
  clear J3'
  have X3' := hide (X3.out.below hb4)
  clear X3
  clear hb4
  go_wp2_with fail
  have hbd : Below w4.heap.size w4 w4.drew := (Below.refl _ _).drew
  have hP := JB''''''.out.below hbd
  have hQ := X3'.out.below hbd
  have Jd := hide (J3''.out.below hbd)
  have Bd := hide (B4.out.trans (hbd.mono B4.out.size))
  have sd : w4.drew.heap.size = w4.heap.size := rfl
  have hSd := (⟨hP.cells.1, hP.cells.2.1, hP.cells.2.2.1, hP.cells.2.2.2.1, hP.cells.2.2.2.2, hQ.cells.1, hQ.cells.2.1, hQ.cells.2.2.1, hQ.cells.2.2.2.1, hQ.cells.2.2.2.2⟩ : _ ∧ _ ∧ _ ∧ _ ∧ _ ∧ _ ∧ _ ∧ _ ∧ _ ∧ _)
  clear hbd JB'''''' J3'' X3'
  go_region_held3 (fun w' => w'.cell? ⟨w.heap.size, 0, none⟩ = some (.slice a x.xs.length c) ∧ w'.cell? ⟨w.heap.size, 1, none⟩ = some (.slice b x.ws.length d) ∧ w'.cell? ⟨w.heap.size, 2, none⟩ = some (.slice p x.L.length e) ∧ w'.cell? ⟨w.heap.size, 3, none⟩ = some (.slice r x.M.length t) ∧ w'.cell? ⟨w.heap.size, 4, none⟩ = some (.int .i64 x.f) ∧ w'.cell? ⟨w3.heap.size, 0, none⟩ = some (.slice a3 x.xs.length c3) ∧ w'.cell? ⟨w3.heap.size, 1, none⟩ = some (.slice b3 x.ws.length d3) ∧ w'.cell? ⟨w3.heap.size, 2, none⟩ = some (.slice p3 x.L.length e3) ∧ w'.cell? ⟨w3.heap.size, 3, none⟩ = some (.slice r3 x.M.length t3) ∧ w'.cell? ⟨w3.heap.size, 4, none⟩ = some (.int .i64 x.f))
    (first | exact hSd | assumption | fail)
    (first
    | (go_at_call 19; refine (HT.out _ Bd.out).mono ?_; rintro _ w5 ⟨v5, rfl, hb5, o5⟩; have s5 := hb5.size; have B5 := hide (Bd.out.trans (hb5.mono Bd.out.size)); have hP5 := hP.below hb5; have hQ5 := hQ.below hb5; have Je := hide (Jd.out.below hb5); obtain ⟨aq, bq, pq, rq, cq, dq, eq, tq, rfl, _⟩ := o5.jin.ex; have Jn := hide o5; have hS5 := (⟨hP5.cells.1, hP5.cells.2.1, hP5.cells.2.2.1, hP5.cells.2.2.2.1, hP5.cells.2.2.2.2, hQ5.cells.1, hQ5.cells.2.1, hQ5.cells.2.2.1, hQ5.cells.2.2.2.1, hQ5.cells.2.2.2.2⟩ : _ ∧ _ ∧ _ ∧ _ ∧ _ ∧ _ ∧ _ ∧ _ ∧ _ ∧ _); clear hb5 o5 Jd Bd)
    | (go_at_call 12; refine (eqJ_any HL.out Je.out.jin Jn.out.jin).mono ?_; rintro _ w6 ⟨rfl, hb6⟩; have s6 := hb6.size; have B6 := hide (B5.out.trans (hb6.mono B5.out.size)); have hP6 := hP5.below hb6; have hQ6 := hQ5.below hb6; have Jf := hide (Je.out.below hb6); have hS6 := (⟨hP6.cells.1, hP6.cells.2.1, hP6.cells.2.2.1, hP6.cells.2.2.2.1, hP6.cells.2.2.2.2, hQ6.cells.1, hQ6.cells.2.1, hQ6.cells.2.2.1, hQ6.cells.2.2.2.1, hQ6.cells.2.2.2.2⟩ : _ ∧ _ ∧ _ ∧ _ ∧ _ ∧ _ ∧ _ ∧ _ ∧ _ ∧ _); clear hb6 Je Jn B5)
    | fail)
  have JBz := hide hP6
  have Xz := hide hQ6
  go_wp2_with fail
  go_ret
  exact ⟨rfl, B6.out⟩
theorem lGj16_walk {v : Value} {x : Jb.J} {w : World} (h : LIn w v x) :
    Calls Try.prog 4 #[v] w fun e w' => e = .returned (.bool true) ∧ Below w.heap.size w w' := by
  by_cases hs : x.xs.length + x.ws.length + x.L.length + x.M.length ≤ 1048576
  · exact lGj16_main h hs
  · exact lGj16_long h (by omega)
end Go.Proofs.Ytnjkdfeajlnojaa
