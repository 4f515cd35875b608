/-
  At any job the function answers as the model does: the law's own walk.
-/
import Derived.Test.YtnjkdfeajlnojaaY4
namespace Go.Proofs.Ytnjkdfeajlnojaa
open Go.RowKit

set_option maxHeartbeats 1000000 in
theorem lNm16_long {v : Value} {x : Jb.J} {w : World} (h : LIn w v x) (hs : 1048576 < x.xs.length + x.ws.length + x.L.length + x.M.length) :
    Calls Try.prog 5 #[v] w fun e w' => e = .returned (.bool true) ∧ Below w.heap.size w w' := by
  obtain ⟨a, b, p, r, c, d, e, t, rfl, ⟨l1, l2, l3, l4⟩, ra, rb, rp, rr⟩ := h.ex
  have hb0 := below_new w (.cells #[.slice a x.xs.length c, .slice b x.ws.length d, .slice p x.L.length e, .slice r x.M.length t, .int .i64 x.f] 35)
  go_enter Try.func5, Try.ntmps5
  go_wp2_with fail
  refine (szJ_no l1 l2 l3 l4 hs).mono ?_
  rintro _ w1 ⟨rfl, hb⟩
  have HB := hide (hb0.trans (hb.mono hb0.size))
  clear hb
  go_wp2_with fail
  go_ret
  exact ⟨rfl, HB.out⟩
set_option maxRecDepth 100000 in
set_option maxHeartbeats 8000000 in
theorem lNm16_main {v : Value} {x : Jb.J} {w : World} (h : LIn w v x) (hs : x.xs.length + x.ws.length + x.L.length + x.M.length ≤ 1048576) :
    Calls Try.prog 5 #[v] w fun e w' => e = .returned (.bool true) ∧ Below w.heap.size w w' := by
  obtain ⟨a, b, p, r, c, d, e, t, rfl, _, ra, rb, rp, rr⟩ := h.ex
  have hl : x.xs.length ≤ 1048576 ∧ x.ws.length ≤ 1048576 ∧ x.L.length ≤ 1048576 ∧ x.M.length ≤ 1048576 := by omega
  have HT := hide fun (W : World) (hb : Below w.heap.size w W) => toJ_any (w := W) (c := c) (d := d) (e := e) (t := t) hl (ra.below hb) (rb.below hb) (rp.below hb) (rr.below hb)
  have HSZ := hide (szJ_yes (w := w.alloc (.cells #[.slice a x.xs.length c, .slice b x.ws.length d, .slice p x.L.length e, .slice r x.M.length t, .int .i64 x.f] 35)) (a := a) (b := b) (p := p) (r := r) (c := c) (d := d) (e := e) (t := t) (f := x.f) hs)
  have HL := hide hl
  have hwg : wgt x ≤ 2097152 := by unfold wgt; omega
  have hz : ¬ (1048576 : Int) - (x.xs.length : Int) - (x.ws.length : Int) - (x.L.length : Int) - (x.M.length : Int) < 0 := by omega
  have hjb := JW.new w 35 (.slice a x.xs.length c) (.slice b x.ws.length d) (.slice p x.L.length e) (.slice r x.M.length t) (.int .i64 x.f)
  have JB := hide hjb
  have BB := hide (below_new w (.cells #[.slice a x.xs.length c, .slice b x.ws.length d, .slice p x.L.length e, .slice r x.M.length t, .int .i64 x.f] 35))
  have sz0 : (w.alloc (.cells #[.slice a x.xs.length c, .slice b x.ws.length d, .slice p x.L.length e, .slice r x.M.length t, .int .i64 x.f] 35)).heap.size = w.heap.size + 1 := World.size_alloc _ _
  obtain ⟨c0, c1, c2, c3, c4⟩ := hjb.cells
  have HS := hide fun (W : World) (u : Value) (h : JIn W u x) => snm_in h
  have HI := hide fun (W : World) (u : Value) (h : JIn W u x) => nm_in h
  generalize nmB x = G at *
  generalize (nmV x).1 = F at *
  generalize (nmV x).2 = T at *
  have hne : (G != G) = false := by simp
  clear h ra rb rp rr hl hjb
  go_enter Try.func5, Try.ntmps5
  go_wp2_with fail
  refine HSZ.out.mono ?_
  rintro _ w0 ⟨rfl, hb0⟩
  have B0 := hide (BB.out.trans (hb0.mono BB.out.size))
  have sz1 : w.heap.size + 1 ≤ w0.heap.size := by have := hb0.size; omega
  have JB' := hide (JB.out.below hb0)
  clear hb0 HSZ JB c0 c1 c2 c3 c4 BB
  obtain ⟨c0, c1, c2, c3, c4⟩ := JB'.out.cells
  go_wp2_with fail
  refine (HT.out _ B0.out).mono ?_
  rintro _ w1 ⟨v1, rfl, hb1, o1⟩
  clear c0 c1 c2 c3 c4
  have B1 := hide (B0.out.trans (hb1.mono B0.out.size))
  have s1 := hb1.size
  have JB'' := hide (JB'.out.below hb1)
  clear JB'
  have J1 := hide o1
  clear o1
  clear hb1
  go_wp2_with fail
  refine (HS.out _ _ J1.out.jin).mono ?_
  rintro _ w2 ⟨rfl, hb2⟩
  have B2 := hide (B1.out.trans (hb2.mono B1.out.size))
  have s2 := hb2.size
  have JB''' := hide (JB''.out.below hb2)
  clear JB''
  have J1' := hide (J1.out.below hb2)
  clear J1
  clear hb2
  clear J1'
  have hx2 := below_new w2 (.cells #[.int .i64 F, .int .i64 T] 41)
  have M2 := hide (MW.new w2 (.int .i64 F) (.int .i64 T))
  have zx2 : (w2.alloc (.cells #[.int .i64 F, .int .i64 T] 41)).heap.size = w2.heap.size + 1 := World.size_alloc _ _
  have Bx2 := hide (B2.out.trans (hx2.mono B2.out.size))
  have JB'''' := hide (JB'''.out.below hx2)
  clear JB'''
  clear hx2
  obtain ⟨c0, c1, c2, c3, c4⟩ := JB''''.out.cells
  go_wp2_with fail
  refine (HT.out _ Bx2.out).mono ?_
  rintro _ w3 ⟨v3, rfl, hb3, o3⟩
  clear c0 c1 c2 c3 c4
  have B3 := hide (Bx2.out.trans (hb3.mono Bx2.out.size))
  have s3 := hb3.size
  have JB''''' := hide (JB''''.out.below hb3)
  clear JB''''
  have M2' := hide (M2.out.below hb3)
  clear M2
  have J3 := hide o3
  clear o3
  clear hb3
  obtain ⟨a3, b3, p3, r3, c3, d3, e3, t3, rfl, _⟩ := J3.out.jin.ex
  have hx3 := below_new w3 (.cells #[.slice a3 x.xs.length c3, .slice b3 x.ws.length d3, .slice p3 x.L.length e3, .slice r3 x.M.length t3, .int .i64 x.f] 25)
  have X3 := hide (JW.new w3 25 (.slice a3 x.xs.length c3) (.slice b3 x.ws.length d3) (.slice p3 x.L.length e3) (.slice r3 x.M.length t3) (.int .i64 x.f))
  have zx3 : (w3.alloc (.cells #[.slice a3 x.xs.length c3, .slice b3 x.ws.length d3, .slice p3 x.L.length e3, .slice r3 x.M.length t3, .int .i64 x.f] 25)).heap.size = w3.heap.size + 1 := World.size_alloc _ _
  have Bx3 := hide (B3.out.trans (hx3.mono B3.out.size))
  have JB'''''' := hide (JB'''''.out.below hx3)
  clear JB'''''
  have M2'' := hide (M2'.out.below hx3)
  clear M2'
  have J3' := hide (J3.out.below hx3)
  clear J3
  clear hx3
  obtain ⟨x0, x1, x2, x3, x4⟩ := X3.out.cells
  go_wp2_with fail
  refine (HI.out _ _ J3'.out.jin).mono ?_
  rintro _ w4 ⟨rfl, hb4⟩
  clear x0 x1 x2 x3 x4
  have B4 := hide (Bx3.out.trans (hb4.mono Bx3.out.size))
  have s4 := hb4.size
  have JB''''''' := hide (JB''''''.out.below hb4)
  clear JB''''''
  have M2''' := hide (M2''.out.below hb4)
  clear M2''
  have J3'' := hide (J3'.out.below hb4)
  clear J3'
  have X3' := hide (X3.out.below hb4)
  clear X3
  clear hb4
  have hx4 := below_new w4 (.cells #[.int .i64 F, .int .i64 T] 41)
  have G4 := hide (MW.new w4 (.int .i64 F) (.int .i64 T))
  have zx4 : (w4.alloc (.cells #[.int .i64 F, .int .i64 T] 41)).heap.size = w4.heap.size + 1 := World.size_alloc _ _
  have Bx4 := hide (B4.out.trans (hx4.mono B4.out.size))
  have JB'''''''' := hide (JB'''''''.out.below hx4)
  clear JB'''''''
  have M2'''' := hide (M2'''.out.below hx4)
  clear M2'''
  have J3''' := hide (J3''.out.below hx4)
  clear J3''
  have X3'' := hide (X3'.out.below hx4)
  clear X3'
  clear hx4
  obtain ⟨y0, y1⟩ := M2''''.out.cells
  obtain ⟨z0, z1⟩ := G4.out.cells
  go_wp2_with fail
  refine (eqFam_same F T _).mono ?_
  rintro _ w5 ⟨rfl, hb5⟩
  have B5 := hide (Bx4.out.trans (hb5.mono Bx4.out.size))
  have s5 := hb5.size
  have JB''''''''' := hide (JB''''''''.out.below hb5)
  clear JB''''''''
  have M2''''' := hide (M2''''.out.below hb5)
  clear M2''''
  have J3'''' := hide (J3'''.out.below hb5)
  clear J3'''
  have X3''' := hide (X3''.out.below hb5)
  clear X3''
  have G4' := hide (G4.out.below hb5)
  clear G4
  clear hb5
  clear y0 y1 z0 z1
  clear M2'''''
  clear G4'
  go_wp2_with fail
  have hbd : Below w5.heap.size w5 w5.drew := (Below.refl _ _).drew
  have hP := JB'''''''''.out.below hbd
  have hQ := X3'''.out.below hbd
  have Jd := hide (J3''''.out.below hbd)
  have Bd := hide (B5.out.trans (hbd.mono B5.out.size))
  have sd : w5.drew.heap.size = w5.heap.size := rfl
  have hSd := (⟨hP.cells.1, hP.cells.2.1, hP.cells.2.2.1, hP.cells.2.2.2.1, hP.cells.2.2.2.2, hQ.cells.1, hQ.cells.2.1, hQ.cells.2.2.1, hQ.cells.2.2.2.1, hQ.cells.2.2.2.2⟩ : _ ∧ _ ∧ _ ∧ _ ∧ _ ∧ _ ∧ _ ∧ _ ∧ _ ∧ _)
  clear hbd JB''''''''' J3'''' X3'''
  go_region_held3 (fun w' => w'.cell? ⟨w.heap.size, 0, none⟩ = some (.slice a x.xs.length c) ∧ w'.cell? ⟨w.heap.size, 1, none⟩ = some (.slice b x.ws.length d) ∧ w'.cell? ⟨w.heap.size, 2, none⟩ = some (.slice p x.L.length e) ∧ w'.cell? ⟨w.heap.size, 3, none⟩ = some (.slice r x.M.length t) ∧ w'.cell? ⟨w.heap.size, 4, none⟩ = some (.int .i64 x.f) ∧ w'.cell? ⟨w3.heap.size, 0, none⟩ = some (.slice a3 x.xs.length c3) ∧ w'.cell? ⟨w3.heap.size, 1, none⟩ = some (.slice b3 x.ws.length d3) ∧ w'.cell? ⟨w3.heap.size, 2, none⟩ = some (.slice p3 x.L.length e3) ∧ w'.cell? ⟨w3.heap.size, 3, none⟩ = some (.slice r3 x.M.length t3) ∧ w'.cell? ⟨w3.heap.size, 4, none⟩ = some (.int .i64 x.f))
    (first | exact hSd | assumption | fail)
    (first
    | (go_at_call 19; refine (HT.out _ Bd.out).mono ?_; rintro _ w6 ⟨v6, rfl, hb6, o6⟩; have s6 := hb6.size; have B6 := hide (Bd.out.trans (hb6.mono Bd.out.size)); have hP6 := hP.below hb6; have hQ6 := hQ.below hb6; have Je := hide (Jd.out.below hb6); obtain ⟨aq, bq, pq, rq, cq, dq, eq, tq, rfl, _⟩ := o6.jin.ex; have Jn := hide o6; have hS6 := (⟨hP6.cells.1, hP6.cells.2.1, hP6.cells.2.2.1, hP6.cells.2.2.2.1, hP6.cells.2.2.2.2, hQ6.cells.1, hQ6.cells.2.1, hQ6.cells.2.2.1, hQ6.cells.2.2.2.1, hQ6.cells.2.2.2.2⟩ : _ ∧ _ ∧ _ ∧ _ ∧ _ ∧ _ ∧ _ ∧ _ ∧ _ ∧ _); clear hb6 o6 Jd Bd)
    | (go_at_call 12; refine (eqJ_any HL.out Je.out.jin Jn.out.jin).mono ?_; rintro _ w7 ⟨rfl, hb7⟩; have s7 := hb7.size; have B7 := hide (B6.out.trans (hb7.mono B6.out.size)); have hP7 := hP6.below hb7; have hQ7 := hQ6.below hb7; have Jf := hide (Je.out.below hb7); have hS7 := (⟨hP7.cells.1, hP7.cells.2.1, hP7.cells.2.2.1, hP7.cells.2.2.2.1, hP7.cells.2.2.2.2, hQ7.cells.1, hQ7.cells.2.1, hQ7.cells.2.2.1, hQ7.cells.2.2.2.1, hQ7.cells.2.2.2.2⟩ : _ ∧ _ ∧ _ ∧ _ ∧ _ ∧ _ ∧ _ ∧ _ ∧ _ ∧ _); clear hb7 Je Jn B6)
    | fail)
  have JBz := hide hP7
  have Xz := hide hQ7
  go_wp2_with fail
  go_ret
  exact ⟨rfl, B7.out⟩
theorem lNm16_walk {v : Value} {x : Jb.J} {w : World} (h : LIn w v x) :
    Calls Try.prog 5 #[v] w fun e w' => e = .returned (.bool true) ∧ Below w.heap.size w w' := by
  by_cases hs : x.xs.length + x.ws.length + x.L.length + x.M.length ≤ 1048576
  · exact lNm16_main h hs
  · exact lNm16_long h (by omega)
end Go.Proofs.Ytnjkdfeajlnojaa
