/-
  At any job and order the function answers as the model does, in memory of its own: the law's own walk. (Written by genlx16.py.)
-/
import Derived.Test.YtnjkdfeajlnojaaZ7
namespace Go.Proofs.Ytnjkdfeajlnojaa
open Go.RowKit

set_option maxHeartbeats 1000000 in
theorem lDj16_long {v : Value} {x : Jb.J} {o : Int} {w : World} (h : LIn w v x) (hs : 1048576 < x.xs.length + x.ws.length + x.L.length + x.M.length) :
    Calls Try.prog 6 #[v, .int .i64 o] w fun e w' => e = .returned (.bool true) ∧ Below w.heap.size w w' := by
  obtain ⟨a, b, p, r, c, d, e, t, rfl, ⟨l1, l2, l3, l4⟩, ra, rb, rp, rr⟩ := h.ex
  have hb0 := below_new w (.cells #[.slice a x.xs.length c, .slice b x.ws.length d, .slice p x.L.length e, .slice r x.M.length t, .int .i64 x.f] 35)
  go_enter Try.func6, Try.ntmps6
  go_wp2_with fail
  refine (szJ_no l1 l2 l3 l4 hs).mono ?_
  rintro _ w1 ⟨rfl, hb⟩
  have HB := hide (hb0.trans (hb.mono hb0.size))
  clear hb
  go_wp2_with fail
  go_ret
  exact ⟨rfl, HB.out⟩
set_option maxRecDepth 100000 in
set_option maxHeartbeats 8000000 in
theorem lDj16_main {v : Value} {x : Jb.J} {o : Int} {w : World} (h : LIn w v x) (hs : x.xs.length + x.ws.length + x.L.length + x.M.length ≤ 1048576) :
    Calls Try.prog 6 #[v, .int .i64 o] w fun e w' => e = .returned (.bool true) ∧ Below w.heap.size w w' := by
  obtain ⟨a, b, p, r, c, d, e, t, rfl, _, ra, rb, rp, rr⟩ := h.ex
  have hl : x.xs.length ≤ 1048576 ∧ x.ws.length ≤ 1048576 ∧ x.L.length ≤ 1048576 ∧ x.M.length ≤ 1048576 := by omega
  have HT := hide fun (W : World) (hb : Below w.heap.size w W) => toJ_any (w := W) (c := c) (d := d) (e := e) (t := t) hl (ra.below hb) (rb.below hb) (rp.below hb) (rr.below hb)
  have HSZ := hide (szJ_yes (w := w.alloc (.cells #[.slice a x.xs.length c, .slice b x.ws.length d, .slice p x.L.length e, .slice r x.M.length t, .int .i64 x.f] 35)) (a := a) (b := b) (p := p) (r := r) (c := c) (d := d) (e := e) (t := t) (f := x.f) hs)
  have HL := hide hl
  have hwx : wgt x ≤ 2097152 := by unfold wgt; omega
  have hz : ¬ (1048576 : Int) - (x.xs.length : Int) - (x.ws.length : Int) - (x.L.length : Int) - (x.M.length : Int) < 0 := by omega
  have hjb := JW.new w 35 (.slice a x.xs.length c) (.slice b x.ws.length d) (.slice p x.L.length e) (.slice r x.M.length t) (.int .i64 x.f)
  have JB := hide hjb
  have BB := hide (below_new w (.cells #[.slice a x.xs.length c, .slice b x.ws.length d, .slice p x.L.length e, .slice r x.M.length t, .int .i64 x.f] 35))
  have sz0 : (w.alloc (.cells #[.slice a x.xs.length c, .slice b x.ws.length d, .slice p x.L.length e, .slice r x.M.length t, .int .i64 x.f] 35)).heap.size = w.heap.size + 1 := World.size_alloc _ _
  obtain ⟨c0, c1, c2, c3, c4⟩ := hjb.cells
  have HS := hide fun (W : World) (u : Value) (h : JIn W u x) => sdj_in (o := o) h
  have HI := hide fun (W : World) (u : Value) (h : JIn W u x) => do_in (o := o) h
  have HYL : Hid ((doV x o).xs.length ≤ 1048576 ∧ (doV x o).ws.length ≤ 1048576 ∧ (doV x o).L.length ≤ 1048576 ∧ (doV x o).M.length ≤ 1048576) := hide (doV_le _ _)
  generalize doV x o = Y at *
  generalize doB x o = GB at *
  have hneG : (GB != GB) = false := by simp
  have hwg : wgt Y ≤ 6291456 := by have := HYL.out; unfold wgt; omega
  have hnn1 : ¬ (1 : Int) + (wgt Y : Nat) < 0 := by omega
  have hk0 : ¬ (1 : Int) + (wgt x : Nat) < 0 := by omega
  have hnm : ((1 : Int) + (wgt Y : Nat) != (1 : Int) + (wgt Y : Nat)) = false := by simp
  clear h ra rb rp rr hl hjb
  go_enter Try.func6, Try.ntmps6
  go_wp2_with fail
  refine HSZ.out.mono ?_
  rintro _ w0 ⟨rfl, hb0⟩
  have B0 := hide (BB.out.trans (hb0.mono BB.out.size))
  have sz1 : w.heap.size + 1 ≤ w0.heap.size := by have := hb0.size; omega
  have JB' := hide (JB.out.below hb0)
  clear hb0 HSZ JB c0 c1 c2 c3 c4 BB
  obtain ⟨y0_0, y0_1, y0_2, y0_3, y0_4⟩ := JB'.out.cells
  go_wp2_with fail
  refine (HT.out _ B0.out).mono ?_
  rintro _ w1 ⟨v1, rfl, hb1, q1⟩
  clear y0_0 y0_1 y0_2 y0_3 y0_4
  have s_hb1 := hb1.size
  have B_hb1 := hide (B0.out.trans (hb1.mono B0.out.size))
  clear B0
  have JB'' := hide (JB'.out.below hb1)
  clear JB'
  clear hb1
  obtain ⟨ea1, eb1, el1, em1, rfl, f1, f2, f3, f4, _⟩ := q1.ex
  obtain ⟨a1, c1, rfl⟩ := own_f16 f1
  obtain ⟨b1, d1, rfl⟩ := own_f16 f2
  obtain ⟨p1, e1, rfl, _⟩ := f3.row
  obtain ⟨r1, t1, rfl, _⟩ := f4.row
  have J1 := hide q1
  clear q1 f1 f2 f3 f4
  go_wp2_with fail
  refine (HS.out _ _ J1.out.jin).mono ?_
  rintro _ w2 ⟨u2, rfl, hb2, q2⟩
  have s_hb2 := hb2.size
  have B_hb2 := hide (B_hb1.out.trans (hb2.mono B_hb1.out.size))
  clear B_hb1
  have JB''' := hide (JB''.out.below hb2)
  clear JB''
  have J1' := hide (J1.out.below hb2)
  clear J1
  clear hb2
  obtain ⟨ea2, eb2, el2, em2, rfl, f1, f2, f3, f4, _⟩ := q2.ex
  obtain ⟨a2, c2, rfl⟩ := own_f16 f1
  obtain ⟨b2, d2, rfl⟩ := own_f16 f2
  obtain ⟨p2, e2, rfl, _⟩ := f3.row
  obtain ⟨r2, t2, rfl, _⟩ := f4.row
  have R2 := hide q2
  clear q2 f1 f2 f3 f4
  have hx2 := below_new w2 (.cells #[.slice a2 Y.xs.length c2, .slice b2 Y.ws.length d2, .slice p2 Y.L.length e2, .slice r2 Y.M.length t2, .int .i64 Y.f] 25)
  have X2 := hide (JW.new w2 25 (.slice a2 Y.xs.length c2) (.slice b2 Y.ws.length d2) (.slice p2 Y.L.length e2) (.slice r2 Y.M.length t2) (.int .i64 Y.f))
  have zx2 : (w2.alloc (.cells #[.slice a2 Y.xs.length c2, .slice b2 Y.ws.length d2, .slice p2 Y.L.length e2, .slice r2 Y.M.length t2, .int .i64 Y.f] 25)).heap.size = w2.heap.size + 1 := World.size_alloc _ _
  have s_hx2 := hx2.size
  have B_hx2 := hide (B_hb2.out.trans (hx2.mono B_hb2.out.size))
  clear B_hb2
  have JB'''' := hide (JB'''.out.below hx2)
  clear JB'''
  have J1'' := hide (J1'.out.below hx2)
  clear J1'
  have R2' := hide (R2.out.below hx2)
  clear R2
  clear hx2
  clear J1''
  obtain ⟨y0_0, y0_1, y0_2, y0_3, y0_4⟩ := JB''''.out.cells
  go_wp2_with fail
  refine (HT.out _ B_hx2.out).mono ?_
  rintro _ w3 ⟨v3, rfl, hb3, q3⟩
  clear y0_0 y0_1 y0_2 y0_3 y0_4
  have s_hb3 := hb3.size
  have B_hb3 := hide (B_hx2.out.trans (hb3.mono B_hx2.out.size))
  clear B_hx2
  have JB''''' := hide (JB''''.out.below hb3)
  clear JB''''
  have R2'' := hide (R2'.out.below hb3)
  clear R2'
  have X2' := hide (X2.out.below hb3)
  clear X2
  clear hb3
  obtain ⟨ea3, eb3, el3, em3, rfl, f1, f2, f3, f4, _⟩ := q3.ex
  obtain ⟨a3, c3, rfl⟩ := own_f16 f1
  obtain ⟨b3, d3, rfl⟩ := own_f16 f2
  obtain ⟨p3, e3, rfl, _⟩ := f3.row
  obtain ⟨r3, t3, rfl, _⟩ := f4.row
  have J3 := hide q3
  clear q3 f1 f2 f3 f4
  have hx3 := below_new w3 (.cells #[.slice a3 x.xs.length c3, .slice b3 x.ws.length d3, .slice p3 x.L.length e3, .slice r3 x.M.length t3, .int .i64 x.f] 25)
  have X3 := hide (JW.new w3 25 (.slice a3 x.xs.length c3) (.slice b3 x.ws.length d3) (.slice p3 x.L.length e3) (.slice r3 x.M.length t3) (.int .i64 x.f))
  have zx3 : (w3.alloc (.cells #[.slice a3 x.xs.length c3, .slice b3 x.ws.length d3, .slice p3 x.L.length e3, .slice r3 x.M.length t3, .int .i64 x.f] 25)).heap.size = w3.heap.size + 1 := World.size_alloc _ _
  have s_hx3 := hx3.size
  have B_hx3 := hide (B_hb3.out.trans (hx3.mono B_hb3.out.size))
  clear B_hb3
  have JB'''''' := hide (JB'''''.out.below hx3)
  clear JB'''''
  have R2''' := hide (R2''.out.below hx3)
  clear R2''
  have X2'' := hide (X2'.out.below hx3)
  clear X2'
  have J3' := hide (J3.out.below hx3)
  clear J3
  clear hx3
  obtain ⟨y0_0, y0_1, y0_2, y0_3, y0_4⟩ := X3.out.cells
  go_wp2_with fail
  refine (HI.out _ _ J3'.out.jin).mono ?_
  rintro _ w4 ⟨u4, rfl, hb4, q4⟩
  clear y0_0 y0_1 y0_2 y0_3 y0_4
  have s_hb4 := hb4.size
  have B_hb4 := hide (B_hx3.out.trans (hb4.mono B_hx3.out.size))
  clear B_hx3
  have JB''''''' := hide (JB''''''.out.below hb4)
  clear JB''''''
  have R2'''' := hide (R2'''.out.below hb4)
  clear R2'''
  have X2''' := hide (X2''.out.below hb4)
  clear X2''
  have J3'' := hide (J3'.out.below hb4)
  clear J3'
  have X3' := hide (X3.out.below hb4)
  clear X3
  clear hb4
  obtain ⟨ea4, eb4, el4, em4, rfl, f1, f2, f3, f4, _⟩ := q4.ex
  obtain ⟨a4, c4, rfl⟩ := own_f16 f1
  obtain ⟨b4, d4, rfl⟩ := own_f16 f2
  obtain ⟨p4, e4, rfl, _⟩ := f3.row
  obtain ⟨r4, t4, rfl, _⟩ := f4.row
  have R4 := hide q4
  clear q4 f1 f2 f3 f4
  have hx4 := below_new w4 (.cells #[.slice a4 Y.xs.length c4, .slice b4 Y.ws.length d4, .slice p4 Y.L.length e4, .slice r4 Y.M.length t4, .int .i64 Y.f] 25)
  have X4 := hide (JW.new w4 25 (.slice a4 Y.xs.length c4) (.slice b4 Y.ws.length d4) (.slice p4 Y.L.length e4) (.slice r4 Y.M.length t4) (.int .i64 Y.f))
  have zx4 : (w4.alloc (.cells #[.slice a4 Y.xs.length c4, .slice b4 Y.ws.length d4, .slice p4 Y.L.length e4, .slice r4 Y.M.length t4, .int .i64 Y.f] 25)).heap.size = w4.heap.size + 1 := World.size_alloc _ _
  have s_hx4 := hx4.size
  have B_hx4 := hide (B_hb4.out.trans (hx4.mono B_hb4.out.size))
  clear B_hb4
  have JB'''''''' := hide (JB'''''''.out.below hx4)
  clear JB'''''''
  have R2''''' := hide (R2''''.out.below hx4)
  clear R2''''
  have X2'''' := hide (X2'''.out.below hx4)
  clear X2'''
  have J3''' := hide (J3''.out.below hx4)
  clear J3''
  have X3'' := hide (X3'.out.below hx4)
  clear X3'
  have R4' := hide (R4.out.below hx4)
  clear R4
  clear hx4
  obtain ⟨y0_0, y0_1, y0_2, y0_3, y0_4⟩ := X4.out.cells
  obtain ⟨y1_0, y1_1, y1_2, y1_3, y1_4⟩ := X2''''.out.cells
  go_wp2_with fail
  refine (eqJ_any HYL.out R4'.out.jin R2'''''.out.jin).mono ?_
  rintro _ w5 ⟨rfl, hb5⟩
  clear y0_0 y0_1 y0_2 y0_3 y0_4 y1_0 y1_1 y1_2 y1_3 y1_4
  have s_hb5 := hb5.size
  have B_hb5 := hide (B_hx4.out.trans (hb5.mono B_hx4.out.size))
  clear B_hx4
  have JB''''''''' := hide (JB''''''''.out.below hb5)
  clear JB''''''''
  have R2'''''' := hide (R2'''''.out.below hb5)
  clear R2'''''
  have X2''''' := hide (X2''''.out.below hb5)
  clear X2''''
  have J3'''' := hide (J3'''.out.below hb5)
  clear J3'''
  have X3''' := hide (X3''.out.below hb5)
  clear X3''
  have R4'' := hide (R4'.out.below hb5)
  clear R4'
  have X4' := hide (X4.out.below hb5)
  clear X4
  clear hb5
  go_wp2_with fail
  have hbd : Below w5.heap.size w5 w5.drew := (Below.refl _ _).drew
  have sd : w5.drew.heap.size = w5.heap.size := rfl
  have hP := JB'''''''''.out.below hbd
  have hQ := X3'''.out.below hbd
  have Jd := hide (J3''''.out.below hbd)
  have Bd := hide (B_hb5.out.trans (hbd.mono B_hb5.out.size))
  have T0d := hide (R2''''''.out.below hbd)
  have T1d := hide (X2'''''.out.below hbd)
  have T2d := hide (R4''.out.below hbd)
  have T3d := hide (X4'.out.below hbd)
  have hSd := (⟨hP.cells.1, hP.cells.2.1, hP.cells.2.2.1, hP.cells.2.2.2.1, hP.cells.2.2.2.2, hQ.cells.1, hQ.cells.2.1, hQ.cells.2.2.1, hQ.cells.2.2.2.1, hQ.cells.2.2.2.2⟩ : _ ∧ _ ∧ _ ∧ _ ∧ _ ∧ _ ∧ _ ∧ _ ∧ _ ∧ _)
  clear hbd JB''''''''' R2'''''' X2''''' J3'''' X3''' R4'' X4'
  go_region_held3 (fun w' => w'.cell? ⟨w.heap.size, 0, none⟩ = some (.slice a x.xs.length c) ∧ w'.cell? ⟨w.heap.size, 1, none⟩ = some (.slice b x.ws.length d) ∧ w'.cell? ⟨w.heap.size, 2, none⟩ = some (.slice p x.L.length e) ∧ w'.cell? ⟨w.heap.size, 3, none⟩ = some (.slice r x.M.length t) ∧ w'.cell? ⟨w.heap.size, 4, none⟩ = some (.int .i64 x.f) ∧ w'.cell? ⟨w3.heap.size, 0, none⟩ = some (.slice a3 x.xs.length c3) ∧ w'.cell? ⟨w3.heap.size, 1, none⟩ = some (.slice b3 x.ws.length d3) ∧ w'.cell? ⟨w3.heap.size, 2, none⟩ = some (.slice p3 x.L.length e3) ∧ w'.cell? ⟨w3.heap.size, 3, none⟩ = some (.slice r3 x.M.length t3) ∧ w'.cell? ⟨w3.heap.size, 4, none⟩ = some (.int .i64 x.f))
    (first | exact hSd | assumption | fail)
    (first
    | (go_at_call 19; refine (HT.out _ Bd.out).mono ?_; rintro _ w6 ⟨v6, rfl, hb6, o6⟩; have s_hb6 := hb6.size; have B6 := hide (Bd.out.trans (hb6.mono Bd.out.size)); have hP6 := hP.below hb6; have hQ6 := hQ.below hb6; have Je := hide (Jd.out.below hb6); have T0e := hide (T0d.out.below hb6); clear T0d; have T1e := hide (T1d.out.below hb6); clear T1d; have T2e := hide (T2d.out.below hb6); clear T2d; have T3e := hide (T3d.out.below hb6); clear T3d; obtain ⟨aq, bq, pq, rq, cq, dq, eq, tq, rfl, _⟩ := o6.jin.ex; have Jn := hide o6; have hS6 := (⟨hP6.cells.1, hP6.cells.2.1, hP6.cells.2.2.1, hP6.cells.2.2.2.1, hP6.cells.2.2.2.2, hQ6.cells.1, hQ6.cells.2.1, hQ6.cells.2.2.1, hQ6.cells.2.2.2.1, hQ6.cells.2.2.2.2⟩ : _ ∧ _ ∧ _ ∧ _ ∧ _ ∧ _ ∧ _ ∧ _ ∧ _ ∧ _); clear hb6 o6 Jd Bd)
    | (go_at_call 12; refine (eqJ_any HL.out Je.out.jin Jn.out.jin).mono ?_; rintro _ w7 ⟨rfl, hb7⟩; have s_hb7 := hb7.size; have B7 := hide (B6.out.trans (hb7.mono B6.out.size)); have hP7 := hP6.below hb7; have hQ7 := hQ6.below hb7; have Jf := hide (Je.out.below hb7); have T0f := hide (T0e.out.below hb7); clear T0e; have T1f := hide (T1e.out.below hb7); clear T1e; have T2f := hide (T2e.out.below hb7); clear T2e; have T3f := hide (T3e.out.below hb7); clear T3e; have hS7 := (⟨hP7.cells.1, hP7.cells.2.1, hP7.cells.2.2.1, hP7.cells.2.2.2.1, hP7.cells.2.2.2.2, hQ7.cells.1, hQ7.cells.2.1, hQ7.cells.2.2.1, hQ7.cells.2.2.2.1, hQ7.cells.2.2.2.2⟩ : _ ∧ _ ∧ _ ∧ _ ∧ _ ∧ _ ∧ _ ∧ _ ∧ _ ∧ _); clear hb7 Je Jn B6)
    | fail)
  have JBz := hide hP7
  have Xz := hide hQ7
  obtain ⟨y0_0, y0_1, y0_2, y0_3, y0_4⟩ := Xz.out.cells
  go_wp2_with fail
  refine (markJ_any HL.out (by omega) (by omega) Jf.out).mono ?_
  rintro _ w8 ⟨rfl, hh8, hr8⟩
  clear y0_0 y0_1 y0_2 y0_3 y0_4
  clear Jf
  have s_hr8 := hr8.2.2.2.1
  have B_hr8 := hide (B7.out.trans (hr8.below (by omega) B7.out.size))
  clear B7
  have JBz' := hide (JBz.out.keep (hr8.2.2.2.2 _ JBz.out.lt (by first | exact Or.inl (by omega) | exact Or.inr (by omega))))
  clear JBz
  have T0f' := hide (T0f.out.rng hr8 (by first | exact Or.inl (by omega) | exact Or.inr (by omega)))
  clear T0f
  have T1f' := hide (T1f.out.keep (hr8.2.2.2.2 _ T1f.out.lt (by first | exact Or.inl (by omega) | exact Or.inr (by omega))))
  clear T1f
  have Xz' := hide (Xz.out.keep (hr8.2.2.2.2 _ Xz.out.lt (by first | exact Or.inl (by omega) | exact Or.inr (by omega))))
  clear Xz
  have T2f' := hide (T2f.out.rng hr8 (by first | exact Or.inl (by omega) | exact Or.inr (by omega)))
  clear T2f
  have T3f' := hide (T3f.out.keep (hr8.2.2.2.2 _ T3f.out.lt (by first | exact Or.inl (by omega) | exact Or.inr (by omega))))
  clear T3f
  clear hr8
  clear hh8
  clear Xz'
  obtain ⟨y0_0, y0_1, y0_2, y0_3, y0_4⟩ := T3f'.out.cells
  obtain ⟨y1_0, y1_1, y1_2, y1_3, y1_4⟩ := T1f'.out.cells
  go_wp2_with fail
  refine (eqJ_any HYL.out T2f'.out.jin T0f'.out.jin).mono ?_
  rintro _ w9 ⟨rfl, hb9⟩
  clear y0_0 y0_1 y0_2 y0_3 y0_4 y1_0 y1_1 y1_2 y1_3 y1_4
  have s_hb9 := hb9.size
  have B_hb9 := hide (B_hr8.out.trans (hb9.mono B_hr8.out.size))
  clear B_hr8
  have JBz'' := hide (JBz'.out.below hb9)
  clear JBz'
  have T0f'' := hide (T0f'.out.below hb9)
  clear T0f'
  have T1f'' := hide (T1f'.out.below hb9)
  clear T1f'
  have T2f'' := hide (T2f'.out.below hb9)
  clear T2f'
  have T3f'' := hide (T3f'.out.below hb9)
  clear T3f'
  clear hb9
  obtain ⟨y0_0, y0_1, y0_2, y0_3, y0_4⟩ := T3f''.out.cells
  go_wp2_with fail
  refine (markJ_any HYL.out (by omega) (by omega) T2f''.out).mono ?_
  rintro _ w10 ⟨rfl, hh10, hr10⟩
  clear y0_0 y0_1 y0_2 y0_3 y0_4
  clear T2f''
  have s_hr10 := hr10.2.2.2.1
  have B_hr10 := hide (B_hb9.out.trans (hr10.below (by omega) B_hb9.out.size))
  clear B_hb9
  have JBz''' := hide (JBz''.out.keep (hr10.2.2.2.2 _ JBz''.out.lt (by first | exact Or.inl (by omega) | exact Or.inr (by omega))))
  clear JBz''
  have T0f''' := hide (T0f''.out.rng hr10 (by first | exact Or.inl (by omega) | exact Or.inr (by omega)))
  clear T0f''
  have T1f''' := hide (T1f''.out.keep (hr10.2.2.2.2 _ T1f''.out.lt (by first | exact Or.inl (by omega) | exact Or.inr (by omega))))
  clear T1f''
  have T3f''' := hide (T3f''.out.keep (hr10.2.2.2.2 _ T3f''.out.lt (by first | exact Or.inl (by omega) | exact Or.inr (by omega))))
  clear T3f''
  clear hr10
  have H10 := hide hh10
  clear hh10
  obtain ⟨y0_0, y0_1, y0_2, y0_3, y0_4⟩ := T3f'''.out.cells
  go_wp2_with fail
  refine (heldJ_any HYL.out (by omega) (by omega) H10.out).mono ?_
  rintro _ w11 ⟨rfl, hb11⟩
  clear y0_0 y0_1 y0_2 y0_3 y0_4
  have s_hb11 := hb11.size
  have B_hb11 := hide (B_hr10.out.trans (hb11.mono B_hr10.out.size))
  clear B_hr10
  have JBz'''' := hide (JBz'''.out.below hb11)
  clear JBz'''
  have T0f'''' := hide (T0f'''.out.below hb11)
  clear T0f'''
  have T1f'''' := hide (T1f'''.out.below hb11)
  clear T1f'''
  have T3f'''' := hide (T3f'''.out.below hb11)
  clear T3f'''
  have H10' := hide (H10.out.below hb11)
  clear H10
  clear hb11
  obtain ⟨y0_0, y0_1, y0_2, y0_3, y0_4⟩ := JBz''''.out.cells
  go_wp2_with fail
  refine (HT.out _ B_hb11.out).mono ?_
  rintro _ w12 ⟨v12, rfl, hb12, q12⟩
  clear y0_0 y0_1 y0_2 y0_3 y0_4
  have s_hb12 := hb12.size
  have B_hb12 := hide (B_hb11.out.trans (hb12.mono B_hb11.out.size))
  clear B_hb11
  have JBz''''' := hide (JBz''''.out.below hb12)
  clear JBz''''
  have T0f''''' := hide (T0f''''.out.below hb12)
  clear T0f''''
  have T1f''''' := hide (T1f''''.out.below hb12)
  clear T1f''''
  have T3f''''' := hide (T3f''''.out.below hb12)
  clear T3f''''
  have H10'' := hide (H10'.out.below hb12)
  clear H10'
  clear hb12
  obtain ⟨ea12, eb12, el12, em12, rfl, f1, f2, f3, f4, _⟩ := q12.ex
  obtain ⟨a12, c12, rfl⟩ := own_f16 f1
  obtain ⟨b12, d12, rfl⟩ := own_f16 f2
  obtain ⟨p12, e12, rfl, _⟩ := f3.row
  obtain ⟨r12, t12, rfl, _⟩ := f4.row
  have J12 := hide q12
  clear q12 f1 f2 f3 f4
  go_wp2_with fail
  refine (HI.out _ _ J12.out.jin).mono ?_
  rintro _ w13 ⟨u13, rfl, hb13, q13⟩
  have s_hb13 := hb13.size
  have B_hb13 := hide (B_hb12.out.trans (hb13.mono B_hb12.out.size))
  clear B_hb12
  have JBz'''''' := hide (JBz'''''.out.below hb13)
  clear JBz'''''
  have T0f'''''' := hide (T0f'''''.out.below hb13)
  clear T0f'''''
  have T1f'''''' := hide (T1f'''''.out.below hb13)
  clear T1f'''''
  have T3f'''''' := hide (T3f'''''.out.below hb13)
  clear T3f'''''
  have H10''' := hide (H10''.out.below hb13)
  clear H10''
  have J12' := hide (J12.out.below hb13)
  clear J12
  clear hb13
  obtain ⟨ea13, eb13, el13, em13, rfl, f1, f2, f3, f4, _⟩ := q13.ex
  obtain ⟨a13, c13, rfl⟩ := own_f16 f1
  obtain ⟨b13, d13, rfl⟩ := own_f16 f2
  obtain ⟨p13, e13, rfl, _⟩ := f3.row
  obtain ⟨r13, t13, rfl, _⟩ := f4.row
  have R13 := hide q13
  clear q13 f1 f2 f3 f4
  have hx13 := below_new w13 (.cells #[.slice a13 Y.xs.length c13, .slice b13 Y.ws.length d13, .slice p13 Y.L.length e13, .slice r13 Y.M.length t13, .int .i64 Y.f] 25)
  have X13 := hide (JW.new w13 25 (.slice a13 Y.xs.length c13) (.slice b13 Y.ws.length d13) (.slice p13 Y.L.length e13) (.slice r13 Y.M.length t13) (.int .i64 Y.f))
  have zx13 : (w13.alloc (.cells #[.slice a13 Y.xs.length c13, .slice b13 Y.ws.length d13, .slice p13 Y.L.length e13, .slice r13 Y.M.length t13, .int .i64 Y.f] 25)).heap.size = w13.heap.size + 1 := World.size_alloc _ _
  have s_hx13 := hx13.size
  have B_hx13 := hide (B_hb13.out.trans (hx13.mono B_hb13.out.size))
  clear B_hb13
  have JBz''''''' := hide (JBz''''''.out.below hx13)
  clear JBz''''''
  have T0f''''''' := hide (T0f''''''.out.below hx13)
  clear T0f''''''
  have T1f''''''' := hide (T1f''''''.out.below hx13)
  clear T1f''''''
  have T3f''''''' := hide (T3f''''''.out.below hx13)
  clear T3f''''''
  have H10'''' := hide (H10'''.out.below hx13)
  clear H10'''
  have J12'' := hide (J12'.out.below hx13)
  clear J12'
  have R13' := hide (R13.out.below hx13)
  clear R13
  clear hx13
  clear J12''
  obtain ⟨y0_0, y0_1, y0_2, y0_3, y0_4⟩ := X13.out.cells
  obtain ⟨y1_0, y1_1, y1_2, y1_3, y1_4⟩ := T1f'''''''.out.cells
  go_wp2_with fail
  refine (eqJ_any HYL.out R13'.out.jin T0f'''''''.out.jin).mono ?_
  rintro _ w14 ⟨rfl, hb14⟩
  clear y0_0 y0_1 y0_2 y0_3 y0_4 y1_0 y1_1 y1_2 y1_3 y1_4
  have s_hb14 := hb14.size
  have B_hb14 := hide (B_hx13.out.trans (hb14.mono B_hx13.out.size))
  clear B_hx13
  have JBz'''''''' := hide (JBz'''''''.out.below hb14)
  clear JBz'''''''
  have T0f'''''''' := hide (T0f'''''''.out.below hb14)
  clear T0f'''''''
  have T1f'''''''' := hide (T1f'''''''.out.below hb14)
  clear T1f'''''''
  have T3f'''''''' := hide (T3f'''''''.out.below hb14)
  clear T3f'''''''
  have H10''''' := hide (H10''''.out.below hb14)
  clear H10''''
  have R13'' := hide (R13'.out.below hb14)
  clear R13'
  have X13' := hide (X13.out.below hb14)
  clear X13
  clear hb14
  obtain ⟨y0_0, y0_1, y0_2, y0_3, y0_4⟩ := T3f''''''''.out.cells
  go_wp2_with fail
  refine (heldJ_any HYL.out (by omega) (by omega) H10'''''.out).mono ?_
  rintro _ w15 ⟨rfl, hb15⟩
  clear y0_0 y0_1 y0_2 y0_3 y0_4
  have s_hb15 := hb15.size
  have B_hb15 := hide (B_hb14.out.trans (hb15.mono B_hb14.out.size))
  clear B_hb14
  have JBz''''''''' := hide (JBz''''''''.out.below hb15)
  clear JBz''''''''
  have T0f''''''''' := hide (T0f''''''''.out.below hb15)
  clear T0f''''''''
  have T1f''''''''' := hide (T1f''''''''.out.below hb15)
  clear T1f''''''''
  have T3f''''''''' := hide (T3f''''''''.out.below hb15)
  clear T3f''''''''
  have H10'''''' := hide (H10'''''.out.below hb15)
  clear H10'''''
  have R13''' := hide (R13''.out.below hb15)
  clear R13''
  have X13'' := hide (X13'.out.below hb15)
  clear X13'
  clear hb15
  go_wp2_with fail
  go_ret
  exact ⟨rfl, B_hb15.out⟩
theorem lDj16_walk {v : Value} {x : Jb.J} {o : Int} {w : World} (h : LIn w v x) :
    Calls Try.prog 6 #[v, .int .i64 o] w fun e w' => e = .returned (.bool true) ∧ Below w.heap.size w w' := by
  by_cases hs : x.xs.length + x.ws.length + x.L.length + x.M.length ≤ 1048576
  · exact lDj16_main h hs
  · exact lDj16_long h (by omega)
end Go.Proofs.Ytnjkdfeajlnojaa
