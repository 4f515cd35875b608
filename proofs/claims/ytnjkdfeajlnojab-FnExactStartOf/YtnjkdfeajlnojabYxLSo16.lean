/-
  At any job the function answers as the model does: the law's own walk.
-/
import Derived.Test.YtnjkdfeajlnojabY3
import Derived.Test.YtnjkdfeajlnojabY4
namespace Go.Proofs.Ytnjkdfeajlnojab
open Go.RowKit

set_option maxHeartbeats 1000000 in
theorem lSo16_long {v : Value} {x : Jb.J} {w : World} (h : LIn w v x) (hs : 1048576 < x.xs.length + x.ws.length + x.L.length + x.M.length) :
    Calls Try.prog 3 #[v] w fun e w' => e = .returned (.bool true) ∧ Below w.heap.size w w' := by
  obtain ⟨a, b, p, r, c, d, e, t, rfl, ⟨l1, l2, l3, l4⟩, ra, rb, rp, rr⟩ := h.ex
  have hb0 := below_new w (.cells #[.slice a x.xs.length c, .slice b x.ws.length d, .slice p x.L.length e, .slice r x.M.length t, .int .i64 x.f] 25)
  go_enter Try.func3, Try.ntmps3
  go_wp2_with fail
  refine (szJ_no l1 l2 l3 l4 hs).mono ?_
  rintro _ w1 ⟨rfl, hb⟩
  have HB := hide (hb0.trans (hb.mono hb0.size))
  clear hb
  go_wp2_with fail
  go_ret
  exact ⟨rfl, HB.out⟩
set_option maxRecDepth 100000 in
set_option maxHeartbeats 8000000 in
theorem lSo16_main {v : Value} {x : Jb.J} {w : World} (h : LIn w v x) (hs : x.xs.length + x.ws.length + x.L.length + x.M.length ≤ 1048576) :
    Calls Try.prog 3 #[v] w fun e w' => e = .returned (.bool true) ∧ Below w.heap.size w w' := by
  obtain ⟨a, b, p, r, c, d, e, t, rfl, _, ra, rb, rp, rr⟩ := h.ex
  have hl : x.xs.length ≤ 1048576 ∧ x.ws.length ≤ 1048576 ∧ x.L.length ≤ 1048576 ∧ x.M.length ≤ 1048576 := by omega
  have HT := hide fun (W : World) (hb : Below w.heap.size w W) => toJ_any (w := W) (c := c) (d := d) (e := e) (t := t) hl (ra.below hb) (rb.below hb) (rp.below hb) (rr.below hb)
  have HSZ := hide (szJ_yes (w := w.alloc (.cells #[.slice a x.xs.length c, .slice b x.ws.length d, .slice p x.L.length e, .slice r x.M.length t, .int .i64 x.f] 25)) (a := a) (b := b) (p := p) (r := r) (c := c) (d := d) (e := e) (t := t) (f := x.f) hs)
  have HL := hide hl
  have hwg : wgt x ≤ 2097152 := by unfold wgt; omega
  have hz : ¬ (1048576 : Int) - (x.xs.length : Int) - (x.ws.length : Int) - (x.L.length : Int) - (x.M.length : Int) < 0 := by omega
  have hjb := JW.new w 25 (.slice a x.xs.length c) (.slice b x.ws.length d) (.slice p x.L.length e) (.slice r x.M.length t) (.int .i64 x.f)
  have JB := hide hjb
  have BB := hide (below_new w (.cells #[.slice a x.xs.length c, .slice b x.ws.length d, .slice p x.L.length e, .slice r x.M.length t, .int .i64 x.f] 25))
  have sz0 : (w.alloc (.cells #[.slice a x.xs.length c, .slice b x.ws.length d, .slice p x.L.length e, .slice r x.M.length t, .int .i64 x.f] 25)).heap.size = w.heap.size + 1 := World.size_alloc _ _
  obtain ⟨c0, c1, c2, c3, c4⟩ := hjb.cells
  have HS := hide fun (W : World) (u : Value) (h : JIn W u x) => sso_in h
  have HI := hide fun (W : World) (u : Value) (h : JIn W u x) => so_in h
  have y9 := soL_le x
  generalize soB x = G at *
  generalize soL x = Y at *
  generalize hy : Y.length = N at *
  have HY := hide hy
  clear hy
  have hne : (G != G) = false := by simp
  clear h ra rb rp rr hl hjb
  go_enter Try.func3, Try.ntmps3
  go_wp2_with fail
  refine HSZ.out.mono ?_
  rintro _ w0 ⟨rfl, hb0⟩
  have B0 := hide (BB.out.trans (hb0.mono BB.out.size))
  have sz1 : w.heap.size + 1 ≤ w0.heap.size := by have := hb0.size; omega
  have JB' := hide (JB.out.below hb0)
  clear hb0 HSZ JB c0 c1 c2 c3 c4 BB
  obtain ⟨c0, c1, c2, c3, c4⟩ := JB'.out.cells
  go_wp2_with fail
  refine (HT.out _ B0.out).mono ?_
  rintro _ w1 ⟨v1, rfl, hb1, o1⟩
  clear c0 c1 c2 c3 c4
  have B1 := hide (B0.out.trans (hb1.mono B0.out.size))
  have s1 := hb1.size
  have JB'' := hide (JB'.out.below hb1)
  clear JB'
  have J1 := hide o1
  clear o1
  clear hb1
  go_wp2_with fail
  refine (HS.out _ _ J1.out.jin).mono ?_
  rintro _ w2 ⟨u2, rfl, hb2, q2⟩
  have B2 := hide (B1.out.trans (hb2.mono B1.out.size))
  have s2 := hb2.size
  have JB''' := hide (JB''.out.below hb2)
  clear JB''
  have J1' := hide (J1.out.below hb2)
  clear J1
  have A2 := hide q2
  clear q2
  clear hb2
  clear J1'
  obtain ⟨c0, c1, c2, c3, c4⟩ := JB'''.out.cells
  go_wp2_with fail
  refine (HT.out _ B2.out).mono ?_
  rintro _ w3 ⟨v3, rfl, hb3, o3⟩
  clear c0 c1 c2 c3 c4
  have B3 := hide (B2.out.trans (hb3.mono B2.out.size))
  have s3 := hb3.size
  have JB'''' := hide (JB'''.out.below hb3)
  clear JB'''
  have A2' := hide (A2.out.below hb3)
  clear A2
  have J3 := hide o3
  clear o3
  clear hb3
  obtain ⟨a3, b3, p3, r3, c3, d3, e3, t3, rfl, _⟩ := J3.out.jin.ex
  have hx3 := below_new w3 (.cells #[.slice a3 x.xs.length c3, .slice b3 x.ws.length d3, .slice p3 x.L.length e3, .slice r3 x.M.length t3, .int .i64 x.f] 31)
  have X3 := hide (JW.new w3 31 (.slice a3 x.xs.length c3) (.slice b3 x.ws.length d3) (.slice p3 x.L.length e3) (.slice r3 x.M.length t3) (.int .i64 x.f))
  have zx3 : (w3.alloc (.cells #[.slice a3 x.xs.length c3, .slice b3 x.ws.length d3, .slice p3 x.L.length e3, .slice r3 x.M.length t3, .int .i64 x.f] 31)).heap.size = w3.heap.size + 1 := World.size_alloc _ _
  have Bx3 := hide (B3.out.trans (hx3.mono B3.out.size))
  have JB''''' := hide (JB''''.out.below hx3)
  clear JB''''
  have A2'' := hide (A2'.out.below hx3)
  clear A2'
  have J3' := hide (J3.out.below hx3)
  clear J3
  clear hx3
  obtain ⟨x0, x1, x2, x3, x4⟩ := X3.out.cells
  go_wp2_with fail
  refine (HI.out _ _ J3'.out.jin).mono ?_
  rintro _ w4 ⟨u4, rfl, hb4, q4⟩
  clear x0 x1 x2 x3 x4
  have B4 := hide (Bx3.out.trans (hb4.mono Bx3.out.size))
  have s4 := hb4.size
  have JB'''''' := hide (JB'''''.out.below hb4)
  clear JB'''''
  have A2''' := hide (A2''.out.below hb4)
  clear A2''
  have J3'' := hide (J3'.out.below hb4)
  clear J3'
  have X3' := hide (X3.out.below hb4)
  clear X3
  have A4 := hide q4
  clear q4
  clear hb4
  go_wp2_with fail
  refine (eq_av HY (by omega) A4.out A2'''.out).mono ?_
  rintro _ w5 ⟨rfl, hb5⟩
  have B5 := hide (B4.out.trans (hb5.mono B4.out.size))
  have s5 := hb5.size
  have JB''''''' := hide (JB''''''.out.below hb5)
  clear JB''''''
  have A2'''' := hide (A2'''.out.below hb5)
  clear A2'''
  have J3''' := hide (J3''.out.below hb5)
  clear J3''
  have X3'' := hide (X3'.out.below hb5)
  clear X3'
  have A4' := hide (A4.out.below hb5)
  clear A4
  clear hb5
  go_wp2_with fail
  have hbd : Below w5.heap.size w5 w5.drew := (Below.refl _ _).drew
  have hP := JB'''''''.out.below hbd
  have hQ := X3''.out.below hbd
  have Jd := hide (J3'''.out.below hbd)
  have Bd := hide (B5.out.trans (hbd.mono B5.out.size))
  have sd : w5.drew.heap.size = w5.heap.size := rfl
  have A2qqqqd := hide (A2''''.out.below hbd)
  have A4qd := hide (A4'.out.below hbd)
  have hSd := (⟨hP.cells.1, hP.cells.2.1, hP.cells.2.2.1, hP.cells.2.2.2.1, hP.cells.2.2.2.2, hQ.cells.1, hQ.cells.2.1, hQ.cells.2.2.1, hQ.cells.2.2.2.1, hQ.cells.2.2.2.2⟩ : _ ∧ _ ∧ _ ∧ _ ∧ _ ∧ _ ∧ _ ∧ _ ∧ _ ∧ _)
  clear hbd JB''''''' A2'''' J3''' X3'' A4'
  go_region_held3 (fun w' => w'.cell? ⟨w.heap.size, 0, none⟩ = some (.slice a x.xs.length c) ∧ w'.cell? ⟨w.heap.size, 1, none⟩ = some (.slice b x.ws.length d) ∧ w'.cell? ⟨w.heap.size, 2, none⟩ = some (.slice p x.L.length e) ∧ w'.cell? ⟨w.heap.size, 3, none⟩ = some (.slice r x.M.length t) ∧ w'.cell? ⟨w.heap.size, 4, none⟩ = some (.int .i64 x.f) ∧ w'.cell? ⟨w3.heap.size, 0, none⟩ = some (.slice a3 x.xs.length c3) ∧ w'.cell? ⟨w3.heap.size, 1, none⟩ = some (.slice b3 x.ws.length d3) ∧ w'.cell? ⟨w3.heap.size, 2, none⟩ = some (.slice p3 x.L.length e3) ∧ w'.cell? ⟨w3.heap.size, 3, none⟩ = some (.slice r3 x.M.length t3) ∧ w'.cell? ⟨w3.heap.size, 4, none⟩ = some (.int .i64 x.f))
    (first | exact hSd | assumption | fail)
    (first
    | (go_at_call 6; refine (HT.out _ Bd.out).mono ?_; rintro _ w6 ⟨v6, rfl, hb6, o6⟩; have s6 := hb6.size; have B6 := hide (Bd.out.trans (hb6.mono Bd.out.size)); have hP6 := hP.below hb6; have hQ6 := hQ.below hb6; have Je := hide (Jd.out.below hb6); have A2qqqqe := hide (A2qqqqd.out.below hb6); clear A2qqqqd; have A4qe := hide (A4qd.out.below hb6); clear A4qd; obtain ⟨aq, bq, pq, rq, cq, dq, eq, tq, rfl, _⟩ := o6.jin.ex; have Jn := hide o6; have hS6 := (⟨hP6.cells.1, hP6.cells.2.1, hP6.cells.2.2.1, hP6.cells.2.2.2.1, hP6.cells.2.2.2.2, hQ6.cells.1, hQ6.cells.2.1, hQ6.cells.2.2.1, hQ6.cells.2.2.2.1, hQ6.cells.2.2.2.2⟩ : _ ∧ _ ∧ _ ∧ _ ∧ _ ∧ _ ∧ _ ∧ _ ∧ _ ∧ _); clear hb6 o6 Jd Bd)
    | (go_at_call 9; refine (eqJ_any HL.out Je.out.jin Jn.out.jin).mono ?_; rintro _ w7 ⟨rfl, hb7⟩; have s7 := hb7.size; have B7 := hide (B6.out.trans (hb7.mono B6.out.size)); have hP7 := hP6.below hb7; have hQ7 := hQ6.below hb7; have Jf := hide (Je.out.below hb7); have A2qqqqf := hide (A2qqqqe.out.below hb7); clear A2qqqqe; have A4qf := hide (A4qe.out.below hb7); clear A4qe; have hS7 := (⟨hP7.cells.1, hP7.cells.2.1, hP7.cells.2.2.1, hP7.cells.2.2.2.1, hP7.cells.2.2.2.2, hQ7.cells.1, hQ7.cells.2.1, hQ7.cells.2.2.1, hQ7.cells.2.2.2.1, hQ7.cells.2.2.2.2⟩ : _ ∧ _ ∧ _ ∧ _ ∧ _ ∧ _ ∧ _ ∧ _ ∧ _ ∧ _); clear hb7 Je Jn B6)
    | fail)
  have JBz := hide hP7
  have Xz := hide hQ7
  have Ai := hide A4qf.out
  have As := hide A2qqqqf.out
  clear A4qf A2qqqqf
  obtain ⟨x0, x1, x2, x3, x4⟩ := Xz.out.cells
  go_wp2_with fail
  refine (markJ_any HL.out (by omega) (by omega) Jf.out).mono ?_
  rintro _ w8 ⟨rfl, _, hr8⟩
  have B8 := hide (B7.out.trans (hr8.below (by omega) B7.out.size))
  have s8 := hr8.2.2.2.1
  have JB8 := hide (JBz.out.keep (hr8.2.2.2.2 _ JBz.out.lt (Or.inl (by omega))))
  have Z8 := hide (Ai.out.rng hr8 (Or.inr (by omega)))
  have Y8 := hide (As.out.rng hr8 (Or.inl (by omega)))
  clear Ai As Jf JBz Xz hr8 x0 x1 x2 x3 x4
  have hk8 : ¬ (1 : Int) + (wgt x : Nat) < 0 := by omega
  go_wp2_with fail
  refine (eq_av HY (by omega) Z8.out Y8.out).mono ?_
  rintro _ w9 ⟨rfl, hb9⟩
  have B9 := hide (B8.out.trans (hb9.mono B8.out.size))
  have s9 := hb9.size
  have JB8' := hide (JB8.out.below hb9)
  clear JB8
  have Z8' := hide (Z8.out.below hb9)
  clear Z8
  have Y8' := hide (Y8.out.below hb9)
  clear Y8
  clear hb9
  have at10 := Z8'.out.at_
  go_wp2_with fail
  refine (mark_av HY (by omega) (by omega) (by omega) Z8'.out).mono ?_
  rintro _ w10 ⟨rfl, hh10, hg10⟩
  have B10 := hide (B9.out.trans (grown_under10 hg10 (fun b e => by have := at10 b e; omega) B9.out.size))
  have s10 := hg10.size
  have JB10 := hide (JB8'.out.grown hg10 (fun e => by have := at10 _ e; omega))
  have Y10 := hide (Y8'.out.grownQ hg10 (fun b e => by have := at10 b e; exact Or.inl (by omega)))
  have H10 := hide hh10
  clear Z8' Y8' JB8' hg10 hh10 at10
  have hn10 : ¬ (1 : Int) + (N : Int) < 0 := by omega
  have hm10 : ((1 : Int) + (N : Int) != (1 : Int) + (N : Int)) = false := by simp
  go_wp2_with fail
  refine (held_hv (by omega) (by omega) (by omega) H10.out).mono ?_
  rintro _ wz ⟨rfl, hwz⟩
  obtain rfl := hwz.symm
  obtain ⟨c0, c1, c2, c3, c4⟩ := JB10.out.cells
  go_wp2_with fail
  refine (HT.out _ B10.out).mono ?_
  rintro _ w11 ⟨v11, rfl, hb11, o11⟩
  clear c0 c1 c2 c3 c4
  have B11 := hide (B10.out.trans (hb11.mono B10.out.size))
  have s11 := hb11.size
  have JB10' := hide (JB10.out.below hb11)
  clear JB10
  have Y10' := hide (Y10.out.below hb11)
  clear Y10
  have H10' := hide (H10.out.below hb11)
  clear H10
  have J11 := hide o11
  clear o11
  clear hb11
  go_wp2_with fail
  refine (HI.out _ _ J11.out.jin).mono ?_
  rintro _ w12 ⟨u12, rfl, hb12, q12⟩
  have B12 := hide (B11.out.trans (hb12.mono B11.out.size))
  have s12 := hb12.size
  have JB10'' := hide (JB10'.out.below hb12)
  clear JB10'
  have Y10'' := hide (Y10'.out.below hb12)
  clear Y10'
  have H10'' := hide (H10'.out.below hb12)
  clear H10'
  have J11' := hide (J11.out.below hb12)
  clear J11
  have A12 := hide q12
  clear q12
  clear hb12
  clear J11'
  go_wp2_with fail
  refine (eq_av HY (by omega) A12.out Y10''.out).mono ?_
  rintro _ w13 ⟨rfl, hb13⟩
  have B13 := hide (B12.out.trans (hb13.mono B12.out.size))
  have s13 := hb13.size
  have JB10''' := hide (JB10''.out.below hb13)
  clear JB10''
  have Y10''' := hide (Y10''.out.below hb13)
  clear Y10''
  have H10''' := hide (H10''.out.below hb13)
  clear H10''
  have A12' := hide (A12.out.below hb13)
  clear A12
  clear hb13
  go_wp2_with fail
  refine (held_hv (by omega) (by omega) (by omega) H10'''.out).mono ?_
  rintro _ wz ⟨rfl, hwz⟩
  obtain rfl := hwz.symm
  go_wp2_with fail
  go_ret
  exact ⟨rfl, B13.out⟩
theorem lSo16_walk {v : Value} {x : Jb.J} {w : World} (h : LIn w v x) :
    Calls Try.prog 3 #[v] w fun e w' => e = .returned (.bool true) ∧ Below w.heap.size w w' := by
  by_cases hs : x.xs.length + x.ws.length + x.L.length + x.M.length ≤ 1048576
  · exact lSo16_main h hs
  · exact lSo16_long h (by omega)
end Go.Proofs.Ytnjkdfeajlnojab
