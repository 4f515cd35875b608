/-
  Trees: what nearestJoint of the program answers.
-/
import Derived.Test.YtkiadodoehcbmaaRj11
namespace Go.Proofs.Ytkiadodoehcbmaa
open Go.RowKit

/-- Which are joined, as bools. -/
def JI (n : Nat) (I : List Nat) (J : List Bool) : Prop := J.length = n ∧ ∀ i, i < n → J.getD i false = I.contains i
theorem infoJ : ∃ i0, Try.prog.info? 62 = some i0 ∧ i0.zero = some (.agg #[.int .i64 0, .int .i64 0, .int .i64 0]) ∧ i0.size = 3 ∧ i0.bytes = 24 := by
  have h : (Try.prog.info? 62).map (fun i => (i.zero, i.size, i.bytes)) = some (some (.agg #[.int .i64 0, .int .i64 0, .int .i64 0]), 3, 24) := by kernel_rfl
  obtain ⟨i0, hi, hzz⟩ := Option.map_eq_some_iff.1 h
  simp only [Prod.mk.injEq] at hzz
  exact ⟨i0, hi, hzz.1, hzz.2.1, hzz.2.2⟩
/-- One joint more. -/
theorem push_joint {w : World} {base n : Nat} {v : Value} {xs : List Value} {x y z : Int} (hown : w.ownsRow base 62 3 v n xs) (hn : n ≤ 1000) (hb : base ≤ w.heap.size) :
    ∃ g cap w', (∀ ty, (Builtin.append_ #[73, 73] ty #[v, .slice (some ⟨w.heap.size, 0, none⟩) 1 1]).run Try.prog (w.alloc (.cells #[.int .i64 x, .int .i64 y, .int .i64 z] 62)) = .ok (.slice (some ⟨g, 0, none⟩) (n + 1) cap) w') ∧ w'.ownsRow base 62 3 (.slice (some ⟨g, 0, none⟩) (n + 1) cap) (n + 1) (xs ++ [.int .i64 x, .int .i64 y, .int .i64 z]) ∧ w.grownBy w' v.ownBlock := by
  obtain ⟨i0, hi, hz0, hz1, hz2⟩ := infoJ
  obtain ⟨g, cap, w', h1, h2, h3, _, _⟩ := run_append_lies (P := Try.prog) (w := w.alloc (.cells #[.int .i64 x, .int .i64 y, .int .i64 z] 62)) 73 0 base 62 i0 _ 3 24 Try.underlying73 hi hz0 hz1 hz2 rfl (by decide) v n xs (hown.alloc _) ⟨w.heap.size, 0, none⟩ 1 1 [.int .i64 x, .int .i64 y, .int .i64 z] rfl (fun j u hj => by
      have hj2 : j = 0 ∨ j = 1 ∨ j = 2 := by
        have := (List.getElem?_eq_some_iff.1 hj).1
        simp at this; omega
      rw [add_plain']
      rcases hj2 with rfl | rfl | rfl
      · simp at hj; subst hj; simp
      · simp at hj; subst hj; simp
      · simp at hj; subst hj; simp) (fun u hu => by simp at hu; rcases hu with rfl | rfl | rfl <;> rfl) (by omega) (by unfold maxLen; omega) (by omega) (by simp; omega) _ rfl
  refine ⟨g, cap, w', fun _ => h1, h2, ?_⟩
  have hg := World.grownBy_alloc w (.cells #[.int .i64 x, .int .i64 y, .int .i64 z] 62) v.ownBlock
  exact ⟨h3.os.trans hg.os, h3.tape.trans hg.tape, h3.output.trans hg.output, Nat.le_trans hg.size h3.size, fun b hb hne => (h3.block b (Nat.lt_of_lt_of_le hb hg.size) hne).trans (hg.block b hb hne)⟩
theorem step_append_run11 {P : Program} {w : World} {ops : Array Oper} {o : Oper} {a : Act} {K : Act → World → Prop} {Q : Exit → Act → World → Prop} {E : Prop} (hgd : o.guard = none) (d s : Operand) (t t' : TypeId)
    (ho : o.op = .call { callee := .builtin .append, args := #[d, s], argTypes := #[t, t'] }) (vd vs : Value) (hd : a.eval d = vd) (hs : a.eval s = vs)
    (v' : Value) (w' : World) (hr : (Builtin.append_ #[t, t'] o.type #[vd, vs]).run P w = .ok v' w') (h : K (a.put o.dst v') w') :
    if Region.wanted o (yielded ops a.tmps) = true then Oper.wp P o a w K Q else E := by
  have hw : Region.wanted o (yielded ops a.tmps) = true := by simp [Region.wanted, hgd]
  rw [if_pos hw]
  unfold Oper.wp execOp
  simp only [ho, resolve, invoke, builtin, Sem.run_bind, Sem.run_pure, Result.andThen_ok, List.map_toArray, List.map_cons, List.map_nil, hd, hs, hr]
  exact h
theorem r4_alloc {w1 : World} {ob : Obj} {b p q r s : Nat} {x y u v : Value} (h : w1.cell? ⟨b, p, none⟩ = some x ∧ w1.cell? ⟨b, q, none⟩ = some y ∧ w1.cell? ⟨b, r, none⟩ = some u ∧ w1.cell? ⟨b, s, none⟩ = some v) :
    (w1.alloc ob).cell? ⟨b, p, none⟩ = some x ∧ (w1.alloc ob).cell? ⟨b, q, none⟩ = some y ∧ (w1.alloc ob).cell? ⟨b, r, none⟩ = some u ∧ (w1.alloc ob).cell? ⟨b, s, none⟩ = some v := by
  obtain ⟨h1, h2, h3, h4⟩ := h
  have hl := World.block_lt_of_cell? w1 _ h1
  have hb := below_alloc w1 ob
  exact ⟨(hb.cell (p := ⟨b, p, none⟩) hl).trans h1, (hb.cell (p := ⟨b, q, none⟩) hl).trans h2, (hb.cell (p := ⟨b, r, none⟩) hl).trans h3, (hb.cell (p := ⟨b, s, none⟩) hl).trans h4⟩
/-- Joints that the function made, beyond its own answer's variable. -/
def JO (w wr : World) (v : Value) (L : List (Int × Int)) (P : List (Nat × Nat)) : Prop := wr.ownsRow (w.heap.size + 1) 62 3 v P.length (jce L P) ∧ Below w.heap.size w wr ∧ wr.cell? ⟨w.heap.size, 0, none⟩ = some (.int .i64 0) ∧ wr.cell? ⟨w.heap.size, 1, none⟩ = some (.int .i64 0) ∧ wr.cell? ⟨w.heap.size, 2, none⟩ = some (.int .i64 0) ∧ wr.frozen? ⟨w.heap.size, 0, none⟩ = false ∧ wr.frozen? ⟨w.heap.size, 1, none⟩ = false ∧ wr.frozen? ⟨w.heap.size, 2, none⟩ = false
theorem JO.below {w wr V : World} {v : Value} {L : List (Int × Int)} {P : List (Nat × Nat)} (h : JO w wr v L P) (hb : Below wr.heap.size wr V) : JO w V v L P := by
  obtain ⟨h1, h2, h3, h4, h5, h6, h7, h8⟩ := h
  have hl := World.block_lt_of_cell? wr _ h3
  exact ⟨g_own h1 hb, bw_below h2 hb, (hb.cell (p := ⟨w.heap.size, 0, none⟩) hl).trans h3, (hb.cell (p := ⟨w.heap.size, 1, none⟩) hl).trans h4, (hb.cell (p := ⟨w.heap.size, 2, none⟩) hl).trans h5, (hb.frozen (p := ⟨w.heap.size, 0, none⟩) hl).trans h6, (hb.frozen (p := ⟨w.heap.size, 1, none⟩) hl).trans h7, (hb.frozen (p := ⟨w.heap.size, 2, none⟩) hl).trans h8⟩
theorem JO.push {w wr : World} {v : Value} {L : List (Int × Int)} {P : List (Nat × Nat)} {k i : Nat} (h : JO w wr v L P) (hP : P.length ≤ 100) :
    ∃ g cap w', (∀ ty, (Builtin.append_ #[73, 73] ty #[v, .slice (some ⟨wr.heap.size, 0, none⟩) 1 1]).run Try.prog (wr.alloc (.cells #[.int .i64 (k : Int), .int .i64 (i : Int), .int .i64 (Rt.wp L (k, i))] 62)) = .ok (.slice (some ⟨g, 0, none⟩) (P.length + 1) cap) w') ∧ JO w w' (.slice (some ⟨g, 0, none⟩) (P.length + 1) cap) L (P ++ [(k, i)]) := by
  obtain ⟨h1, h2, h3, h4, h5, h6, h7, h8⟩ := h
  have hl := World.block_lt_of_cell? wr _ h3
  obtain ⟨g, cap, w', hr, own, hg⟩ := push_joint (x := (k : Int)) (y := (i : Int)) (z := Rt.wp L (k, i)) h1 (by omega) hl
  have hne : some w.heap.size ≠ v.ownBlock := fun e => by have := (h1.lt _ e.symm).1; omega
  have hb : w'.heap[w.heap.size]? = wr.heap[w.heap.size]? := hg.block _ hl hne
  refine ⟨g, cap, w', hr, by rw [jce_snoc, List.length_append]; exact own, ?_, (World.cell?_of_block (w := wr) hb).trans h3, (World.cell?_of_block (w := wr) hb).trans h4, (World.cell?_of_block (w := wr) hb).trans h5, (World.frozen?_of_block (w := wr) hb).trans h6, (World.frozen?_of_block (w := wr) hb).trans h7, (World.frozen?_of_block (w := wr) hb).trans h8⟩
  exact h2.trans (grown_under10 hg (fun b e => by have := (h1.lt b e).1; omega) h2.size)
theorem jo_at {w : World} {base n : Nat} {v : Value} {L : List (Int × Int)} {P : List (Nat × Nat)} (h : w.ownsRow base 62 3 v n (jce L P)) (hp : 0 < n) : ∃ g c, v = .slice (some ⟨g, 0, none⟩) n c ∧ JAt w g L P := by
  rcases h.2 with ⟨_, h0⟩ | ⟨g, c, cur, e, hb, hg, _⟩
  · omega
  · subst e
    refine ⟨g, c, rfl, (Array.getElem?_eq_some_iff.1 hg).1, fun i hi => ?_⟩
    obtain ⟨e1, e2, e3⟩ := jce_get L P i hi
    have hl := h.1
    rw [jce_len] at hl
    rw [h.cellAt (i * 3) (by omega), h.cellAt (i * 3 + 1) (by omega), h.cellAt (i * 3 + 2) (by omega)]
    exact ⟨e1, e2, e3⟩
theorem pairs_le (I : List Nat) (n k : Nat) (hk : k ≤ 7) (hn : n ≤ 7) : (Rt.pairs I n k).length ≤ 49 := by
  have h1 : ∀ x, (Rt.rowTo I x n).length ≤ 7 := fun x => by
    unfold Rt.rowTo Rt.ins
    rw [List.length_map]
    have := List.length_filter_le (fun x => I.contains x) (List.range n)
    rw [List.length_range] at this; omega
  have h2 : (Rt.outs I k).length ≤ 7 := by
    unfold Rt.outs
    have := List.length_filter_le (fun x => !I.contains x) (List.range k)
    rw [List.length_range] at this; omega
  unfold Rt.pairs
  have h3 : ∀ l : List Nat, (l.flatMap fun x => Rt.rowTo I x n).length ≤ 7 * l.length := fun l => by
    induction l with
    | nil => simp
    | cons a r ih => rw [List.flatMap_cons, List.length_append, List.length_cons]; have := h1 a; omega
  have := h3 (Rt.outs I k)
  omega
theorem row_le (I : List Nat) (k i : Nat) (hi : i ≤ 7) : (Rt.rowTo I k i).length ≤ 7 := by
  unfold Rt.rowTo Rt.ins
  rw [List.length_map]
  have := List.length_filter_le (fun x => I.contains x) (List.range i)
  rw [List.length_range] at this; omega
theorem row_succ (I : List Nat) (k i : Nat) : Rt.rowTo I k (i + 1) = if I.contains i then Rt.rowTo I k i ++ [(k, i)] else Rt.rowTo I k i := by
  unfold Rt.rowTo
  rw [Rt.ins_succ]
  split
  · simp
  · rfl
set_option maxHeartbeats 8000000 in
theorem nj_any {a : Option Addr} {n c g cg : Nat} {L : List (Int × Int)} {I : List Nat} {J : List Bool} {k j : Nat} {w : World} (hl : Hid (L.length = n)) (hn : n ≤ 7) (hs : Hid (Rt.allS L = true)) (hJI : Hid (JI n I J)) (hbest : Hid (Rt.bestTo L I n n = some (k, j))) (ha : Hid (FRow w a L)) (hJ : Hid (BAt w g J)) :
    Calls Try.prog 46 #[.slice a n c, .slice (some ⟨g, 0, none⟩) n cg] w fun e w' => e = .returned (.agg #[.int .i64 (k : Int), .int .i64 (j : Int), .int .i64 (Rt.wy L k j)]) ∧ Below w.heap.size w w' := by
  have HJO : Hid (JO w (w.alloc (.cells #[.int .i64 0, .int .i64 0, .int .i64 0] 62)) (.slice none 0 0) L []) := hide ⟨World.ownsRow_nil _ _ _ _, below_new _ _, by simp, by simp, by simp, by simp [go_sem], by simp [go_sem], by simp [go_sem]⟩
  obtain ⟨w0, hw0⟩ : ∃ w0, w.alloc (.cells #[.int .i64 0, .int .i64 0, .int .i64 0] 62) = w0 := ⟨_, rfl⟩
  rw [hw0] at HJO
  have HW0 := hide hw0
  clear hw0
  have EW : Hid (∀ args w, (callFunc 36 args).run Try.prog w = .ok (.enter 36 args) w) := hide (enters_of Try.func36 (by kernel_rfl) rfl)
  go_enter Try.func46, Try.ntmps46
  go_upto_region 1 with fail
  rw [HW0.out]
  clear HW0
  go_wp2_with fail
  go_loopw [5, 6, 7, 10] (fun v _ _ s wr => ∃ (x : Nat), s = .int .i64 x ∧ x ≤ n ∧ Hid (JO w wr v L (Rt.pairs I n x))) (fun _ _ _ s _ => n - (intOf s).toNat)
  case atStart => exact ⟨0, rfl, Nat.zero_le _, HJO⟩
  case round =>
    clear HJO
    obtain ⟨x, rfl, hx, HO⟩ := hrel
    by_cases hlt : x < n
    · have x0 : (0 : Int) ≤ (x : Int) := by omega
      have x1 : (x : Int) < (n : Int) := by omega
      have hPL := pairs_le I n x (by omega) hn
      have HPS := hide (Rt.pairs_succ I n x)
      cases hcx : I.contains x
      · have HP2 : Hid (Rt.pairs I n (x + 1) = Rt.pairs I n x ++ Rt.rowTo I x n) := hide (by rw [HPS.out, hcx]; rfl)
        have HCX := hide hcx
        have HOI : Hid (JO w wr u5 L (Rt.pairs I n x ++ Rt.rowTo I x 0)) := hide (by simpa [Rt.rowTo, Rt.ins] using HO.out)
        clear hcx HPS
        go_wp2_with fail
        go_loopw [5, 7, 15] (fun v _ s wr => ∃ (y : Nat), s = .int .i64 y ∧ y ≤ n ∧ Hid (JO w wr v L (Rt.pairs I n x ++ Rt.rowTo I x y))) (fun _ _ s _ => n - (intOf s).toNat)
        case atStart => exact ⟨0, rfl, Nat.zero_le _, HOI⟩
        case round =>
          clear HOI HO
          obtain ⟨y, rfl, hy, HO⟩ := hrel
          by_cases hlty : y < n
          · have y0 : (0 : Int) ≤ (y : Int) := by omega
            have y1 : (y : Int) < (n : Int) := by omega
            have hRL := row_le I x y (by omega)
            have HRS := hide (row_succ I x y)
            have jx := (hJ.out.below HO.out.2.1).2 x (by rw [hJI.out.1]; exact hlt)
            have jy := (hJ.out.below HO.out.2.1).2 y (by rw [hJI.out.1]; exact hlty)
            rw [hJI.out.2 x hlt, HCX.out] at jx
            rw [hJI.out.2 y hlty] at jy
            cases hcy : I.contains y
            · rw [hcy] at jy
              have HO2 : Hid (JO w wr u5 L (Rt.pairs I n x ++ Rt.rowTo I x (y + 1))) := hide (by rw [HRS.out, hcy]; exact HO.out)
              clear hcy HRS
              go_wp2_with fail
              go_roundw
              case rel => exact ⟨y + 1, by go_num, by omega, HO2⟩
              case measure => simp only [intOf]; omega
            · rw [hcy] at jy
              have HR2 : Hid (Rt.pairs I n x ++ Rt.rowTo I x (y + 1) = (Rt.pairs I n x ++ Rt.rowTo I x y) ++ [(x, y)]) := hide (by rw [HRS.out, hcy]; simp)
              obtain ⟨b, o, ea, c1, c2, c3, c4⟩ := two_stops (ha.out.below HO.out.2.1) (i := x) (j := y) (stop_at hl.out hlt) (stop_at hl.out hlty)
              subst ea
              have HWT := hide fun (V : World) => wt_any (w := V) (Rt.allS_at hs.out (stop_at hl.out hlt)) (Rt.allS_at hs.out (stop_at hl.out hlty))
              have HSC : Hid (∀ V, Below w.heap.size w V → V.cell? ⟨b, o + x * 2, none⟩ = some (.int .i64 (L.getD x (0, 0)).1) ∧ V.cell? ⟨b, o + x * 2 + 1, none⟩ = some (.int .i64 (L.getD x (0, 0)).2) ∧ V.cell? ⟨b, o + y * 2, none⟩ = some (.int .i64 (L.getD y (0, 0)).1) ∧ V.cell? ⟨b, o + y * 2 + 1, none⟩ = some (.int .i64 (L.getD y (0, 0)).2)) := hide fun V hV => by
                obtain ⟨b', o', ea, d1, d2, d3, d4⟩ := two_stops (ha.out.below hV) (i := x) (j := y) (stop_at hl.out hlt) (stop_at hl.out hlty)
                cases ea
                exact ⟨d1, d2, d3, d4⟩
              have HPU := hide fun (V : World) (h : Below wr.heap.size wr V) => (HO.out.below h).push (k := x) (i := y) (by rw [List.length_append]; omega)
              have hwp : Rt.wp L (x, y) = Rt.way (L.getD x (0, 0)) (L.getD y (0, 0)) := rfl
              rw [hwp] at HPU
              generalize Rt.way (L.getD x (0, 0)) (L.getD y (0, 0)) = Y at *
              generalize (L.getD x (0, 0)).1 = u1 at *
              generalize (L.getD x (0, 0)).2 = u2 at *
              generalize (L.getD y (0, 0)).1 = v1 at *
              generalize (L.getD y (0, 0)).2 = v2 at *
              clear hcy HRS hwp
              go_upto_region 9 with fail
              go_region_held3 (fun w' => w'.cell? ⟨b, o + x * 2, none⟩ = some (.int .i64 u1) ∧ w'.cell? ⟨b, o + x * 2 + 1, none⟩ = some (.int .i64 u2) ∧ w'.cell? ⟨b, o + y * 2, none⟩ = some (.int .i64 v1) ∧ w'.cell? ⟨b, o + y * 2 + 1, none⟩ = some (.int .i64 v2)) (first | exact ⟨c1, c2, c3, c4⟩ | assumption | exact r4_alloc ‹_› | fail)
                (first
                | (go_at_call 36; refine (HWT.out _).mono ?_; rintro e w1 ⟨rfl, hb1⟩; have hb2 := bw_below ((Below.refl wr.heap.size wr).drew) hb1; have hS1 := HSC.out w1 (bw_below HO.out.2.1 hb2); obtain ⟨g', cap', w6, hr6, jo6⟩ := HPU.out w1 hb2; have hS6 := HSC.out w6 jo6.2.1)
                | (refine step_append_run11 (by rfl) (.tmp 29) (.tmp 42) 73 73 (by rfl) u5 (.slice (some ⟨w1.heap.size, 0, none⟩) 1 1) (by simp [go_sem]) (by simp [go_sem]) _ w6 (hr6 _) ?_)
                | fail)
              have HO6 : Hid (JO w w6 (.slice (some ⟨g', 0, none⟩) ((Rt.pairs I n x ++ Rt.rowTo I x y).length + 1) cap') L (Rt.pairs I n x ++ Rt.rowTo I x (y + 1))) := hide (by rw [HR2.out]; exact jo6)
              rw [List.length_append] at HO6
              clear jo6 hS6 hS1 hb1 hb2 hr6 HPU HSC HWT c1 c2 c3 c4 HO
              go_wp2_with fail
              go_roundw
              case rel => exact ⟨y + 1, by go_num, by omega, HO6⟩
              case measure => simp only [intOf]; omega
          · have hye : y = n := by omega
            subst hye
            have HO2 : Hid (JO w wr u5 L (Rt.pairs I y (x + 1))) := hide (by rw [HP2.out]; exact HO.out)
            go_wp2_with fail
            go_roundw
            case rel => exact ⟨x + 1, by go_num, by omega, HO2⟩
            case measure => simp only [intOf]; omega
      · have HP2 : Hid (Rt.pairs I n (x + 1) = Rt.pairs I n x) := hide (by rw [HPS.out, hcx]; rfl)
        have HCX := hide hcx
        clear hcx HPS
        go_wp2_with fail
        go_loopw [5, 7, 15] (fun v _ s wr => ∃ (y : Nat), s = .int .i64 y ∧ y ≤ n ∧ Hid (JO w wr v L (Rt.pairs I n x))) (fun _ _ s _ => n - (intOf s).toNat)
        case atStart => exact ⟨0, rfl, Nat.zero_le _, HO⟩
        case round =>
          clear HO
          obtain ⟨y, rfl, hy, HO⟩ := hrel
          by_cases hlty : y < n
          · have y0 : (0 : Int) ≤ (y : Int) := by omega
            have y1 : (y : Int) < (n : Int) := by omega
            have jx := (hJ.out.below HO.out.2.1).2 x (by rw [hJI.out.1]; exact hlt)
            rw [hJI.out.2 x hlt, HCX.out] at jx
            go_wp2_with fail
            go_roundw
            case rel => exact ⟨y + 1, by go_num, by omega, HO⟩
            case measure => simp only [intOf]; omega
          · have hye : y = n := by omega
            subst hye
            have HO2 : Hid (JO w wr u5 L (Rt.pairs I y (x + 1))) := hide (by rw [HP2.out]; exact HO.out)
            go_wp2_with fail
            go_roundw
            case rel => exact ⟨x + 1, by go_num, by omega, HO2⟩
            case measure => simp only [intOf]; omega
    · have hxe : x = n := by omega
      subst hxe
      have hPL := pairs_le I x x (by omega) hn
      obtain ⟨o1, o2, o3, o4, o5, o6, o7, o8⟩ := HO.out
      have hP0 : Rt.pairs I x x ≠ [] := fun e => by
        have := hbest.out
        unfold Rt.bestTo at this
        rw [e] at this; cases this
      have hP1 : 0 < (Rt.pairs I x x).length := List.length_pos_iff.2 hP0
      have hbi := Rt.bi_all (f := Rt.wp L) (d := (0, 0)) (P := Rt.pairs I x x) rfl hP1
      have hbl := Rt.bi_lt (f := Rt.wp L) (d := (0, 0)) (P := Rt.pairs I x x) _ hP1
      have hget : (Rt.pairs I x x).getD (Rt.bi (Rt.wp L) (0, 0) (Rt.pairs I x x) (Rt.pairs I x x).length) (0, 0) = (k, j) := by
        have h1 : Rt.bestTo L I x x = _ := hbi
        rw [hbest.out] at h1
        exact (Option.some.inj h1).symm
      obtain ⟨gj, cj, e5, hjat⟩ := jo_at o1 hP1
      subst e5
      have HJA := hide hjat
      obtain ⟨d0, d1, d2⟩ := hjat.2 _ hbl
      rw [hget] at d0 d1 d2
      have hwp : Rt.wp L (k, j) = Rt.wy L k j := rfl
      rw [hwp] at d2
      have HFJ := hide (fj_any (cap := cj) HJA (hide rfl) hP1 (by omega))
      generalize Rt.bi (Rt.wp L) (0, 0) (Rt.pairs I x x) (Rt.pairs I x x).length = m at *
      generalize (Rt.pairs I x x).length = N at *
      have m0 : (0 : Int) ≤ (m : Int) := by omega
      have m1 : (m : Int) < (N : Int) := by omega
      generalize hY : Rt.wy L k j = Y at *
      have HY := hide hY
      clear hY
      have hne : gj ≠ w.heap.size := by have := (o1.lt gj rfl).1; omega
      have hgl := hjat.1
      have hrl := World.block_lt_of_cell? wr _ o3
      clear hget hbi hbl hjat hP0 o1 HO
      go_wp2_with fail
      refine HFJ.out.mono ?_
      rintro e w2 ⟨rfl, hb2⟩
      have e0 := (hb2.cell (p := ⟨gj, m * 3, none⟩) hgl).trans d0
      have e1 := (hb2.cell (p := ⟨gj, m * 3 + 1, none⟩) hgl).trans d1
      have e2 := (hb2.cell (p := ⟨gj, m * 3 + 2, none⟩) hgl).trans d2
      have f0 := (hb2.cell (p := ⟨w.heap.size, 0, none⟩) hrl).trans o3
      have f1 := (hb2.cell (p := ⟨w.heap.size, 1, none⟩) hrl).trans o4
      have f2 := (hb2.cell (p := ⟨w.heap.size, 2, none⟩) hrl).trans o5
      have f3 := (hb2.frozen (p := ⟨w.heap.size, 0, none⟩) hrl).trans o6
      have f4 := (hb2.frozen (p := ⟨w.heap.size, 1, none⟩) hrl).trans o7
      have f5 := (hb2.frozen (p := ⟨w.heap.size, 2, none⟩) hrl).trans o8
      have HB2 := hide (bw_below o2 hb2)
      clear hb2 d0 d1 d2 o2 o3 o4 o5 o6 o7 o8 HFJ
      go_wp2_with fail
      refine bodyPost_ret (v := .agg #[.int .i64 (k : Int), .int .i64 (j : Int), .int .i64 Y]) (by simp [results, Try.results46, go_sem, *]) rfl ⟨by rw [HY.out], ?_⟩
      exact ((HB2.out.setCell (p := ⟨w.heap.size, 0, none⟩) (Nat.le_refl _) _).setCell (p := ⟨w.heap.size, 1, none⟩) (Nat.le_refl _) _).setCell (p := ⟨w.heap.size, 2, none⟩) (Nat.le_refl _) _
end Go.Proofs.Ytkiadodoehcbmaa
