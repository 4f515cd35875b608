/-
  In one: Rk11, Shelf, Jl0, Wn11, Rl11, Rn11, Ro11, Ja, Jb, Bu11, Bv11, Bw11, Cn11, By11, Bx11.
-/
import Derived.Test.YtnfcedccjfnceaaY2
import Derived.Test.YtnfcedccjfnceaaChecked
import Derived.Shelf.Bits.Mul64
import Derived.Deep.RegionLaw
import Derived.Test.YtnfcedccjfnceaaY1
import Derived.Laws.CopyRow
import Derived.RangeFuncBox
import Derived.RangeFuncLeaves
import Derived.WalkKit
import Derived.TacticsInMore
import Derived.LoopNIn
import Derived.LoopIn
import Derived.ArgAppend
import Derived.BigQuiet
import Derived.OwnWalkIn
namespace Go.Proofs.Ytnfcedccjfnceaa
open Go.RowKit

/-- Which are joined, as bools. -/
def JI (n : Nat) (I : List Nat) (J : List Bool) : Prop := J.length = n ∧ ∀ i, i < n → J.getD i false = I.contains i
theorem infoJ : ∃ i0, Try.prog.info? 67 = some i0 ∧ i0.zero = some (.agg #[.int .i64 0, .int .i64 0, .int .i64 0]) ∧ i0.size = 3 ∧ i0.bytes = 24 := by
  have h : (Try.prog.info? 67).map (fun i => (i.zero, i.size, i.bytes)) = some (some (.agg #[.int .i64 0, .int .i64 0, .int .i64 0]), 3, 24) := by kernel_rfl
  obtain ⟨i0, hi, hzz⟩ := Option.map_eq_some_iff.1 h
  simp only [Prod.mk.injEq] at hzz
  exact ⟨i0, hi, hzz.1, hzz.2.1, hzz.2.2⟩
/-- One joint more. -/
theorem push_joint {w : World} {base n : Nat} {v : Value} {xs : List Value} {x y z : Int} (hown : w.ownsRow base 67 3 v n xs) (hn : n ≤ 1000) (hb : base ≤ w.heap.size) :
    ∃ g cap w', (∀ ty, (Builtin.append_ #[80, 80] ty #[v, .slice (some ⟨w.heap.size, 0, none⟩) 1 1]).run Try.prog (w.alloc (.cells #[.int .i64 x, .int .i64 y, .int .i64 z] 67)) = .ok (.slice (some ⟨g, 0, none⟩) (n + 1) cap) w') ∧ w'.ownsRow base 67 3 (.slice (some ⟨g, 0, none⟩) (n + 1) cap) (n + 1) (xs ++ [.int .i64 x, .int .i64 y, .int .i64 z]) ∧ w.grownBy w' v.ownBlock := by
  obtain ⟨i0, hi, hz0, hz1, hz2⟩ := infoJ
  obtain ⟨g, cap, w', h1, h2, h3, _, _⟩ := run_append_lies (P := Try.prog) (w := w.alloc (.cells #[.int .i64 x, .int .i64 y, .int .i64 z] 67)) 80 0 base 67 i0 _ 3 24 Try.underlying80 hi hz0 hz1 hz2 rfl (by decide) v n xs (hown.alloc _) ⟨w.heap.size, 0, none⟩ 1 1 [.int .i64 x, .int .i64 y, .int .i64 z] rfl (fun j u hj => by
      have hj2 : j = 0 ∨ j = 1 ∨ j = 2 := by
        have := (List.getElem?_eq_some_iff.1 hj).1
        simp at this; omega
      rw [add_plain']
      rcases hj2 with rfl | rfl | rfl
      · simp at hj; subst hj; simp
      · simp at hj; subst hj; simp
      · simp at hj; subst hj; simp) (fun u hu => by simp at hu; rcases hu with rfl | rfl | rfl <;> rfl) (by omega) (by unfold maxLen; omega) (by omega) (by simp; omega) _ rfl
  refine ⟨g, cap, w', fun _ => h1, h2, ?_⟩
  have hg := World.grownBy_alloc w (.cells #[.int .i64 x, .int .i64 y, .int .i64 z] 67) v.ownBlock
  exact ⟨h3.os.trans hg.os, h3.tape.trans hg.tape, h3.output.trans hg.output, Nat.le_trans hg.size h3.size, fun b hb hne => (h3.block b (Nat.lt_of_lt_of_le hb hg.size) hne).trans (hg.block b hb hne)⟩
theorem step_append_run11 {P : Program} {w : World} {ops : Array Oper} {o : Oper} {a : Act} {K : Act → World → Prop} {Q : Exit → Act → World → Prop} {E : Prop} (hgd : o.guard = none) (d s : Operand) (t t' : TypeId)
    (ho : o.op = .call { callee := .builtin .append, args := #[d, s], argTypes := #[t, t'] }) (vd vs : Value) (hd : a.eval d = vd) (hs : a.eval s = vs)
    (v' : Value) (w' : World) (hr : (Builtin.append_ #[t, t'] o.type #[vd, vs]).run P w = .ok v' w') (h : K (a.put o.dst v') w') :
    if Region.wanted o (yielded ops a.tmps) = true then Oper.wp P o a w K Q else E := by
  have hw : Region.wanted o (yielded ops a.tmps) = true := by simp [Region.wanted, hgd]
  rw [if_pos hw]
  unfold Oper.wp execOp
  simp only [ho, resolve, invoke, builtin, Sem.run_bind, Sem.run_pure, Result.andThen_ok, List.map_toArray, List.map_cons, List.map_nil, hd, hs, hr]
  exact h
theorem r4_alloc {w1 : World} {ob : Obj} {b p q r s : Nat} {x y u v : Value} (h : w1.cell? ⟨b, p, none⟩ = some x ∧ w1.cell? ⟨b, q, none⟩ = some y ∧ w1.cell? ⟨b, r, none⟩ = some u ∧ w1.cell? ⟨b, s, none⟩ = some v) :
    (w1.alloc ob).cell? ⟨b, p, none⟩ = some x ∧ (w1.alloc ob).cell? ⟨b, q, none⟩ = some y ∧ (w1.alloc ob).cell? ⟨b, r, none⟩ = some u ∧ (w1.alloc ob).cell? ⟨b, s, none⟩ = some v := by
  obtain ⟨h1, h2, h3, h4⟩ := h
  have hl := World.block_lt_of_cell? w1 _ h1
  have hb := below_alloc w1 ob
  exact ⟨(hb.cell (p := ⟨b, p, none⟩) hl).trans h1, (hb.cell (p := ⟨b, q, none⟩) hl).trans h2, (hb.cell (p := ⟨b, r, none⟩) hl).trans h3, (hb.cell (p := ⟨b, s, none⟩) hl).trans h4⟩
/-- Joints that the function made, beyond its own answer's variable. -/
def JO (w wr : World) (v : Value) (L : List (Int × Int)) (P : List (Nat × Nat)) : Prop := wr.ownsRow (w.heap.size + 1) 67 3 v P.length (jce L P) ∧ Below w.heap.size w wr ∧ wr.cell? ⟨w.heap.size, 0, none⟩ = some (.int .i64 0) ∧ wr.cell? ⟨w.heap.size, 1, none⟩ = some (.int .i64 0) ∧ wr.cell? ⟨w.heap.size, 2, none⟩ = some (.int .i64 0) ∧ wr.frozen? ⟨w.heap.size, 0, none⟩ = false ∧ wr.frozen? ⟨w.heap.size, 1, none⟩ = false ∧ wr.frozen? ⟨w.heap.size, 2, none⟩ = false
theorem JO.below {w wr V : World} {v : Value} {L : List (Int × Int)} {P : List (Nat × Nat)} (h : JO w wr v L P) (hb : Below wr.heap.size wr V) : JO w V v L P := by
  obtain ⟨h1, h2, h3, h4, h5, h6, h7, h8⟩ := h
  have hl := World.block_lt_of_cell? wr _ h3
  exact ⟨g_own h1 hb, bw_below h2 hb, (hb.cell (p := ⟨w.heap.size, 0, none⟩) hl).trans h3, (hb.cell (p := ⟨w.heap.size, 1, none⟩) hl).trans h4, (hb.cell (p := ⟨w.heap.size, 2, none⟩) hl).trans h5, (hb.frozen (p := ⟨w.heap.size, 0, none⟩) hl).trans h6, (hb.frozen (p := ⟨w.heap.size, 1, none⟩) hl).trans h7, (hb.frozen (p := ⟨w.heap.size, 2, none⟩) hl).trans h8⟩
theorem JO.push {w wr : World} {v : Value} {L : List (Int × Int)} {P : List (Nat × Nat)} {k i : Nat} (h : JO w wr v L P) (hP : P.length ≤ 100) :
    ∃ g cap w', (∀ ty, (Builtin.append_ #[80, 80] ty #[v, .slice (some ⟨wr.heap.size, 0, none⟩) 1 1]).run Try.prog (wr.alloc (.cells #[.int .i64 (k : Int), .int .i64 (i : Int), .int .i64 (Rt.wp L (k, i))] 67)) = .ok (.slice (some ⟨g, 0, none⟩) (P.length + 1) cap) w') ∧ JO w w' (.slice (some ⟨g, 0, none⟩) (P.length + 1) cap) L (P ++ [(k, i)]) := by
  obtain ⟨h1, h2, h3, h4, h5, h6, h7, h8⟩ := h
  have hl := World.block_lt_of_cell? wr _ h3
  obtain ⟨g, cap, w', hr, own, hg⟩ := push_joint (x := (k : Int)) (y := (i : Int)) (z := Rt.wp L (k, i)) h1 (by omega) hl
  have hne : some w.heap.size ≠ v.ownBlock := fun e => by have := (h1.lt _ e.symm).1; omega
  have hb : w'.heap[w.heap.size]? = wr.heap[w.heap.size]? := hg.block _ hl hne
  refine ⟨g, cap, w', hr, by rw [jce_snoc, List.length_append]; exact own, ?_, (World.cell?_of_block (w := wr) hb).trans h3, (World.cell?_of_block (w := wr) hb).trans h4, (World.cell?_of_block (w := wr) hb).trans h5, (World.frozen?_of_block (w := wr) hb).trans h6, (World.frozen?_of_block (w := wr) hb).trans h7, (World.frozen?_of_block (w := wr) hb).trans h8⟩
  exact h2.trans (grown_under10 hg (fun b e => by have := (h1.lt b e).1; omega) h2.size)
theorem jo_at {w : World} {base n : Nat} {v : Value} {L : List (Int × Int)} {P : List (Nat × Nat)} (h : w.ownsRow base 67 3 v n (jce L P)) (hp : 0 < n) : ∃ g c, v = .slice (some ⟨g, 0, none⟩) n c ∧ JAt w g L P := by
  rcases h.2 with ⟨_, h0⟩ | ⟨g, c, cur, e, hb, hg, _⟩
  · omega
  · subst e
    refine ⟨g, c, rfl, (Array.getElem?_eq_some_iff.1 hg).1, fun i hi => ?_⟩
    obtain ⟨e1, e2, e3⟩ := jce_get L P i hi
    have hl := h.1
    rw [jce_len] at hl
    rw [h.cellAt (i * 3) (by omega), h.cellAt (i * 3 + 1) (by omega), h.cellAt (i * 3 + 2) (by omega)]
    exact ⟨e1, e2, e3⟩
theorem pairs_le (I : List Nat) (n k : Nat) (hk : k ≤ 7) (hn : n ≤ 7) : (Rt.pairs I n k).length ≤ 49 := by
  have h1 : ∀ x, (Rt.rowTo I x n).length ≤ 7 := fun x => by
    unfold Rt.rowTo Rt.ins
    rw [List.length_map]
    have := List.length_filter_le (fun x => I.contains x) (List.range n)
    rw [List.length_range] at this; omega
  have h2 : (Rt.outs I k).length ≤ 7 := by
    unfold Rt.outs
    have := List.length_filter_le (fun x => !I.contains x) (List.range k)
    rw [List.length_range] at this; omega
  unfold Rt.pairs
  have h3 : ∀ l : List Nat, (l.flatMap fun x => Rt.rowTo I x n).length ≤ 7 * l.length := fun l => by
    induction l with
    | nil => simp
    | cons a r ih => rw [List.flatMap_cons, List.length_append, List.length_cons]; have := h1 a; omega
  have := h3 (Rt.outs I k)
  omega
theorem row_le (I : List Nat) (k i : Nat) (hi : i ≤ 7) : (Rt.rowTo I k i).length ≤ 7 := by
  unfold Rt.rowTo Rt.ins
  rw [List.length_map]
  have := List.length_filter_le (fun x => I.contains x) (List.range i)
  rw [List.length_range] at this; omega
theorem row_succ (I : List Nat) (k i : Nat) : Rt.rowTo I k (i + 1) = if I.contains i then Rt.rowTo I k i ++ [(k, i)] else Rt.rowTo I k i := by
  unfold Rt.rowTo
  rw [Rt.ins_succ]
  split
  · simp
  · rfl
set_option maxRecDepth 100000 in
set_option maxHeartbeats 8000000 in
theorem nj_any {a : Option Addr} {n c g cg : Nat} {L : List (Int × Int)} {I : List Nat} {J : List Bool} {k j : Nat} {w : World} (hl : Hid (L.length = n)) (hn : n ≤ 7) (hs : Hid (Rt.allS L = true)) (hJI : Hid (JI n I J)) (hbest : Hid (Rt.bestTo L I n n = some (k, j))) (ha : Hid (FRow w a L)) (hJ : Hid (BAt w g J)) :
    Calls Try.prog 42 #[.slice a n c, .slice (some ⟨g, 0, none⟩) n cg] w fun e w' => e = .returned (.agg #[.int .i64 (k : Int), .int .i64 (j : Int), .int .i64 (Rt.wy L k j)]) ∧ Below w.heap.size w w' := by
  have HJO : Hid (JO w (w.alloc (.cells #[.int .i64 0, .int .i64 0, .int .i64 0] 67)) (.slice none 0 0) L []) := hide ⟨World.ownsRow_nil _ _ _ _, below_new _ _, by simp, by simp, by simp, by simp [go_sem], by simp [go_sem], by simp [go_sem]⟩
  obtain ⟨w0, hw0⟩ : ∃ w0, w.alloc (.cells #[.int .i64 0, .int .i64 0, .int .i64 0] 67) = w0 := ⟨_, rfl⟩
  rw [hw0] at HJO
  have HW0 := hide hw0
  clear hw0
  have EW : Hid (∀ args w, (callFunc 44 args).run Try.prog w = .ok (.enter 44 args) w) := hide (enters_of Try.func44 (by kernel_rfl) rfl)
  go_enter Try.func42, Try.ntmps42
  go_upto_region 1 with fail
  rw [HW0.out]
  clear HW0
  go_wp2_with fail
  go_loopw [5, 6, 7, 10] (fun v _ _ s wr => ∃ (x : Nat), s = .int .i64 x ∧ x ≤ n ∧ Hid (JO w wr v L (Rt.pairs I n x))) (fun _ _ _ s _ => n - (intOf s).toNat)
  case atStart => exact ⟨0, rfl, Nat.zero_le _, HJO⟩
  case round =>
    clear HJO
    obtain ⟨x, rfl, hx, HO⟩ := hrel
    by_cases hlt : x < n
    · have x0 : (0 : Int) ≤ (x : Int) := by omega
      have x1 : (x : Int) < (n : Int) := by omega
      have hPL := pairs_le I n x (by omega) hn
      have HPS := hide (Rt.pairs_succ I n x)
      cases hcx : I.contains x
      · have HP2 : Hid (Rt.pairs I n (x + 1) = Rt.pairs I n x ++ Rt.rowTo I x n) := hide (by rw [HPS.out, hcx]; rfl)
        have HCX := hide hcx
        have HOI : Hid (JO w wr u5 L (Rt.pairs I n x ++ Rt.rowTo I x 0)) := hide (by simpa [Rt.rowTo, Rt.ins] using HO.out)
        clear hcx HPS
        go_wp2_with fail
        go_loopw [5, 7, 15] (fun v _ s wr => ∃ (y : Nat), s = .int .i64 y ∧ y ≤ n ∧ Hid (JO w wr v L (Rt.pairs I n x ++ Rt.rowTo I x y))) (fun _ _ s _ => n - (intOf s).toNat)
        case atStart => exact ⟨0, rfl, Nat.zero_le _, HOI⟩
        case round =>
          clear HOI HO
          obtain ⟨y, rfl, hy, HO⟩ := hrel
          by_cases hlty : y < n
          · have y0 : (0 : Int) ≤ (y : Int) := by omega
            have y1 : (y : Int) < (n : Int) := by omega
            have hRL := row_le I x y (by omega)
            have HRS := hide (row_succ I x y)
            have jx := (hJ.out.below HO.out.2.1).2 x (by rw [hJI.out.1]; exact hlt)
            have jy := (hJ.out.below HO.out.2.1).2 y (by rw [hJI.out.1]; exact hlty)
            rw [hJI.out.2 x hlt, HCX.out] at jx
            rw [hJI.out.2 y hlty] at jy
            cases hcy : I.contains y
            · rw [hcy] at jy
              have HO2 : Hid (JO w wr u5 L (Rt.pairs I n x ++ Rt.rowTo I x (y + 1))) := hide (by rw [HRS.out, hcy]; exact HO.out)
              clear hcy HRS
              go_wp2_with fail
              go_roundw
              case rel => exact ⟨y + 1, by go_num, by omega, HO2⟩
              case measure => simp only [intOf]; omega
            · rw [hcy] at jy
              have HR2 : Hid (Rt.pairs I n x ++ Rt.rowTo I x (y + 1) = (Rt.pairs I n x ++ Rt.rowTo I x y) ++ [(x, y)]) := hide (by rw [HRS.out, hcy]; simp)
              obtain ⟨b, o, ea, c1, c2, c3, c4⟩ := two_stops (ha.out.below HO.out.2.1) (i := x) (j := y) (stop_at hl.out hlt) (stop_at hl.out hlty)
              subst ea
              have HWT := hide fun (V : World) => wt_any (w := V) (Rt.allS_at hs.out (stop_at hl.out hlt)) (Rt.allS_at hs.out (stop_at hl.out hlty))
              have HSC : Hid (∀ V, Below w.heap.size w V → V.cell? ⟨b, o + x * 2, none⟩ = some (.int .i64 (L.getD x (0, 0)).1) ∧ V.cell? ⟨b, o + x * 2 + 1, none⟩ = some (.int .i64 (L.getD x (0, 0)).2) ∧ V.cell? ⟨b, o + y * 2, none⟩ = some (.int .i64 (L.getD y (0, 0)).1) ∧ V.cell? ⟨b, o + y * 2 + 1, none⟩ = some (.int .i64 (L.getD y (0, 0)).2)) := hide fun V hV => by
                obtain ⟨b', o', ea, d1, d2, d3, d4⟩ := two_stops (ha.out.below hV) (i := x) (j := y) (stop_at hl.out hlt) (stop_at hl.out hlty)
                cases ea
                exact ⟨d1, d2, d3, d4⟩
              have HPU := hide fun (V : World) (h : Below wr.heap.size wr V) => (HO.out.below h).push (k := x) (i := y) (by rw [List.length_append]; omega)
              have hwp : Rt.wp L (x, y) = Rt.way (L.getD x (0, 0)) (L.getD y (0, 0)) := rfl
              rw [hwp] at HPU
              generalize Rt.way (L.getD x (0, 0)) (L.getD y (0, 0)) = Y at *
              generalize (L.getD x (0, 0)).1 = u1 at *
              generalize (L.getD x (0, 0)).2 = u2 at *
              generalize (L.getD y (0, 0)).1 = v1 at *
              generalize (L.getD y (0, 0)).2 = v2 at *
              clear hcy HRS hwp
              go_upto_region 9 with fail
              go_region_held3 (fun w' => w'.cell? ⟨b, o + x * 2, none⟩ = some (.int .i64 u1) ∧ w'.cell? ⟨b, o + x * 2 + 1, none⟩ = some (.int .i64 u2) ∧ w'.cell? ⟨b, o + y * 2, none⟩ = some (.int .i64 v1) ∧ w'.cell? ⟨b, o + y * 2 + 1, none⟩ = some (.int .i64 v2)) (first | exact ⟨c1, c2, c3, c4⟩ | assumption | exact r4_alloc ‹_› | fail)
                (first
                | (go_at_call 44; refine (HWT.out _).mono ?_; rintro e w1 ⟨rfl, hb1⟩; have hb2 := bw_below ((Below.refl wr.heap.size wr).drew) hb1; have hS1 := HSC.out w1 (bw_below HO.out.2.1 hb2); obtain ⟨g', cap', w6, hr6, jo6⟩ := HPU.out w1 hb2; have hS6 := HSC.out w6 jo6.2.1)
                | (refine step_append_run11 (by rfl) (.tmp 29) (.tmp 42) 80 80 (by rfl) u5 (.slice (some ⟨w1.heap.size, 0, none⟩) 1 1) (by simp [go_sem]) (by simp [go_sem]) _ w6 (hr6 _) ?_)
                | fail)
              have HO6 : Hid (JO w w6 (.slice (some ⟨g', 0, none⟩) ((Rt.pairs I n x ++ Rt.rowTo I x y).length + 1) cap') L (Rt.pairs I n x ++ Rt.rowTo I x (y + 1))) := hide (by rw [HR2.out]; exact jo6)
              rw [List.length_append] at HO6
              clear jo6 hS6 hS1 hb1 hb2 hr6 HPU HSC HWT c1 c2 c3 c4 HO
              go_wp2_with fail
              go_roundw
              case rel => exact ⟨y + 1, by go_num, by omega, HO6⟩
              case measure => simp only [intOf]; omega
          · have hye : y = n := by omega
            subst hye
            have HO2 : Hid (JO w wr u5 L (Rt.pairs I y (x + 1))) := hide (by rw [HP2.out]; exact HO.out)
            go_wp2_with fail
            go_roundw
            case rel => exact ⟨x + 1, by go_num, by omega, HO2⟩
            case measure => simp only [intOf]; omega
      · have HP2 : Hid (Rt.pairs I n (x + 1) = Rt.pairs I n x) := hide (by rw [HPS.out, hcx]; rfl)
        have HCX := hide hcx
        clear hcx HPS
        go_wp2_with fail
        go_loopw [5, 7, 15] (fun v _ s wr => ∃ (y : Nat), s = .int .i64 y ∧ y ≤ n ∧ Hid (JO w wr v L (Rt.pairs I n x))) (fun _ _ s _ => n - (intOf s).toNat)
        case atStart => exact ⟨0, rfl, Nat.zero_le _, HO⟩
        case round =>
          clear HO
          obtain ⟨y, rfl, hy, HO⟩ := hrel
          by_cases hlty : y < n
          · have y0 : (0 : Int) ≤ (y : Int) := by omega
            have y1 : (y : Int) < (n : Int) := by omega
            have jx := (hJ.out.below HO.out.2.1).2 x (by rw [hJI.out.1]; exact hlt)
            rw [hJI.out.2 x hlt, HCX.out] at jx
            go_wp2_with fail
            go_roundw
            case rel => exact ⟨y + 1, by go_num, by omega, HO⟩
            case measure => simp only [intOf]; omega
          · have hye : y = n := by omega
            subst hye
            have HO2 : Hid (JO w wr u5 L (Rt.pairs I y (x + 1))) := hide (by rw [HP2.out]; exact HO.out)
            go_wp2_with fail
            go_roundw
            case rel => exact ⟨x + 1, by go_num, by omega, HO2⟩
            case measure => simp only [intOf]; omega
    · have hxe : x = n := by omega
      subst hxe
      have hPL := pairs_le I x x (by omega) hn
      obtain ⟨o1, o2, o3, o4, o5, o6, o7, o8⟩ := HO.out
      have hP0 : Rt.pairs I x x ≠ [] := fun e => by
        have := hbest.out
        unfold Rt.bestTo at this
        rw [e] at this; cases this
      have hP1 : 0 < (Rt.pairs I x x).length := List.length_pos_iff.2 hP0
      have hbi := Rt.bi_all (f := Rt.wp L) (d := (0, 0)) (P := Rt.pairs I x x) rfl hP1
      have hbl := Rt.bi_lt (f := Rt.wp L) (d := (0, 0)) (P := Rt.pairs I x x) _ hP1
      have hget : (Rt.pairs I x x).getD (Rt.bi (Rt.wp L) (0, 0) (Rt.pairs I x x) (Rt.pairs I x x).length) (0, 0) = (k, j) := by
        have h1 : Rt.bestTo L I x x = _ := hbi
        rw [hbest.out] at h1
        exact (Option.some.inj h1).symm
      obtain ⟨gj, cj, e5, hjat⟩ := jo_at o1 hP1
      subst e5
      have HJA := hide hjat
      obtain ⟨d0, d1, d2⟩ := hjat.2 _ hbl
      rw [hget] at d0 d1 d2
      have hwp : Rt.wp L (k, j) = Rt.wy L k j := rfl
      rw [hwp] at d2
      have HFJ := hide (fj_any (cap := cj) HJA (hide rfl) hP1 (by omega))
      generalize Rt.bi (Rt.wp L) (0, 0) (Rt.pairs I x x) (Rt.pairs I x x).length = m at *
      generalize (Rt.pairs I x x).length = N at *
      have m0 : (0 : Int) ≤ (m : Int) := by omega
      have m1 : (m : Int) < (N : Int) := by omega
      generalize hY : Rt.wy L k j = Y at *
      have HY := hide hY
      clear hY
      have hne : gj ≠ w.heap.size := by have := (o1.lt gj rfl).1; omega
      have hgl := hjat.1
      have hrl := World.block_lt_of_cell? wr _ o3
      clear hget hbi hbl hjat hP0 o1 HO
      go_wp2_with fail
      refine HFJ.out.mono ?_
      rintro e w2 ⟨rfl, hb2⟩
      have e0 := (hb2.cell (p := ⟨gj, m * 3, none⟩) hgl).trans d0
      have e1 := (hb2.cell (p := ⟨gj, m * 3 + 1, none⟩) hgl).trans d1
      have e2 := (hb2.cell (p := ⟨gj, m * 3 + 2, none⟩) hgl).trans d2
      have f0 := (hb2.cell (p := ⟨w.heap.size, 0, none⟩) hrl).trans o3
      have f1 := (hb2.cell (p := ⟨w.heap.size, 1, none⟩) hrl).trans o4
      have f2 := (hb2.cell (p := ⟨w.heap.size, 2, none⟩) hrl).trans o5
      have f3 := (hb2.frozen (p := ⟨w.heap.size, 0, none⟩) hrl).trans o6
      have f4 := (hb2.frozen (p := ⟨w.heap.size, 1, none⟩) hrl).trans o7
      have f5 := (hb2.frozen (p := ⟨w.heap.size, 2, none⟩) hrl).trans o8
      have HB2 := hide (bw_below o2 hb2)
      clear hb2 d0 d1 d2 o2 o3 o4 o5 o6 o7 o8 HFJ
      go_wp2_with fail
      refine bodyPost_ret (v := .agg #[.int .i64 (k : Int), .int .i64 (j : Int), .int .i64 Y]) (by simp [results, Try.results42, go_sem, *]) rfl ⟨by rw [HY.out], ?_⟩
      exact ((HB2.out.setCell (p := ⟨w.heap.size, 0, none⟩) (Nat.le_refl _) _).setCell (p := ⟨w.heap.size, 1, none⟩) (Nat.le_refl _) _).setCell (p := ⟨w.heap.size, 2, none⟩) (Nat.le_refl _) _
end Go.Proofs.Ytnfcedccjfnceaa
namespace Go.Proofs
open Go.Shelf
def Try.lays212_ren : Go.Shelf.Ren := ⟨fun | 212 => 54 | 263 => 62 | 264 => 63 | n => n, fun | 46 => 76 | 51 => 86 | 146 => 87 | 53 => 46 | 148 => 89 | n => n, fun | n => n⟩
theorem Try.lays212 : Go.Proofs.Lays.n212 Try.prog Try.lays212_ren := {
  mixed := by kernel_rfl
  f212 := Try.func54.trans (congrArg some (by kernel_rfl))
  f263 := Try.func62.trans (congrArg some (by kernel_rfl))
  f264 := Try.func63.trans (congrArg some (by kernel_rfl))
  t46 := Try.underlying76
  a46 := Try.isAgg76
  z46 := Try.sizeOf76
  v46 := Try.zeroValue76
  t51 := Try.underlying86
  a51 := Try.isAgg86
  z51 := Try.sizeOf86
  v51 := Try.zeroValue86
  t53 := Try.underlying46
  a53 := Try.isAgg46
  z53 := Try.sizeOf46
  v53 := Try.zeroValue46
  t146 := Try.underlying87
  a146 := Try.isAgg87
  z146 := Try.sizeOf87
  v146 := Try.zeroValue87
  t148 := Try.underlying89
  a148 := Try.isAgg89
  z148 := Try.sizeOf89
  v148 := Try.zeroValue89 }
open Go.RowKit Go.Lib in
theorem Try.bits_Mul (x y : Nat) (hx : x < 18446744073709551616) (hy : y < 18446744073709551616) (w : World) :
    Calls Try.prog 54 #[.int .u64 x, .int .u64 y] w fun e w' => e = .returned (.tuple #[.int .u64 ((x * y / 18446744073709551616 : Nat) : Int), .int .u64 ((x * y % 18446744073709551616 : Nat) : Int)]) ∧ w' = w := Any.bits_Mul Try.lays212 x y hx hy w
end Go.Proofs
namespace Go.Proofs.Ytnfcedccjfnceaa
open Go.RowKit

theorem step_copy_run {P : Program} {w : World} {ops : Array Oper} {o : Oper} {a : Act} {K : Act → World → Prop} {Q : Exit → Act → World → Prop} {E : Prop} (hgd : o.guard = none) (d s : Operand) (t t' : TypeId)
    (ho : o.op = .call { callee := .builtin .copy, args := #[d, s], argTypes := #[t, t'] }) (vd vs : Value) (hd : a.eval d = vd) (hs : a.eval s = vs)
    (v' : Value) (w' : World) (hr : (Builtin.copy_ #[t, t'] o.type #[vd, vs]).run P w = .ok v' w') (h : K (a.put o.dst v') w') :
    if Region.wanted o (yielded ops a.tmps) = true then Oper.wp P o a w K Q else E := by
  have hw : Region.wanted o (yielded ops a.tmps) = true := by simp [Region.wanted, hgd]
  rw [if_pos hw]
  unfold Oper.wp execOp
  simp only [ho, resolve, invoke, builtin, Sem.run_bind, Sem.run_pure, Result.andThen_ok, List.map_toArray, List.map_cons, List.map_nil, hd, hs, hr]
  exact h
theorem wpList_copy_run8 {P : Program} {w : World} {ops : Array Oper} {rest : List Oper} {o : Oper} {a : Act} {Q : Exit → Act → World → Prop} (hgd : o.guard = none) (d s : Operand) (t t' : TypeId)
    (ho : o.op = .call { callee := .builtin .copy, args := #[d, s], argTypes := #[t, t'] }) (vd vs : Value) (hd : a.eval d = vd) (hs : a.eval s = vs)
    (v' : Value) (w' : World) (hr : (Builtin.copy_ #[t, t'] o.type #[vd, vs]).run P w = .ok v' w') (h : wpList P ops Q rest (a.put o.dst v') w') : wpList P ops Q (o :: rest) a w := by
  refine wpList_plain hgd fun _ hK => ?_
  unfold Oper.wp execOp
  simp only [ho, resolve, invoke, builtin, Sem.run_bind, Sem.run_pure, Result.andThen_ok, List.map_toArray, List.map_cons, List.map_nil, hd, hs, hr]
  exact hK _ _ h
end Go.Proofs.Ytnfcedccjfnceaa
namespace Go.Proofs.Ytnfcedccjfnceaa
open Go.RowKit

/-- The first k of n are -1. -/
def mixN (n k : Nat) : List Int := List.replicate k (-1) ++ List.replicate (n - k) 0
theorem mixN_len (n k : Nat) (h : k ≤ n) : (mixN n k).length = n := by simp [mixN]; omega
theorem mixN_zero (n : Nat) : mixN n 0 = List.replicate n 0 := by simp [mixN]
theorem mixN_all (n : Nat) : mixN n n = List.replicate n (-1) := by simp [mixN]
theorem mixN_get {n k j : Nat} (h : j < k) (hk : k ≤ n) : (ints (mixN n k))[j]? = some (.int .i64 (-1)) := by
  rw [ints_get _ j (by rw [mixN_len n k hk]; omega)]
  simp [mixN, List.getElem?_append, h]
theorem mixN_copy {n k j : Nat} (_hj : k + j ≤ n) : (ints (mixN n k)).take k ++ ints (List.replicate j (-1)) ++ (ints (mixN n k)).drop (k + j) = ints (mixN n (k + j)) := by
  have e1 : (ints (mixN n k)).take k = ints (List.replicate k (-1)) := by simp [mixN, ints]
  have e2 : (ints (mixN n k)).drop (k + j) = ints (List.replicate (n - (k + j)) 0) := by
    unfold ints mixN
    rw [← List.map_drop, List.drop_append, List.drop_of_length_le (by simp)]
    simp; omega
  rw [e1, e2]
  unfold mixN ints
  rw [← List.map_append, ← List.map_append, List.replicate_append_replicate]
/-- What is copied from the front of a list to behind it, or from another list. -/
theorem cp_own {w : World} {base X n k j : Nat} {a : Addr} {sL sC : Nat} (hj : k + j ≤ n) (hmin : j = Nat.min sL (n - k)) (hX : w.ownsRow base 3 1 (.slice (some ⟨X, 0, none⟩) n n) n (ints (mixN n k))) (hs : ∀ i, i < j → w.cell? (a.add i) = some (.int .i64 (-1))) :
    ∃ w', (∀ ty, (Builtin.copy_ #[24, 24] ty #[.slice (some ⟨X, k, none⟩) (n - k) (n - k), .slice (some a) sL sC]).run Try.prog w = .ok (.int .i64 (j : Int)) w') ∧ w'.ownsRow base 3 1 (.slice (some ⟨X, 0, none⟩) n n) n (ints (mixN n (k + j))) ∧ w.grownBy w' (some X) := by
  rcases hX.2 with ⟨h, _⟩ | ⟨g, cap, cur, hv, hb, hg, hnc, hcm, hcs, htake⟩
  · cases h
  cases hv
  have hsz : (Try.prog.info? 3).map (·.size) = some 1 := by kernel_rfl
  have hl : (ints (List.replicate j (-1))).length = j := by simp [ints]
  have hrun := fun ty => run_copy_row (P := Try.prog) w 24 24 ty 3 X k (n - k) (n - k) a sL sC cur 3 (ints (List.replicate j (-1))) Try.underlying24 hsz hg (by rw [hl]; exact hmin) (fun i v hi => by
    have hij : i < j := by have := (List.getElem?_eq_some_iff.1 hi).1; omega
    have : v = .int .i64 (-1) := by simpa [ints, hij] using hi.symm
    rw [this]; exact hs i hij) (by rw [hl]; omega) (c_ints _)
  have hcur : cur.toList = ints (mixN n k) := by
    rw [← htake, List.take_of_length_le (by simp; omega)]
  rw [hl, hcur, mixN_copy hj] at hrun
  refine ⟨w.setRow X (ints (mixN n (k + j))).toArray, hrun, ⟨by simp [ints, mixN_len n (k + j) hj], .inr ⟨X, n, _, rfl, hb, setRow_heap w X _ _ _ _ hg, hnc, hcm, ?_, ?_⟩⟩, ⟨rfl, rfl, rfl, by simp [World.setRow], fun k _ hne => setRow_other w X k _ (by simpa using hne)⟩⟩
  · simp [ints, mixN_len n (k + j) hj]
  · rw [List.take_of_length_le (by simp [ints, mixN_len n (k + j) hj])]
theorem mul_c (n : Nat) (hn : n ≤ 10) (w : World) : Calls Try.prog 54 #[.int .u64 1, .int .u64 (n : Int)] w fun e w' => e = .returned (.tuple #[.int .u64 0, .int .u64 (n : Int)]) ∧ w' = w := by
  have := Try.bits_Mul 1 n (by omega) (by omega) w
  rw [Nat.one_mul, Nat.div_eq_of_lt (by omega), Nat.mod_eq_of_lt (by omega)] at this
  exact this
set_option maxRecDepth 20000 in
set_option maxHeartbeats 400000 in
theorem rp_any {B n : Nat} {w : World} (hn : n ≤ 10) (hc : w.cell? ⟨B, 0, none⟩ = some (.int .i64 (-1))) (hB : B < w.heap.size) :
    Calls Try.prog 40 #[.slice (some ⟨B, 0, none⟩) 1 1, .int .i64 (n : Int)] w fun e w' => e = .returned (.slice (some ⟨w.heap.size, 0, none⟩) n n) ∧ Below w.heap.size w w' ∧ w'.ownsRow w.heap.size 3 1 (.slice (some ⟨w.heap.size, 0, none⟩) n n) n (ints (List.replicate n (-1))) := by
  have h1 : IntKind.u64.wrap (n : Int) = (n : Int) := by rw [IntKind.wrap_u64]; omega
  have h2 : IntKind.i64.wrap (n : Int) = (n : Int) := by rw [IntKind.wrap_i64]; omega
  have h3 : ¬ (9223372036854775807 : Int) < (n : Int) := by omega
  have h4 : ¬ (n : Int) < 0 := by omega
  have hmk := makeI_run n (by omega)
  have hM := made_own w n (by omega)
  rw [← mixN_zero] at hM
  have hcn : (w.alloc (.cells (madeCells #[.int .i64 0] n) 3)).cell? ⟨B, 0, none⟩ = some (.int .i64 (-1)) := ((below_new w _).cell (p := ⟨B, 0, none⟩) hB).trans hc
  obtain ⟨j0, hj0, hj1⟩ : ∃ j0, j0 = Nat.min 1 (n - 0) ∧ 0 + j0 ≤ n := ⟨_, rfl, by simp only [Nat.min_def]; split <;> omega⟩
  have hj2 : n = 0 ∨ 1 ≤ j0 := by simp only [Nat.min_def] at hj0; split at hj0 <;> omega
  obtain ⟨w1, hr1, own1, hg1⟩ := cp_own (a := ⟨B, 0, none⟩) (sL := 1) (sC := 1) hj1 hj0 hM (fun i hi => by
    have : i = 0 := by simp only [Nat.min_def] at hj0; split at hj0 <;> omega
    subst this
    rw [add_plain']; exact hcn)
  simp only [Nat.zero_add, Nat.sub_zero] at hr1 own1
  have HB1 := hide ((below_new w (.cells (madeCells #[.int .i64 0] n) 3)).trans (grown_below' hg1 (Nat.le_refl _) (by simp)))
  have HO1 := hide own1
  have HJ := hide hj2
  clear own1 hg1 hM hc hcn hj0 hj2
  go_enter Try.func40, Try.ntmps40
  go_wp2_with fail
  refine (mul_c n hn _).mono ?_
  rintro e w0 ⟨rfl, hw0⟩
  obtain rfl : w = w0 := hw0.symm
  go_wp2_with (first | (at_builtin; refine wpList_copy_run8 rfl _ _ _ _ rfl _ _ rfl rfl _ _ (hr1 _) ?_))
  clear hr1 hmk h1 h2 h4
  go_loopw [8] (fun s8 wr => ∃ (k : Nat), s8 = .int .i64 k ∧ k ≤ n ∧ Hid (n = 0 ∨ 1 ≤ k) ∧ Hid (wr.ownsRow w.heap.size 3 1 (.slice (some ⟨w.heap.size, 0, none⟩) n n) n (ints (mixN n k))) ∧ Hid (Below w.heap.size w wr)) (fun s _ => n - (intOf s).toNat)
  case atStart => exact ⟨j0, rfl, by omega, HJ, HO1, HB1⟩
  case round =>
    clear HO1 HB1 HJ
    obtain ⟨k, rfl, hk, HJ, HO, HB⟩ := hrel
    by_cases hlt : k < n
    · have k1 : 1 ≤ k := by have := HJ.out; omega
      have i0 : (0 : Int) ≤ (k : Int) := by omega
      have i1 : (k : Int) < (n : Int) := by omega
      have i2 : (k : Int) ≤ (n : Int) := by omega
      have i3 : ¬ k = n := by omega
      have i5 : ¬ n = k := by omega
      have i4 : ¬ (k : Int) = (n : Int) := by omega
      obtain ⟨j, hj, hj1⟩ : ∃ j, j = Nat.min k (n - k) ∧ k + j ≤ n := ⟨_, rfl, by simp only [Nat.min_def]; split <;> omega⟩
      have hj2 : 1 ≤ j := by simp only [Nat.min_def] at hj; split at hj <;> omega
      have hjk : j ≤ k := by simp only [Nat.min_def] at hj; split at hj <;> omega
      obtain ⟨w2, hr2, own2, hg2⟩ := cp_own (w := wr.drew) (a := ⟨w.heap.size, 0, none⟩) (sL := k) (sC := n) hj1 hj HO.out.drew (fun i hi => by
        rw [add_plain', Nat.zero_add, HO.out.drew.cellAt i (by omega)]
        exact mixN_get (by omega) hk)
      have HO2 := hide own2
      have HB2 := hide (HB.out.trans (grown_below' (w := wr) ⟨hg2.os, hg2.tape, hg2.output, hg2.size, hg2.block⟩ (Nat.le_refl _) HB.out.size))
      have w1 : IntKind.i64.wrap ((k : Int) + (j : Int)) = (k : Int) + (j : Int) := by rw [IntKind.wrap_i64]; omega
      have HR2 : Hid (∀ ty, (Builtin.copy_ #[24, 24] ty #[.slice (if n = k then some ⟨w.heap.size, 0, none⟩ else some ⟨w.heap.size, k, none⟩) (n - k) (n - k), .slice (some ⟨w.heap.size, 0, none⟩) k n]).run Try.prog wr.drew = .ok (.int .i64 (j : Int)) w2) := hide fun ty => by rw [if_neg i5]; exact hr2 ty
      clear own2 hg2 hj hr2 i5 i3
      go_wp2_with fail
      go_region_law ((refine step_copy_run (w := wr.drew) (by rfl) (.tmp 41) (.tmp 44) 24 24 (by rfl) (.slice (if n = k then some ⟨w.heap.size, 0, none⟩ else some ⟨w.heap.size, k, none⟩) (n - k) (n - k)) (.slice (some ⟨w.heap.size, 0, none⟩) k n) (by simp [go_sem]) (by simp [go_sem]) (.int .i64 (j : Int)) w2 (HR2.out _) ?_))
      go_wp2_with fail
      go_roundw
      case rel => exact ⟨k + j, by go_num, hj1, (by show n = 0 ∨ 1 ≤ k + j; omega), HO2⟩
      case measure => simp only [intOf]; omega
    · have hke : k = n := by omega
      subst hke
      have HF : Hid (wr.ownsRow w.heap.size 3 1 (.slice (some ⟨w.heap.size, 0, none⟩) k k) k (ints (List.replicate k (-1)))) := hide (by rw [← mixN_all]; exact HO.out)
      go_wp2_with fail
      go_ret
      exact ⟨rfl, HB.out, HF.out⟩
end Go.Proofs.Ytnfcedccjfnceaa
namespace Go.Proofs.Ytnfcedccjfnceaa
open Go.RowKit

/-- By which the stops are joined, and which are joined, in two blocks. -/
def TP (w wr : World) (U G n : Nat) (up : List Int) (J : List Bool) : Prop :=
  wr.ownsRow w.heap.size 3 1 (.slice (some ⟨U, 0, none⟩) n n) n (ints up) ∧ wr.ownsRow w.heap.size 4 1 (.slice (some ⟨G, 0, none⟩) n n) n (bls J) ∧ U ≠ G ∧ Below w.heap.size w wr
theorem TP.below {w wr V : World} {U G n : Nat} {up : List Int} {J : List Bool} (h : TP w wr U G n up J) (hb : Below wr.heap.size wr V) : TP w V U G n up J :=
  ⟨g_own h.1 hb, g_own h.2.1 hb, h.2.2.1, bw_below h.2.2.2 hb⟩
theorem bls_at (J : List Bool) (i : Nat) (h : i < J.length) : (bls J)[i]? = some (.bool (J.getD i false)) := by
  simp [bls, h]
theorem TP.lo {w wr : World} {U G n : Nat} {up : List Int} {J : List Bool} (h : TP w wr U G n up J) : w.heap.size ≤ U ∧ w.heap.size ≤ G ∧ U < wr.heap.size ∧ G < wr.heap.size := by
  have h1 := h.1.lt U rfl
  have h2 := h.2.1.lt G rfl
  exact ⟨h1.1, h2.1, h1.2, h2.2⟩
theorem TP.bat {w wr : World} {U G n : Nat} {up : List Int} {J : List Bool} (h : TP w wr U G n up J) (hJ : J.length = n) : BAt wr G J :=
  ⟨h.lo.2.2.2, fun i hi => by rw [h.2.1.cellAt i (by omega), bls_at J i hi]⟩
theorem TP.putU {w wr : World} {U G n : Nat} {up : List Int} {J : List Bool} (h : TP w wr U G n up J) (i : Nat) (z : Int) : TP w (wr.setCell ⟨U, i, none⟩ (.int .i64 z)) U G n (up.set i z) J := by
  obtain ⟨h1, h2, h3, h4⟩ := h
  obtain ⟨s1, s2⟩ := h1.stored i (.int .i64 z)
  rw [ints_set] at s1
  exact ⟨s1, h2.kept s2 (Or.inr fun e => by simp [Value.ownBlock] at e; omega), h3, h4.setCell (p := ⟨U, i, none⟩) (h1.lt U rfl).1 _⟩
theorem TP.putG {w wr : World} {U G n : Nat} {up : List Int} {J : List Bool} (h : TP w wr U G n up J) (i : Nat) (z : Bool) : TP w (wr.setCell ⟨G, i, none⟩ (.bool z)) U G n up (J.set i z) := by
  obtain ⟨h1, h2, h3, h4⟩ := h
  obtain ⟨s1, s2⟩ := h2.stored i (.bool z)
  rw [bls_set] at s1
  exact ⟨h1.kept s2 (Or.inr fun e => by simp [Value.ownBlock] at e; omega), s1, h3, h4.setCell (p := ⟨G, i, none⟩) (h2.lt G rfl).1 _⟩
/-- How many are not joined, as memory tells. -/
def bfOf : Option Value → Nat
  | some (.bool false) => 1
  | _ => 0
def cntF (w : World) (G n : Nat) : Nat := ((List.range n).map fun i => bfOf (w.cell? ⟨G, i, none⟩)).sum
theorem cnt_outs {w : World} {G n : Nat} {I : List Nat} {J : List Bool} (hb : BAt w G J) (hj : JI n I J) : cntF w G n = (Rt.outs I n).length := by
  have : ∀ k, k ≤ n → ((List.range k).map fun i => bfOf (w.cell? ⟨G, i, none⟩)).sum = (Rt.outs I k).length := fun k => by
    induction k with
    | zero => intro _; rfl
    | succ k ih =>
      intro hk
      have e : bfOf (w.cell? ⟨G, k, none⟩) = if I.contains k then 0 else 1 := by
        rw [hb.2 k (by rw [hj.1]; omega), hj.2 k (by omega)]
        cases I.contains k <;> rfl
      rw [List.range_succ, List.map_append, List.sum_append, ih (by omega), Rt.outs_succ]
      simp only [List.map_cons, List.map_nil, List.sum_cons, List.sum_nil, e]
      split
      · simp
      · simp
  exact this n (Nat.le_refl _)
theorem outs_less {I : List Nat} {n k : Nat} (hk : k < n) (hm : ¬ k ∈ I) : (Rt.outs (I ++ [k]) n).length < (Rt.outs I n).length := by
  have e : Rt.outs (I ++ [k]) n = (Rt.outs I n).filter fun x => !(x == k) := by
    unfold Rt.outs
    rw [List.filter_filter]
    refine List.filter_congr fun x _ => ?_
    simp only [List.contains_eq_mem, List.mem_append, List.mem_singleton]
    by_cases h1 : x ∈ I <;> by_cases h2 : x = k <;> simp [h1, h2]
  rw [e]
  refine List.length_filter_lt_length_iff_exists.2 ⟨k, List.mem_filter.2 ⟨List.mem_range.2 hk, by simpa using hm⟩, by simp⟩
theorem JI.add {n k : Nat} {I : List Nat} {J : List Bool} (h : JI n I J) (hk : k < n) : JI n (I ++ [k]) (J.set k true) := by
  refine ⟨by simpa using h.1, fun i hi => ?_⟩
  by_cases e : i = k
  · subst e
    have : (J.set i true).getD i false = true := by simp [h.1, hi]
    rw [this]; simp
  · have : (J.set k true).getD i false = J.getD i false := by
      simp only [List.getD_eq_getElem?_getD]; rw [List.getElem?_set_ne (Ne.symm e)]
    rw [this, h.2 i hi, Bool.eq_iff_iff]
    simp [e]
theorem ji_more {n : Nat} {I : List Nat} {J : List Bool} (h : JI n I J) (hj : Rt.Jn n I) : J.contains false = decide (I.length < n) := by
  by_cases hl : I.length < n
  · rw [decide_eq_true hl]
    obtain ⟨k, _, _, hk, hm, _⟩ := Rt.best_some [] hj hl
    exact has_false (k := k) (by rw [h.1]; exact hk) (by rw [h.2 k hk]; simpa using hm)
  · rw [decide_eq_false hl]
    have := hj.len
    exact no_false fun i hi => by
      rw [h.1] at hi
      rw [h.2 i hi]
      simpa using hj.full (by omega) hi
theorem ji_zero (n : Nat) (_h : 1 ≤ n) : JI n [0] ((List.replicate n false).set 0 true) := by
  refine ⟨by simp, fun i hi => ?_⟩
  by_cases e : i = 0
  · subst e; simp [show 0 < n by omega]
  · have : ((List.replicate n false).set 0 true).getD i false = false := by
      simp only [List.getD_eq_getElem?_getD]; rw [List.getElem?_set_ne (Ne.symm e)]
      simp [hi]
    rw [this]; simp [e]
set_option maxRecDepth 100000 in
set_option maxHeartbeats 8000000 in
theorem to_yes {a : Option Addr} {n c : Nat} {L : List (Int × Int)} {w : World} (hl : Hid (L.length = n)) (h1 : 1 ≤ n) (hn : n ≤ 7) (hg : Hid (Rt.stopsB L = true)) (ha : Hid (FRow w a L)) :
    Calls Try.prog 15 #[.slice a n c] w fun e w' => ∃ (I : List Nat) (up : List Int) (s : Int) (lo X : Nat), Rt.tree L (n - 1) = (I, up, s) ∧ w.heap.size ≤ lo ∧ e = .returned (.tuple #[.slice (some ⟨X, 0, none⟩) n n, .int .i64 s, .bool true]) ∧ w'.ownsRow lo 3 1 (.slice (some ⟨X, 0, none⟩) n n) n (ints up) ∧ Below w.heap.size w w' := by
  have hs : Hid (Rt.allS L = true) := hide (Rt.stops_all hg.out)
  go_enter Try.func15, Try.ntmps15
  go_wp2_with fail
  refine (gst_eq hl ha hg).mono ?_
  rintro e w1 ⟨rfl, hb1⟩
  have B1 := hide hb1
  have hb2 := below_new w1 (.cells #[.int .i64 (-1)] 3)
  have HRP := hide (rp_any (n := n) (B := w1.heap.size) (w := w1.alloc (.cells #[.int .i64 (-1)] 3)) (by omega) (by simp) (by simp))
  have HB2 := hide (bw_below hb1 hb2)
  obtain ⟨w2, hw2⟩ : ∃ w2, w1.alloc (.cells #[.int .i64 (-1)] 3) = w2 := ⟨_, rfl⟩
  rw [hw2] at HRP HB2
  have HW2 := hide hw2
  clear hb1 hb2 hw2
  go_wp2_with (rw [HW2.out])
  refine HRP.out.mono ?_
  rintro e w3 ⟨rfl, hb3, own3⟩
  have hmk := makeB_run n (by omega)
  have hM := madeB_own w3 n (by omega)
  have hbM := below_new w3 (.cells (madeCells #[.bool false] n) 4)
  have hz3 : w2.heap.size < w3.heap.size := (own3.lt w2.heap.size rfl).2
  have hz2 : w.heap.size ≤ w2.heap.size := HB2.out.size
  have htp0 : TP w (w3.alloc (.cells (madeCells #[.bool false] n) 4)) w2.heap.size w3.heap.size n (List.replicate n (-1)) (List.replicate n false) := ⟨g_own (owns_low own3 hz2) hbM, owns_low hM (by omega), by omega, bw_below (bw_below HB2.out hb3) hbM⟩
  obtain ⟨w4, hw4⟩ : ∃ w4, w3.alloc (.cells (madeCells #[.bool false] n) 4) = w4 := ⟨_, rfl⟩
  rw [hw4] at htp0
  have HW4 := hide hw4
  have HTP0 := hide htp0
  have g0 : w4.cell? ⟨w3.heap.size, 0, none⟩ = some (.bool ((List.replicate n false).getD 0 false)) := by rw [htp0.2.1.cellAt 0 (by omega), bls_at _ 0 (by simp; omega)]
  have gf := htp0.2.1.frozenAt 0
  have n0 : (0 : Int) < (n : Int) := by omega
  generalize (List.replicate n false).getD 0 false = z0 at *
  have HTP1 := hide (htp0.putG 0 true)
  clear hM hbM hb3 own3 hw4 htp0 HRP
  go_upto_region 5 with fail
  rw [HW4.out]
  clear HW4 hmk HW2
  generalize w2.heap.size = U at *
  generalize w3.heap.size = G at *
  have HCO := hide (ji_zero n h1)
  have HT0 : Hid (Rt.tree L 0 = ([0], List.replicate n (-1), 0)) := hide (by simp [Rt.tree, hl.out])
  go_wp2_with fail
  go_loopw [7, 8] (fun s7 _ wr => ∃ (m : Nat) (I : List Nat) (up : List Int) (s : Int) (J : List Bool), s7 = .int .i64 s ∧ I.length = m + 1 ∧ m + 1 ≤ n ∧ Hid (Rt.tree L m = (I, up, s)) ∧ Hid (JI n I J) ∧ Hid (TP w wr U G n up J)) (fun _ _ wr => cntF wr G n)
  case atStart => exact ⟨0, [0], _, 0, _, rfl, rfl, h1, HT0, HCO, HTP1⟩
  case round =>
    clear HT0 HCO HTP1 HTP0
    obtain ⟨m, I, up, s, J, rfl, hI, hm, HT, HJI, HTP⟩ := hrel
    obtain ⟨hJ, _, hul⟩ := Rt.tree_jn hl.out h1 m (by omega)
    rw [HT.out] at hJ hul
    have HJ : Hid (Rt.Jn n I) := hide hJ
    have hul' : up.length = n := hul
    replace hJ : Rt.Jn n I := HJ.out
    have hCB := hide (ji_more HJI.out hJ)
    have HCT := hide (cnt_outs (HTP.out.bat HJI.out.1) HJI.out)
    have HJL := hide HJI.out.1
    have HBA := hide (HTP.out.bat HJI.out.1)
    clear hul
    by_cases hlt : m + 1 < n
    · have HC : Hid (J.contains false = true) := hide (by rw [hCB.out]; exact decide_eq_true (by omega))
      obtain ⟨k, j, hb, hk, hkI, hj, _⟩ := Rt.best_some L hJ (by omega)
      have HT2 := hide (Rt.tree_step hl.out HT.out hb)
      have HNJ := hide (nj_any (cg := n) (c := c) hl hn hs HJI (hide hb) (hide (ha.out.below HTP.out.2.2.2)) HBA)
      have HLE := hide (outs_less hk hkI)
      have hwb := Rt.wy_bd hs.out (stop_at hl.out hk) (stop_at hl.out hj)
      have sb := Rt.tree_bd hl.out h1 hs.out m (by omega)
      rw [HT.out] at sb
      generalize Rt.wy L k j = Y at *
      have hs0 : 0 ≤ s := sb.1
      have hs1 : s ≤ 700 := by have h2 : s ≤ 100 * (m : Int) := sb.2; omega
      have hy0 : 0 ≤ Y := hwb.1
      have hy1 : Y ≤ 100 := hwb.2
      clear hb hJ hCB sb hwb
      go_wp2_with fail
      refine (cb_any HJL (by omega) HBA HC).mono ?_
      rintro e w5 ⟨rfl, hw5⟩
      obtain rfl : wr = w5 := hw5.symm
      go_wp2_with fail
      refine HNJ.out.mono ?_
      rintro e w5 ⟨rfl, hb5⟩
      have tp5 := HTP.out.below hb5
      have hba := below_alloc w5 (.cells #[.int .i64 (k : Int), .int .i64 (j : Int), .int .i64 Y] 67)
      have tp6 := tp5.below hba
      have v0 : (w5.alloc (.cells #[.int .i64 (k : Int), .int .i64 (j : Int), .int .i64 Y] 67)).cell? ⟨w5.heap.size, 0, none⟩ = some (.int .i64 (k : Int)) := by simp
      have v1 : (w5.alloc (.cells #[.int .i64 (k : Int), .int .i64 (j : Int), .int .i64 Y] 67)).cell? ⟨w5.heap.size, 1, none⟩ = some (.int .i64 (j : Int)) := by simp
      have v2 : (w5.alloc (.cells #[.int .i64 (k : Int), .int .i64 (j : Int), .int .i64 Y] 67)).cell? ⟨w5.heap.size, 2, none⟩ = some (.int .i64 Y) := by simp
      have hUV : U ≠ w5.heap.size := by have := tp5.lo; omega
      have hGV : G ≠ w5.heap.size := by have := tp5.lo; omega
      obtain ⟨w6, hw6⟩ : ∃ w6, w5.alloc (.cells #[.int .i64 (k : Int), .int .i64 (j : Int), .int .i64 Y] 67) = w6 := ⟨_, rfl⟩
      rw [hw6] at tp6 v0 v1 v2
      have HW6 := hide hw6
      have cu : ∃ y, w6.cell? ⟨U, k, none⟩ = some y := by
        have := tp6.1.cellAt k (by omega)
        rw [this, ints_get _ k (by omega)]
        exact ⟨_, rfl⟩
      have cg : ∃ y, w6.cell? ⟨G, k, none⟩ = some y := by
        have := tp6.2.1.cellAt k (by omega)
        rw [this, bls_at _ k (by rw [HJL.out]; exact hk)]
        exact ⟨_, rfl⟩
      obtain ⟨yu, hyu⟩ := cu
      obtain ⟨yg, hyg⟩ := cg
      have fu := tp6.1.frozenAt k
      have fg := tp6.2.1.frozenAt k
      have HTP7 := hide ((tp6.putU k (j : Int)).putG k true)
      have k0 : (0 : Int) ≤ (k : Int) := by omega
      have k1 : (k : Int) < (n : Int) := by omega
      have hUG := tp6.2.2.1
      have hGU : G ≠ U := fun e => hUG e.symm
      have hVU : w5.heap.size ≠ U := fun e => hUV e.symm
      have hVG : w5.heap.size ≠ G := fun e => hGV e.symm
      have HJI2 := hide (HJI.out.add hk)
      clear tp5 tp6 hba hw6 hb5 HNJ HTP HBA
      go_upto_region 9 with fail
      rw [HW6.out]
      clear HW6
      generalize w5.heap.size = V at *
      go_region
      have HTP8 := hide (HTP7.out.below ((Below.refl _ _).drew))
      have v3 : ((w6.setCell ⟨U, k, none⟩ (.int .i64 (j : Int))).setCell ⟨G, k, none⟩ (.bool true)).drew.cell? ⟨V, 2, none⟩ = some (.int .i64 Y) := by
        show ((w6.setCell ⟨U, k, none⟩ (.int .i64 (j : Int))).setCell ⟨G, k, none⟩ (.bool true)).cell? ⟨V, 2, none⟩ = some (.int .i64 Y)
        rw [World.cell?_setCell_other _ _ _ _ (fun e => hGV (by injection e)), World.cell?_setCell_other _ _ _ _ (fun e => hUV (by injection e))]
        exact v2
      have HCT2 := hide (cnt_outs (HTP8.out.bat HJI2.out.1) HJI2.out)
      generalize ((w6.setCell ⟨U, k, none⟩ (.int .i64 (j : Int))).setCell ⟨G, k, none⟩ (.bool true)).drew = w8 at *
      clear HTP7 v0 v1 v2 hyu hyg fu fg
      go_wp2_with fail
      go_roundw
      case rel => exact ⟨m + 1, I ++ [k], up.set k (j : Int), s + Y, J.set k true, rfl, by simp [hI], by omega, HT2, HJI2, HTP8⟩
      case measure => rw [HCT2.out, HCT.out]; exact HLE.out
    · have hme : m = n - 1 := by omega
      have HC : Hid (J.contains false = false) := hide (by rw [hCB.out]; exact decide_eq_false (by omega))
      have HT2 : Hid (Rt.tree L (n - 1) = (I, up, s)) := hide (by rw [← hme]; exact HT.out)
      clear hme hJ hCB
      go_wp2_with fail
      refine (cb_any HJL (by omega) HBA HC).mono ?_
      rintro e w5 ⟨rfl, hw5⟩
      obtain rfl : wr = w5 := hw5.symm
      go_wp2_with fail
      exact bodyPost_ret (v := .tuple #[.slice (some ⟨U, 0, none⟩) n n, .int .i64 s, .bool true]) (by simp [results, Try.results15, go_sem]) rfl ⟨I, up, s, w.heap.size, U, HT2.out, Nat.le_refl _, rfl, HTP.out.1, HTP.out.2.2.2⟩
set_option maxRecDepth 100000 in
set_option maxHeartbeats 1000000 in
theorem to_w {a : Option Addr} {n c : Nat} {L : List (Int × Int)} {w : World} (hl : L.length = n) (ha : FRow w a L) :
    Calls Try.prog 15 #[.slice a n c] w fun e w' => TA w' w.heap.size L e ∧ Below w.heap.size w w' := by
  have HA := hide ha
  have HL := hide hl
  cases hg : Rt.stopsB L
  · obtain ⟨e1, e2⟩ := toL_no hg
    have HG := hide hg
    have HE : Hid (∀ w' e, e = .returned (.tuple #[.slice none 0 0, .int .i64 0, .bool false]) → TA w' w.heap.size L e) := hide fun w' e he => ⟨.slice none 0 0, by rw [he, e2, hg], by rw [e1]; exact av_none _ _⟩
    clear ha hl hg e1 e2
    go_enter Try.func15, Try.ntmps15
    go_wp2_with fail
    refine (gst_eq HL HA HG).mono ?_
    rintro e w1 ⟨rfl, hb1⟩
    go_wp2_with fail
    refine bodyPost_ret (v := .tuple #[.slice none 0 0, .int .i64 0, .bool false]) (by simp [results, Try.results15, go_sem]) rfl ⟨HE.out _ _ rfl, hb1⟩
  · obtain ⟨s1, s2⟩ := Rt.stops_len hg
    obtain ⟨e1, e2, e3⟩ := toL_len hl hg
    refine (to_yes (c := c) HL (by omega) (by omega) (hide hg) HA).mono ?_
    rintro e w' ⟨I, up, s, lo, X, ht, hlo, rfl, ho, hb⟩
    rw [ht] at e2 e3
    refine ⟨⟨_, by rw [e3, hg], ?_⟩, hb⟩
    rw [e1, e2]
    exact AV.new (owns_low ho hlo)
theorem toL_le (L : List (Int × Int)) : (Rt.toL L).length ≤ 1048576 := by
  cases h : Rt.stopsB L
  · rw [(toL_no h).1]; simp
  · have := (toL_len rfl h).1
    have := Rt.stops_len h
    omega
theorem to_v {a : Option Addr} {n c : Nat} {L : List (Int × Int)} {w : World} (hl : L.length = n) (ha : FRow w a L) :
    Calls Try.prog 15 #[.slice a n c] w fun e w' => ∃ v, e = .returned (.tuple #[v, .int .i64 (Rt.toI L), .bool (Rt.stopsB L)]) ∧ Below w.heap.size w w' ∧ AV w' w.heap.size w'.heap.size v (Rt.toL L).length (Rt.toL L) :=
  (to_w hl ha).mono fun _ _ ⟨⟨v, he, hv⟩, hb⟩ => ⟨v, he, hb, hv⟩
theorem sto_v {a : Option Addr} {n c : Nat} {L : List (Int × Int)} {w : World} (hl : L.length = n) (hn : n ≤ 1048576) (ha : FRow w a L) :
    Calls Try.prog 23 #[.slice a n c] w fun e w' => ∃ v, e = .returned (.tuple #[v, .int .i64 (Rt.toI L), .bool (Rt.stopsB L)]) ∧ Below w.heap.size w w' ∧ AV w' w.heap.size w'.heap.size v (Rt.toL L).length (Rt.toL L) :=
  (sto_w hl hn ha).mono fun _ _ ⟨⟨v, he, hv⟩, hb⟩ => ⟨v, he, hb, hv⟩
end Go.Proofs.Ytnfcedccjfnceaa
namespace Go.Proofs.Ytnfcedccjfnceaa
open Go.RowKit

theorem cst_app (I K : List Nat) : ints (cst I) ++ ints (cst K) = ints (cst (I ++ K)) := by simp [cst, ints]
/-- A list of ints behind an owned one. -/
theorem app_all {w : World} {base n m c : Nat} {v : Value} {a : Option Addr} {I K : List Nat} (hn : I.length = n) (hm : K.length = m) (h7 : n ≤ 1000) (h8 : m ≤ 1000) (hown : w.ownsRow base 3 1 v n (ints (cst I))) (ha : ARow w a (cst K)) (hb : base ≤ w.heap.size) :
    ∃ v' w', (∀ ty, (Builtin.append_ #[24, 24] ty #[v, .slice a m c]).run Try.prog w = .ok v' w') ∧ w'.ownsRow base 3 1 v' (n + m) (ints (cst (I ++ K))) ∧ w.grownBy w' v.ownBlock := by
  obtain ⟨i0, hi, hz0, hz1, hz2⟩ := infoI
  obtain ⟨v', w', h1, h2, h3⟩ := run_append_v (P := Try.prog) w base 24 0 3 i0 _ 8 Try.underlying24 hi hz0 hz1 hz2 rfl v n _ hown a m c (ints (cst K)) (by rw [ints_len, cst_len, hm]) ha.vrow (fun u hu => by simp only [ints, List.mem_map] at hu; obtain ⟨_, _, rfl⟩ := hu; rfl) (by unfold maxLen; omega) (by omega) hb
  rw [cst_app] at h2
  exact ⟨v', w', fun _ => h1, h2, h3⟩
/-- The program's walk. -/
def SfP (w : World) (K : List Nat) (e : Ending) (w' : World) : Prop := ∃ v, e = .returned v ∧ Below w.heap.size w w' ∧ w'.ownsRow w.heap.size 3 1 v K.length (ints (cst K))
set_option maxRecDepth 100000 in
set_option maxHeartbeats 4000000 in
theorem sf_any {n : Nat} {up : List Int} {r : Nat → Nat} (hR : Hid (Rt.Rnk n up r)) (hn : n ≤ 7) : ∀ (f : Nat) {a : Option Addr} {c k : Nat} {w : World}, n ≤ f + r k → k < n → Hid (ARow w a up) →
    Calls Try.prog 37 #[.slice a n c, .int .i64 (k : Int)] w (SfP w (Rt.wk up f k))
  | 0, a, c, k, w, hf, hk, ha => by
    have := hR.out.bd k hk
    omega
  | f + 1, a, c, k, w, hf, hk, ha => by
    have HIH := hide fun (i : Nat) (W : World) (h1 : up.getD i 0 = (k : Int)) (h2 : i < n) (h3 : Hid (ARow W a up)) => sf_any hR hn f (c := c) (k := i) (w := W) (by have := (hR.out.up1 i h2 k h1).2; omega) h2 h3
    have hW0 := below_new w (.cells #[.int .i64 (k : Int)] 3)
    have HO0 : Hid ((w.alloc (.cells #[.int .i64 (k : Int)] 3)).ownsRow w.heap.size 3 1 (.slice (some ⟨w.heap.size, 0, none⟩) 1 1) (Rt.wkTo up f k 0).length (ints (cst (Rt.wkTo up f k 0)))) := hide (by
      have h := World.ownsRow_lit (base := w.heap.size) (e := 3) (size := 1) w #[.int .i64 (k : Int)] 1 (Nat.le_refl _) (by unfold maxLen; omega) (by simp)
      simpa [cst, ints, Rt.wkTo] using h)
    have HB0 := hide hW0
    obtain ⟨w0, hw0⟩ : ∃ w0, w.alloc (.cells #[.int .i64 (k : Int)] 3) = w0 := ⟨_, rfl⟩
    rw [hw0] at HO0 HB0
    have HW := hide hw0
    have HWL := hide fun (i : Nat) (hi : i < n) => (Rt.wk_len hR.out f i hi).2
    have hul := hR.out.len
    have HUL := hide hul
    have hTL : Hid (∀ i, i ≤ n → (Rt.wkTo up f k i).length ≤ n) := hide fun i hi => by
      have h1 := (Rt.wk_len hR.out (f + 1) k hk).2
      rw [← Rt.wkTo_end up f k n hul] at h1
      have h2 : ∀ d, (Rt.wkTo up f k i).length ≤ (Rt.wkTo up f k (i + d)).length := fun d => by
        induction d with
        | zero => exact Nat.le_refl _
        | succ d ih =>
          refine Nat.le_trans ih ?_
          rw [show i + (d + 1) = (i + d) + 1 by omega, Rt.wkTo_succ]
          split
          · rw [List.length_append]; omega
          · exact Nat.le_refl _
      have := h2 (n - i)
      rw [show i + (n - i) = n by omega] at this
      omega
    clear hW0 hw0
    go_enter Try.func37, Try.ntmps37
    go_upto_region 2 with fail
    rw [HW.out]
    clear HW
    go_wp2_with fail
    go_loopw [5, 6, 7, 12] (fun v _ _ s wr => ∃ (i : Nat), s = .int .i64 i ∧ i ≤ n ∧ Hid (wr.ownsRow w.heap.size 3 1 v (Rt.wkTo up f k i).length (ints (cst (Rt.wkTo up f k i)))) ∧ Hid (Below w.heap.size w wr)) (fun _ _ _ s _ => n - (intOf s).toNat)
    case atStart => exact ⟨0, rfl, Nat.zero_le _, HO0, HB0⟩
    case round =>
      clear HO0 HB0
      obtain ⟨i, rfl, hi, HO, HB⟩ := hrel
      by_cases hlt : i < n
      · obtain ⟨b, off, ea, r0⟩ := (ha.out.below HB.out).at (i := i) (by rw [HUL.out]; exact hlt)
        subst ea
        have i0 : (0 : Int) ≤ (i : Int) := by omega
        have i1 : (i : Int) < (n : Int) := by omega
        have HS := hide (Rt.wkTo_succ up f k i)
        by_cases he : up.getD i 0 = (k : Int)
        · have HS2 : Hid (Rt.wkTo up f k (i + 1) = Rt.wkTo up f k i ++ Rt.wk up f i) := hide (by rw [HS.out, if_pos he])
          have HC := hide (HIH.out i wr he hlt (hide (ha.out.below HB.out)))
          rw [he] at r0
          clear he HS
          go_wp2_with fail
          refine HC.out.mono ?_
          rintro e w2 ⟨v2, rfl, hb2, own2⟩
          obtain ⟨a2, c2, rfl, r2⟩ := own_row (cst_len _) own2
          have o1 := own_below HO.out hb2
          have hB2 := bw_below HB.out hb2
          obtain ⟨v3, w3, hr3, own3, hg3⟩ := app_all (c := c2) rfl rfl (by have := hTL.out i hi; omega) (by have := HWL.out i hlt; omega) o1 r2 hB2.size
          have HO3 : Hid (w3.ownsRow w.heap.size 3 1 v3 (Rt.wkTo up f k (i + 1)).length (ints (cst (Rt.wkTo up f k (i + 1))))) := hide (by rw [HS2.out, List.length_append]; exact own3)
          have HB3 := hide (hB2.trans (grown_under10 hg3 (fun b e => (o1.lt b e).1) hB2.size))
          clear own2 own3 hg3 o1 r2 hb2 hB2 HO HB HS2 HC
          go_wp2_with (first | (at_builtin; refine Lib.wpList_append_run _ rfl _ _ _ _ rfl _ _ rfl rfl _ _ (hr3 _) ?_))
          go_roundw
          case rel => exact ⟨i + 1, by go_num, by omega, HO3, HB3⟩
          case measure => simp only [intOf]; omega
        · have HS2 : Hid (Rt.wkTo up f k (i + 1) = Rt.wkTo up f k i) := hide (by rw [HS.out, if_neg he])
          have HO2 : Hid (wr.ownsRow w.heap.size 3 1 u5 (Rt.wkTo up f k (i + 1)).length (ints (cst (Rt.wkTo up f k (i + 1))))) := hide (by rw [HS2.out]; exact HO.out)
          have hb' : (up.getD i 0 == (k : Int)) = false := by simpa using he
          generalize up.getD i 0 = z at *
          clear HS HS2 HO
          go_wp2_with fail
          go_roundw
          case rel => exact ⟨i + 1, by go_num, by omega, HO2, HB⟩
          case measure => simp only [intOf]; omega
      · have hie : i = n := by omega
        subst hie
        have HO2 : Hid (wr.ownsRow w.heap.size 3 1 u5 (Rt.wk up (f + 1) k).length (ints (cst (Rt.wk up (f + 1) k)))) := hide (by rw [← Rt.wkTo_end up f k i HUL.out]; exact HO.out)
        go_wp2_with fail
        go_ret
        exact ⟨u5, rfl, HB.out, HO2.out⟩
/-- A list that grew where an elder one was, or in new memory. -/
def From (w : World) (vo v : Value) : Prop := ∀ b, v.ownBlock = some b → vo.ownBlock = some b ∨ w.heap.size ≤ b
theorem grow_trans {w wr w2 : World} {vo v : Value} (h : w.grownBy wr vo.ownBlock) (h2 : wr.grownBy w2 v.ownBlock) (hf : From w vo v) : w.grownBy w2 vo.ownBlock := by
  refine ⟨h2.os.trans h.os, h2.tape.trans h.tape, h2.output.trans h.output, Nat.le_trans h.size h2.size, fun b hb hne => ?_⟩
  rw [h2.block b (Nat.lt_of_lt_of_le hb h.size) (fun e => ?_)]
  · exact h.block b hb hne
  · rcases hf b e.symm with h' | h'
    · exact hne h'.symm
    · omega
theorem From.trans {w wr : World} {vo v v2 : Value} (h : From w vo v) (h2 : From wr v v2) (hs : w.heap.size ≤ wr.heap.size) : From w vo v2 := fun b e => by
  rcases h2 b e with h' | h'
  · exact h b h'
  · exact Or.inr (by omega)
theorem arow_grown {w w' : World} {b o : Nat} {q : Option Nat} {xs : List Int} (h : ARow w (some ⟨b, o, none⟩) xs) (hg : w.grownBy w' q) (hq : q ≠ some b) : ARow w' (some ⟨b, o, none⟩) xs := by
  rcases h with h | ⟨b', o', e, hl, hc⟩
  · exact Or.inl h
  · cases e
    exact Or.inr ⟨b, o, rfl, Nat.lt_of_lt_of_le hl hg.size, fun i hi => (World.cell?_of_block (w := w) (hg.block b hl (fun e => hq e.symm))).trans (hc i hi)⟩
/-- One number more, and where the list lies then. -/
theorem push_at {w : World} {base n : Nat} {v : Value} {xs : List Value} {x : Int} (hown : w.ownsRow base 3 1 v n xs) (hn : n ≤ 100000) (hb : base ≤ w.heap.size) :
    ∃ g cap w', (∀ ty, (Builtin.append_ #[24, 24] ty #[v, .slice (some ⟨w.heap.size, 0, none⟩) 1 1]).run Try.prog (w.alloc (.cells #[.int .i64 x] 3)) = .ok (.slice (some ⟨g, 0, none⟩) (n + 1) cap) w') ∧ w'.ownsRow base 3 1 (.slice (some ⟨g, 0, none⟩) (n + 1) cap) (n + 1) (xs ++ [.int .i64 x]) ∧ w.grownBy w' v.ownBlock ∧ (v.ownBlock = some g ∨ w.heap.size ≤ g) := by
  obtain ⟨i0, hi, hz0, hz1, hz2⟩ := infoI
  obtain ⟨g, cap, w', h1, h2, h3, h4, _⟩ := run_append_lies (P := Try.prog) (w := w.alloc (.cells #[.int .i64 x] 3)) 24 0 base 3 i0 _ 1 8 Try.underlying24 hi hz0 hz1 hz2 rfl (by decide) v n xs (hown.alloc _) ⟨w.heap.size, 0, none⟩ 1 1 [.int .i64 x] rfl (fun j u hj => by
      rcases vrow_new w (.int .i64 x) 3 with h | ⟨b, off, e, _, hc⟩
      · cases h
      · cases e; rw [add_plain']; exact hc j u hj) (fun u hu => by simp at hu; subst hu; rfl) (by omega) (by unfold maxLen; omega) (by omega) (by simp; omega) _ rfl
  refine ⟨g, cap, w', fun _ => h1, h2, ?_, ?_⟩
  · have hg := World.grownBy_alloc w (.cells #[.int .i64 x] 3) v.ownBlock
    exact ⟨h3.os.trans hg.os, h3.tape.trans hg.tape, h3.output.trans hg.output, Nat.le_trans hg.size h3.size, fun b hb hne => (h3.block b (Nat.lt_of_lt_of_le hb hg.size) hne).trans (hg.block b hb hne)⟩
  · rcases h4 with h | h
    · exact Or.inl h
    · right; simp at h; omega
end Go.Proofs.Ytnfcedccjfnceaa
namespace Go.Proofs.Ytnfcedccjfnceaa
open Go.RowKit

def WkP (w : World) (base : Nat) (vo : Value) (K : List Nat) (e : Ending) (w' : World) : Prop := ∃ v, e = .returned v ∧ w'.ownsRow base 3 1 v K.length (ints (cst K)) ∧ w.grownBy w' vo.ownBlock ∧ From w vo v
set_option maxRecDepth 100000 in
set_option maxHeartbeats 4000000 in
theorem swk_any {n : Nat} {up : List Int} {r : Nat → Nat} (hR : Hid (Rt.Rnk n up r)) (hn : n ≤ 7) : ∀ (f : Nat) {b o c k base : Nat} {vo : Value} {os : List Nat} {w : World}, n ≤ f + r k → k < n → Hid (ARow w (some ⟨b, o, none⟩) up) → b < w.heap.size → vo.ownBlock ≠ some b → base ≤ w.heap.size → os.length + 8 * f ≤ 1000 → Hid (w.ownsRow base 3 1 vo os.length (ints (cst os))) →
    Calls Try.prog 39 #[.slice (some ⟨b, o, none⟩) n c, .int .i64 (k : Int), vo] w (WkP w base vo (os ++ Rt.wk up f k))
  | 0, b, o, c, k, base, vo, os, w, hf, hk, ha, hbl, hne, hbase, ho, hown => by
    have := hR.out.bd k hk
    omega
  | f + 1, b, o, c, k, base, vo, os, w, hf, hk, ha, hbl, hne, hbase, ho, hown => by
    have hul := hR.out.len
    have HUL := hide hul
    have hTL : Hid (∀ i, i ≤ n → (Rt.wkTo up f k i).length ≤ n) := hide fun i hi => by
      have h1 := (Rt.wk_len hR.out (f + 1) k hk).2
      rw [← Rt.wkTo_end up f k n hul] at h1
      have h2 : ∀ d, (Rt.wkTo up f k i).length ≤ (Rt.wkTo up f k (i + d)).length := fun d => by
        induction d with
        | zero => exact Nat.le_refl _
        | succ d ih =>
          refine Nat.le_trans ih ?_
          rw [show i + (d + 1) = (i + d) + 1 by omega, Rt.wkTo_succ]
          split
          · rw [List.length_append]; omega
          · exact Nat.le_refl _
      have := h2 (n - i)
      rw [show i + (n - i) = n by omega] at this
      omega
    have HIH := hide fun (i : Nat) (W : World) (v : Value) (K : List Nat) (h1 : up.getD i 0 = (k : Int)) (h2 : i < n) (h3 : Hid (ARow W (some ⟨b, o, none⟩) up)) (h4 : b < W.heap.size) (h5 : v.ownBlock ≠ some b) (h6 : base ≤ W.heap.size) (h7 : K.length + 8 * f ≤ 1000) (h8 : Hid (W.ownsRow base 3 1 v K.length (ints (cst K)))) => swk_any hR hn f (b := b) (o := o) (c := c) (k := i) (base := base) (vo := v) (os := K) (w := W) (by have := (hR.out.up1 i h2 k h1).2; omega) h2 h3 h4 h5 h6 h7 h8
    obtain ⟨g, cap, w0, hr0, own0, hg0, hat⟩ := push_at (x := (k : Int)) hown.out (by omega) hbase
    have HO0 : Hid (w0.ownsRow base 3 1 (.slice (some ⟨g, 0, none⟩) (os.length + 1) cap) (os ++ Rt.wkTo up f k 0).length (ints (cst (os ++ Rt.wkTo up f k 0)))) := hide (by
      rw [cst_snoc] at own0
      have e : Rt.wkTo up f k 0 = [k] := by simp [Rt.wkTo]
      rw [e, List.length_append]
      exact own0)
    have HG0 := hide hg0
    have HF0 : Hid (From w vo (.slice (some ⟨g, 0, none⟩) (os.length + 1) cap)) := hide fun b' e => by
      have : g = b' := by simpa [Value.ownBlock] using e
      subst this
      exact hat
    have HNE := hide hne
    obtain ⟨av, cv, rfl⟩ := own_form hown.out
    clear own0 hg0 hat hne
    go_enter Try.func39, Try.ntmps39
    go_wp2_with (first | (at_builtin; refine Lib.wpList_append_run _ rfl _ _ _ _ rfl _ _ rfl rfl _ _ (hr0 _) ?_))
    clear hr0
    go_loopw [2, 7, 8, 15] (fun v _ _ s wr => ∃ (i : Nat), s = .int .i64 i ∧ i ≤ n ∧ Hid (wr.ownsRow base 3 1 v (os ++ Rt.wkTo up f k i).length (ints (cst (os ++ Rt.wkTo up f k i)))) ∧ Hid (w.grownBy wr (Value.slice av os.length cv).ownBlock) ∧ Hid (From w (.slice av os.length cv) v)) (fun _ _ _ s _ => n - (intOf s).toNat)
    case atStart => exact ⟨0, rfl, Nat.zero_le _, HO0, HG0, HF0⟩
    case round =>
      clear HO0 HG0 HF0
      obtain ⟨i, rfl, hi, HO, HG, HF⟩ := hrel
      by_cases hlt : i < n
      · have hup := arow_grown ha.out HG.out HNE.out
        obtain ⟨b', off, ea, r0⟩ := hup.at (i := i) (by rw [HUL.out]; exact hlt)
        cases ea
        have HUP := hide hup
        have i0 : (0 : Int) ≤ (i : Int) := by omega
        have i1 : (i : Int) < (n : Int) := by omega
        have HS := hide (Rt.wkTo_succ up f k i)
        by_cases he : up.getD i 0 = (k : Int)
        · have HS2 : Hid (os ++ Rt.wkTo up f k (i + 1) = (os ++ Rt.wkTo up f k i) ++ Rt.wk up f i) := hide (by rw [HS.out, if_pos he, List.append_assoc])
          have hbv : u2.ownBlock ≠ some b := fun e => by
            rcases HF.out b e with h | h
            · exact HNE.out h
            · omega
          have HC := hide (HIH.out i wr u2 _ he hlt HUP (Nat.lt_of_lt_of_le hbl HG.out.size) hbv (Nat.le_trans hbase HG.out.size) (by rw [List.length_append]; have := hTL.out i hi; omega) HO)
          rw [he] at r0
          clear he HS hbv
          generalize (os ++ Rt.wkTo up f k i).length = N at HO HC
          obtain ⟨av2, cv2, hu2⟩ := own_form HO.out
          subst hu2
          go_wp2_with fail
          refine HC.out.mono ?_
          rintro e w2 ⟨v2, rfl, own2, hg2, hf2⟩
          have HO2 : Hid (w2.ownsRow base 3 1 v2 (os ++ Rt.wkTo up f k (i + 1)).length (ints (cst (os ++ Rt.wkTo up f k (i + 1))))) := hide (by rw [HS2.out]; exact own2)
          have HG2 := hide (grow_trans HG.out hg2 HF.out)
          have HF2 := hide (HF.out.trans hf2 HG.out.size)
          clear own2 hg2 hf2 HO HG HF HS2 HC hup HUP
          go_wp2_with fail
          go_roundw
          case rel => exact ⟨i + 1, by go_num, by omega, HO2, HG2, HF2⟩
          case measure => simp only [intOf]; omega
        · have HS2 : Hid (Rt.wkTo up f k (i + 1) = Rt.wkTo up f k i) := hide (by rw [HS.out, if_neg he])
          have HO2 : Hid (wr.ownsRow base 3 1 u2 (os ++ Rt.wkTo up f k (i + 1)).length (ints (cst (os ++ Rt.wkTo up f k (i + 1))))) := hide (by rw [HS2.out]; exact HO.out)
          have hb' : (up.getD i 0 == (k : Int)) = false := by simpa using he
          generalize up.getD i 0 = z at *
          clear HS HS2 HO hup HUP
          go_wp2_with fail
          go_roundw
          case rel => exact ⟨i + 1, by go_num, by omega, HO2, HG, HF⟩
          case measure => simp only [intOf]; omega
      · have hie : i = n := by omega
        subst hie
        have HO2 : Hid (wr.ownsRow base 3 1 u2 (os ++ Rt.wk up (f + 1) k).length (ints (cst (os ++ Rt.wk up (f + 1) k)))) := hide (by rw [← Rt.wkTo_end up f k i HUL.out]; exact HO.out)
        go_wp2_with fail
        go_ret
        exact ⟨u2, rfl, HO2.out, HG.out, HF.out⟩
theorem tt_is {L : List (Int × Int)} {n : Nat} {I : List Nat} {up : List Int} {s : Int} (hl : L.length = n) (hg : Rt.stopsB L = true) (ht : Rt.tree L (n - 1) = (I, up, s)) : Rt.ttL L = cst (Rt.wk up n 0) ∧ Rt.ttI L = Rt.tour L (cst (Rt.wk up n 0)) ∧ 1 ≤ (Rt.wk up n 0).length ∧ (Rt.wk up n 0).length ≤ n ∧ Rt.InB L (cst (Rt.wk up n 0)) ∧ Rt.Rnk n up I.idxOf := by
  have h1 := (Rt.stops_len hg).1
  have hr := Rt.tree_rnk hl (by omega) ht
  have hwl := Rt.wk_len hr n 0 (by omega)
  have e1 : Rt.ttL L = cst (Rt.wk up n 0) := by
    unfold Rt.ttL
    rw [if_pos hg, hl, ht]
    rfl
  refine ⟨e1, ?_, hwl.1, hwl.2, fun i hi => ?_, hr⟩
  · unfold Rt.ttI
    rw [if_pos hg, e1]
  · rw [cst_len] at hi
    refine ⟨(Rt.wk up n 0).getD i 0, ?_, ?_⟩
    · simp [cst, hi]
    · rw [hl]
      refine Rt.wk_lt hr.len n 0 (by omega) _ ?_
      rw [List.getD_eq_getElem?_getD, List.getElem?_eq_getElem hi]
      exact List.getElem_mem hi
theorem tt_no {L : List (Int × Int)} (h : Rt.stopsB L = false) : Rt.ttL L = [] ∧ Rt.ttI L = 0 := by
  unfold Rt.ttI Rt.ttL; rw [h]; exact ⟨rfl, rfl⟩
theorem tt_le (L : List (Int × Int)) : (Rt.ttL L).length ≤ 1048576 := by
  cases h : Rt.stopsB L
  · rw [(tt_no h).1]; simp
  · obtain ⟨e1, _, _, h2, _⟩ := tt_is (L := L) (I := (Rt.tree L (L.length - 1)).1) (up := (Rt.tree L (L.length - 1)).2.1) (s := (Rt.tree L (L.length - 1)).2.2) rfl h rfl
    rw [e1, cst_len]
    have := (Rt.stops_len h).2
    omega
/-- What TreeTour answers. -/
def TT (w w' : World) (L : List (Int × Int)) (e : Ending) : Prop := ∃ v, e = .returned (.tuple #[v, .int .i64 (Rt.ttI L), .bool (Rt.stopsB L)]) ∧ Below w.heap.size w w' ∧ AV w' w.heap.size w'.heap.size v (Rt.ttL L).length (Rt.ttL L)
set_option maxRecDepth 100000 in
set_option maxHeartbeats 2000000 in
theorem tt_w {a : Option Addr} {n c : Nat} {L : List (Int × Int)} {w : World} (hl : L.length = n) (ha : FRow w a L) :
    Calls Try.prog 12 #[.slice a n c] w fun e w' => TT w w' L e := by
  have HT := hide (to_v (c := c) hl ha)
  cases hg : Rt.stopsB L
  · obtain ⟨e1, e2⟩ := tt_no hg
    have HE : Hid (∀ w' e, Below w.heap.size w w' → e = .returned (.tuple #[.slice none 0 0, .int .i64 0, .bool false]) → TT w w' L e) := hide fun w' e hb he => ⟨.slice none 0 0, by rw [he, e2, hg], hb, by rw [e1]; exact av_none _ _⟩
    have HG := hide hg
    clear hg e1 e2 ha hl
    go_enter Try.func12, Try.ntmps12
    go_wp2_with fail
    refine HT.out.mono ?_
    rintro e w1 ⟨v1, rfl, hb1, hv1⟩
    rw [HG.out]
    have B1 := hide hb1
    clear hb1 hv1
    generalize Rt.toI L = Z at *
    go_wp2_with fail
    exact bodyPost_ret (v := .tuple #[.slice none 0 0, .int .i64 0, .bool false]) (by simp [results, Try.results12, go_sem]) rfl (HE.out _ _ B1.out rfl)
  · obtain ⟨s1, s2⟩ := Rt.stops_len hg
    obtain ⟨t1, t2, t3⟩ := toL_len hl hg
    have n7 : n ≤ 7 := by omega
    have n1 : 1 ≤ n := by omega
    obtain ⟨e1, e2, e3, e4, e5, e6⟩ := tt_is (I := (Rt.tree L (n - 1)).1) (up := (Rt.tree L (n - 1)).2.1) (s := (Rt.tree L (n - 1)).2.2) hl hg rfl
    rw [← t2] at e1 e2 e3 e4 e5 e6
    have HG := hide hg
    have HS := hide (Rt.stops_all hg)
    have HL := hide hl
    have HFR := hide fun (W : World) (h : Below w.heap.size w W) => ha.below h
    have HE : Hid (∀ w' (lo : Nat) (v : Value) e, w.heap.size ≤ lo → Below w.heap.size w w' → w'.ownsRow lo 3 1 v (Rt.wk (Rt.toL L) n 0).length (ints (cst (Rt.wk (Rt.toL L) n 0))) → e = .returned (.tuple #[v, .int .i64 (Rt.tour L (cst (Rt.wk (Rt.toL L) n 0))), .bool true]) → TT w w' L e) := hide fun w' lo v e hlo hb ho he => by
      refine ⟨v, by rw [he, e2, hg], hb, ?_⟩
      rw [e1, cst_len]
      exact AV.new (owns_low ho hlo)
    have HR := hide e6
    have HIN := hide e5
    have HT1 := hide t1
    generalize Rt.toL L = up at *
    generalize Rt.toI L = Z at *
    clear hg e1 e2 ha hl t2 t3 t1 e5 e6
    go_enter Try.func12, Try.ntmps12
    go_wp2_with fail
    refine HT.out.mono ?_
    rintro e w1 ⟨v1, rfl, hb1, hv1⟩
    rw [HG.out]
    rw [HT1.out] at hv1
    obtain ⟨a1, c1, rfl, r1⟩ := own_row HT1.out hv1.1
    have B1 := hide hb1
    have HSF := hide (sf_any (c := c1) (k := 0) (w := w1) HR (by omega) n (by omega) (by omega) (hide r1))
    generalize hK : Rt.wk up n 0 = K at *
    clear hb1 hv1 r1 hK
    go_wp2_with fail
    refine HSF.out.mono ?_
    rintro e w2 ⟨v2, rfl, hb2, own2⟩
    have HCL : Hid ((cst K).length = K.length) := hide (cst_len K)
    obtain ⟨a2, c2, rfl, r2⟩ := own_row (cst_len K) own2
    have hB2 := bw_below B1.out hb2
    have B2 := hide hB2
    have HO2 := hide own2
    have z1 := B1.out.size
    have HRC := hide (rc_any (w := w2) (c := c) (d := c2) HL HCL e3 (by omega) HS HIN (hide (HFR.out _ hB2)) (hide r2))
    generalize K.length = N at *
    clear hb2 own2 r2 hB2 HSF
    go_wp2_with fail
    refine HRC.out.mono ?_
    rintro e w3 ⟨rfl, hb3⟩
    have B3 := hide (bw_below B2.out hb3)
    have HO3 := hide (own_below HO2.out hb3)
    clear hb3 HO2 B2 HRC
    go_wp2_with fail
    exact bodyPost_ret (v := .tuple #[.slice a2 N c2, .int .i64 (Rt.tour L (cst K)), .bool true]) (by simp [results, Try.results12, go_sem]) rfl (HE.out _ _ _ _ z1 B3.out HO3.out rfl)
set_option maxRecDepth 100000 in
set_option maxHeartbeats 2000000 in
theorem stt_w {a : Option Addr} {n c : Nat} {L : List (Int × Int)} {w : World} (hl : L.length = n) (hn : n ≤ 1048576) (ha : FRow w a L) :
    Calls Try.prog 13 #[.slice a n c] w fun e w' => TT w w' L e := by
  have HA := hide ha
  have HL := hide hl
  cases hg : Rt.stopsB L
  · obtain ⟨e1, e2⟩ := tt_no hg
    have HE : Hid (∀ w' e, Below w.heap.size w w' → e = .returned (.tuple #[.slice none 0 0, .int .i64 0, .bool false]) → TT w w' L e) := hide fun w' e hb he => ⟨.slice none 0 0, by rw [he, e2, hg], hb, by rw [e1]; exact av_none _ _⟩
    have HG := hide hg
    clear hg e1 e2 ha hl
    go_enter Try.func13, Try.ntmps13
    go_wp2_with fail
    refine (sgst_eq HL hn HA HG).mono ?_
    rintro e w1 ⟨rfl, hb1⟩
    go_wp2_with fail
    exact bodyPost_ret (v := .tuple #[.slice none 0 0, .int .i64 0, .bool false]) (by simp [results, Try.results13, go_sem]) rfl (HE.out _ _ hb1 rfl)
  · obtain ⟨s1, s2⟩ := Rt.stops_len hg
    have HG := hide hg
    have HS := hide (Rt.stops_all hg)
    have HFR := hide fun (W : World) (h : Below w.heap.size w W) => ha.below h
    have HST := hide fun (W : World) (h : Below w.heap.size w W) => str_any (w := W) (c := c) HL (by omega) (by omega) HS (hide (ha.below h))
    have HTI := hide fun (I : List Nat) (up : List Int) (s : Int) (ht : Rt.tree L (n - 1) = (I, up, s)) => tt_is hl hg ht
    have n7 : n ≤ 7 := by omega
    have n1 : 1 ≤ n := by omega
    clear ha hl hg s1 s2
    go_enter Try.func13, Try.ntmps13
    go_wp2_with fail
    refine (sgst_eq HL hn HA HG).mono ?_
    rintro e w1 ⟨rfl, hb1⟩
    have B1 := hide hb1
    have z1 := hb1.size
    clear hb1
    go_wp2_with fail
    refine (HST.out _ B1.out).mono ?_
    rintro e w2 ⟨I, up, s, ht, rfl, ho, hb2⟩
    obtain ⟨e1, e2, e3, e4, e5, e6⟩ := HTI.out I up s ht
    have hul : up.length = n := e6.len
    have r2 := arow_owns hul.symm ho
    have hB2 := bw_below B1.out hb2
    have B2 := hide hB2
    have hz2 : w1.heap.size < w2.heap.size := (ho.lt w1.heap.size rfl).2
    have HWK := hide (swk_any (c := n) (k := 0) (base := w2.heap.size) (vo := .slice none 0 0) (os := []) (w := w2) (hide e6) n7 n (by omega) (by omega) (hide r2) hz2 (by simp [Value.ownBlock]) (Nat.le_refl _) (by simp; omega) (hide (World.ownsRow_nil _ _ _ _)))
    rw [List.nil_append] at HWK
    have HE : Hid (∀ w' (lo : Nat) (v : Value) e, w.heap.size ≤ lo → Below w.heap.size w w' → w'.ownsRow lo 3 1 v (Rt.wk up n 0).length (ints (cst (Rt.wk up n 0))) → e = .returned (.tuple #[v, .int .i64 (Rt.tour L (cst (Rt.wk up n 0))), .bool true]) → TT w w' L e) := hide fun w' lo v e hlo hb ho' he => by
      refine ⟨v, by rw [he, e2, HG.out], hb, ?_⟩
      rw [e1, cst_len]
      exact AV.new (owns_low ho' hlo)
    have HIN := hide e5
    have z2 : w.heap.size ≤ w2.heap.size := by omega
    generalize hK : Rt.wk up n 0 = K at *
    clear ho hb2 ht e1 e2 e5 e6 r2 hB2 hK hul
    go_wp2_with fail
    refine HWK.out.mono ?_
    rintro e w3 ⟨v3, rfl, own3, hg3, hf3⟩
    have HCL : Hid ((cst K).length = K.length) := hide (cst_len K)
    obtain ⟨a3, c3, rfl, r3⟩ := own_row (cst_len K) own3
    have hb3 : Below w2.heap.size w2 w3 := grown_under10 hg3 (fun b e => by simp [Value.ownBlock] at e) (Nat.le_refl _)
    have hB3 := bw_below B2.out hb3
    have B3 := hide hB3
    have HO3 := hide own3
    have HRC := hide (src_any (w := w3) (c := c) (d := c3) HL HCL e3 (by omega) HS HIN (hide (HFR.out _ hB3)) (hide r3))
    generalize K.length = N at *
    clear hb3 own3 r3 hB3 hg3 hf3 HWK
    go_wp2_with fail
    refine HRC.out.mono ?_
    rintro e w4 ⟨rfl, hb4⟩
    have B4 := hide (bw_below B3.out hb4)
    have HO4 := hide (own_below HO3.out hb4)
    clear hb4 HO3 B3 HRC
    go_wp2_with fail
    exact bodyPost_ret (v := .tuple #[.slice a3 N c3, .int .i64 (Rt.tour L (cst K)), .bool true]) (by simp [results, Try.results13, go_sem]) rfl (HE.out _ _ _ _ z2 B4.out HO4.out rfl)
theorem tt_v {a : Option Addr} {n c : Nat} {L : List (Int × Int)} {w : World} (hl : L.length = n) (ha : FRow w a L) :
    Calls Try.prog 12 #[.slice a n c] w fun e w' => ∃ v, e = .returned (.tuple #[v, .int .i64 (Rt.ttI L), .bool (Rt.stopsB L)]) ∧ Below w.heap.size w w' ∧ AV w' w.heap.size w'.heap.size v (Rt.ttL L).length (Rt.ttL L) := tt_w hl ha
theorem stt_v {a : Option Addr} {n c : Nat} {L : List (Int × Int)} {w : World} (hl : L.length = n) (hn : n ≤ 1048576) (ha : FRow w a L) :
    Calls Try.prog 13 #[.slice a n c] w fun e w' => ∃ v, e = .returned (.tuple #[v, .int .i64 (Rt.ttI L), .bool (Rt.stopsB L)]) ∧ Below w.heap.size w w' ∧ AV w' w.heap.size w'.heap.size v (Rt.ttL L).length (Rt.ttL L) := stt_w hl hn ha
end Go.Proofs.Ytnfcedccjfnceaa
namespace Go.Proofs.Ytnfcedccjfnceaa.Ma
/-- The bins that each load is told of. -/
def bins (F : List (List Bool)) : Nat := (F.getD 0 []).length
def goodB (F : List (List Bool)) : Bool := decide (F.length ≤ 8) && F.all fun r => decide (r.length = bins F) && decide (r.length ≤ 8)
theorem goodB_len {F : List (List Bool)} (h : goodB F = true) : F.length ≤ 8 := by simp [goodB] at h; exact h.1
theorem goodB_row {F : List (List Bool)} (h : goodB F = true) {l : Nat} (hl : l < F.length) : (F.getD l []).length = bins F := by
  simp [goodB] at h
  have := h.2 F[l] (List.getElem_mem hl)
  simp [hl, this]
theorem goodB_bins {F : List (List Bool)} (h : goodB F = true) : bins F ≤ 8 := by
  by_cases e : F.length = 0
  · have : F = [] := List.length_eq_zero_iff.1 e
    subst this; simp [bins]
  · simp [goodB] at h
    have h0 : 0 < F.length := by omega
    have := h.2 F[0] (List.getElem_mem h0)
    omega
theorem goodB_many {F : List (List Bool)} (h : 8 < F.length) : goodB F = false := by simp [goodB, show ¬ F.length ≤ 8 by omega]
theorem goodB_wide {F : List (List Bool)} (h : 8 < bins F) : goodB F = false := by
  cases e : goodB F
  · rfl
  · have := goodB_bins e; omega
theorem goodB_not {F : List (List Bool)} {l : Nat} (hl : l < F.length) (h : (F.getD l []).length ≠ bins F ∨ 8 < (F.getD l []).length) : goodB F = false := by
  cases e : goodB F
  · rfl
  · have h1 := goodB_row e hl; have h2 := goodB_bins e; omega
theorem goodB_of {F : List (List Bool)} (h : F.length ≤ 8) (h2 : ∀ l, l < F.length → (F.getD l []).length = bins F ∧ (F.getD l []).length ≤ 8) : goodB F = true := by
  simp only [goodB, Bool.and_eq_true, decide_eq_true_eq, List.all_eq_true]
  refine ⟨h, fun r hr => ?_⟩
  obtain ⟨i, hi, rfl⟩ := List.getElem_of_mem hr
  have := h2 i hi
  simpa [hi] using this
/-- Whether load l fits bin b. -/
def fit (F : List (List Bool)) (l b : Nat) : Bool := (F.getD l []).getD b false

/-- A search through the bins from b on, k of them, for load l; rc: the search for the load that has a bin. -/
def scan (F : List (List Bool)) (own : List Int) (rc : Nat → List Bool → Option (List (Nat × Nat)) × List Bool) (l : Nat) : Nat → Nat → List Bool → Option (List (Nat × Nat)) × List Bool
  | _, 0, t => (none, t)
  | b, k + 1, t =>
    if fit F l b && !t.getD b false then
      if own.getD b (-1) < 0 then (some [(l, b)], t.set b true)
      else match rc (own.getD b (-1)).toNat (t.set b true) with
        | (some w, t') => (some ((l, b) :: w), t')
        | (none, t') => scan F own rc l (b + 1) k t'
    else scan F own rc l (b + 1) k t
def srch (F : List (List Bool)) (own : List Int) : Nat → Nat → List Bool → Option (List (Nat × Nat)) × List Bool
  | 0, _, t => (none, t)
  | f + 1, l, t => scan F own (srch F own f) l 0 (bins F) t

/-- How many bins are not tried yet. -/
def left (t : List Bool) : Nat := t.count false
theorem left_set {t : List Bool} {b : Nat} (hb : b < t.length) (h : t.getD b false = false) : left (t.set b true) + 1 = left t := by
  have e : t[b] = false := by simpa [hb] using h
  have hp : 0 < List.count false t := List.count_pos_iff.2 (e ▸ List.getElem_mem hb)
  unfold left
  rw [List.count_set hb]
  simp [e]; omega
theorem left_mono : ∀ {t t' : List Bool}, t'.length = t.length → (∀ b, t.getD b false = true → t'.getD b false = true) → left t' ≤ left t
  | [], t', h, _ => by
    have : t' = [] := List.length_eq_zero_iff.1 h
    subst this; exact Nat.le_refl _
  | x :: t, [], h, _ => by simp at h
  | x :: t, y :: t', h, hm => by
    have ih := left_mono (t := t) (t' := t') (by simpa using h) (fun b hb => by have := hm (b + 1); simp at this; simpa using this (by simpa using hb))
    have h0 := hm 0
    simp at h0
    unfold left at *
    cases x <;> cases y <;> simp_all <;> omega
theorem get_set (t : List Bool) (b c : Nat) (hb : b < t.length) : (t.set b true).getD c false = if c = b then true else t.getD c false := by
  by_cases e : c = b
  · subst e; simp [hb]
  · simp [e, Ne.symm e]

/-- A way: each load takes a bin that it fits, which the next one leaves; the last one is free; no bin twice. -/
inductive Chain (F : List (List Bool)) (own : List Int) : Nat → List (Nat × Nat) → Prop
  | last {l b : Nat} : b < bins F → fit F l b = true → own.getD b (-1) < 0 → Chain F own l [(l, b)]
  | step {l b l' : Nat} {w : List (Nat × Nat)} : b < bins F → fit F l b = true → own.getD b (-1) = (l' : Int) → (∀ q ∈ w, q.2 ≠ b) → Chain F own l' w → Chain F own l ((l, b) :: w)

structure Res (F : List (List Bool)) (own : List Int) (l : Nat) (f : Nat) (b0 : Nat) (t : List Bool) (r : Option (List (Nat × Nat)) × List Bool) : Prop where
  len : r.2.length = t.length
  mono : ∀ b, t.getD b false = true → r.2.getD b false = true
  way : ∀ w, r.1 = some w → Chain F own l w ∧ ∀ p ∈ w, t.getD p.2 false = false
  fail : r.1 = none → left t < f → (∀ b, b0 ≤ b → b < bins F → fit F l b = true → r.2.getD b false = true) ∧ ∀ b, b < bins F → r.2.getD b false = true → t.getD b false = false → 0 ≤ own.getD b (-1) ∧ ∀ b', b' < bins F → fit F (own.getD b (-1)).toNat b' = true → r.2.getD b' false = true

theorem scan_res {F : List (List Bool)} {own : List Int} {f : Nat} {rc : Nat → List Bool → Option (List (Nat × Nat)) × List Bool} (hrc : ∀ l t, t.length = bins F → Res F own l f 0 t (rc l t)) (l : Nat) :
    ∀ (k b : Nat) (t : List Bool), b + k = bins F → t.length = bins F → Res F own l (f + 1) b t (scan F own rc l b k t)
  | 0, b, t, hk, ht => ⟨rfl, fun _ h => h, fun w hw => by simp [scan] at hw, fun _ _ => ⟨fun b' h1 h2 => by omega, fun b' _ h1 h2 => by simp [scan] at h1; simp [h1] at h2⟩⟩
  | k + 1, b, t, hk, ht => by
    unfold scan
    by_cases hc : (fit F l b && !t.getD b false) = true
    · rw [if_pos hc]
      simp only [Bool.and_eq_true, Bool.not_eq_true'] at hc
      obtain ⟨hf, hn⟩ := hc
      have hb : b < t.length := by omega
      have hset : ∀ c, (t.set b true).getD c false = if c = b then true else t.getD c false := fun c => get_set t b c hb
      by_cases ho : own.getD b (-1) < 0
      · rw [if_pos ho]
        refine ⟨by simp, fun c hc => ?_, fun w hw => ?_, fun h => by simp at h⟩
        · simp only [hset]; split <;> simp_all
        · simp at hw; subst hw
          exact ⟨.last (by omega) hf ho, fun p hp => by simp at hp; subst hp; exact hn⟩
      · rw [if_neg ho]
        have R := hrc (own.getD b (-1)).toNat (t.set b true) (by simpa using ht)
        generalize rc (own.getD b (-1)).toNat (t.set b true) = r at R
        obtain ⟨o, t'⟩ := r
        have hm : ∀ c, t.getD c false = true → t'.getD c false = true := fun c h => R.mono c (by rw [hset]; split <;> simp_all)
        have hb' : t'.getD b false = true := R.mono b (by rw [hset]; simp)
        cases o with
        | some w =>
          refine ⟨by have := R.len; simpa using this, hm, fun w' hw' => ?_, fun h => by simp at h⟩
          simp at hw'; subst hw'
          obtain ⟨hc1, hc2⟩ := R.way w rfl
          have hne : ∀ q ∈ w, q.2 ≠ b := fun q hq e => by have := hc2 q hq; rw [e, hset] at this; simp at this
          refine ⟨.step (by omega) hf (by omega) hne hc1, fun p hp => ?_⟩
          rcases List.mem_cons.1 hp with rfl | hp
          · exact hn
          · have := hc2 p hp; rw [hset] at this; simpa [hne p hp] using this
        | none =>
          have hlen : t'.length = bins F := by have := R.len; simp at this; omega
          have S := scan_res hrc l k (b + 1) t' (by omega) hlen
          refine ⟨by rw [S.len]; omega, fun c hc => S.mono c (hm c hc), fun w hw => ?_, fun hN hL => ?_⟩
          · obtain ⟨h1, h2⟩ := S.way w hw
            refine ⟨h1, fun p hp => ?_⟩
            cases hv : t.getD p.2 false
            · rfl
            · have := hm _ hv; rw [h2 p hp] at this; cases this
          · have hl1 := left_set hb hn
            obtain ⟨f1, f2⟩ := R.fail rfl (by omega)
            have hl2 : left t' ≤ left t := left_mono (by omega) hm
            obtain ⟨s1, s2⟩ := S.fail hN (by omega)
            refine ⟨fun c h1 h2 h3 => ?_, fun c hc h1 h2 => ?_⟩
            · by_cases e : c = b
              · subst e; exact S.mono _ hb'
              · exact s1 c (by omega) h2 h3
            · cases hv : t'.getD c false
              · exact s2 c hc h1 hv
              · by_cases e : c = b
                · subst e
                  exact ⟨by omega, fun b' hb2 h4 => S.mono _ (f1 b' (Nat.zero_le _) hb2 h4)⟩
                · obtain ⟨g1, g2⟩ := f2 c hc hv (by rw [hset, if_neg e]; exact h2)
                  exact ⟨g1, fun b' hb2 h4 => S.mono _ (g2 b' hb2 h4)⟩
    · rw [if_neg hc]
      have S := scan_res hrc l k (b + 1) t (by omega) ht
      refine ⟨S.len, S.mono, S.way, fun hN hL => ?_⟩
      obtain ⟨s1, s2⟩ := S.fail hN hL
      refine ⟨fun c h1 h2 h3 => ?_, s2⟩
      by_cases e : c = b
      · subst e
        simp only [Bool.and_eq_true, Bool.not_eq_true', not_and, Bool.not_eq_false] at hc
        exact S.mono _ (hc h3)
      · exact s1 c (by omega) h2 h3
theorem srch_res (F : List (List Bool)) (own : List Int) : ∀ (f l : Nat) (t : List Bool), t.length = bins F → Res F own l f 0 t (srch F own f l t)
  | 0, l, t, _ => ⟨rfl, fun _ h => h, fun w hw => by simp [srch] at hw, fun _ h => by omega⟩
  | f + 1, l, t, ht => scan_res (srch_res F own f) l (bins F) 0 t (by omega) ht
/-- Bins that don't fit, or are tried, are passed over. -/
theorem scan_skip {F : List (List Bool)} {own : List Int} {rc : Nat → List Bool → Option (List (Nat × Nat)) × List Bool} {l : Nat} : ∀ (j k b : Nat) (t : List Bool), (∀ c, b ≤ c → c < b + j → (fit F l c && !t.getD c false) = false) → scan F own rc l b (j + k) t = scan F own rc l (b + j) k t
  | 0, k, b, t, _ => by simp
  | j + 1, k, b, t, h => by
    rw [show j + 1 + k = (j + k) + 1 by omega, scan, if_neg (by rw [h b (by omega) (by omega)]; simp), scan_skip j k (b + 1) t (fun c h1 h2 => h c (by omega) (by omega)), show b + 1 + j = b + (j + 1) by omega]
/-- m tells for each load its bin, own for each bin its load, alike; -1: none. -/
structure MO (F : List (List Bool)) (m own : List Int) : Prop where
  lm : m.length = F.length
  lo : own.length = bins F
  mo : ∀ l b : Nat, l < F.length → b < bins F → m.getD l (-1) = (b : Int) → own.getD b (-1) = (l : Int)
  om : ∀ b : Nat, b < bins F → own.getD b (-1) = -1 ∨ ∃ l : Nat, l < F.length ∧ own.getD b (-1) = (l : Int) ∧ m.getD l (-1) = (b : Int) ∧ fit F l b = true
  mm : ∀ l : Nat, l < F.length → m.getD l (-1) = -1 ∨ ∃ b : Nat, b < bins F ∧ m.getD l (-1) = (b : Int)
/-- Each load of the way takes its bin. -/
def upd (m : List Int) (w : List (Nat × Nat)) : List Int := w.foldl (fun m p => m.set p.1 (p.2 : Int)) m
def oset (own : List Int) : List (Nat × Nat) → List Int
  | [] => own
  | p :: w => (oset own w).set p.2 (p.1 : Int)
theorem upd_len : ∀ (w : List (Nat × Nat)) (m : List Int), (upd m w).length = m.length
  | [], _ => rfl
  | p :: w, m => by show (upd (m.set p.1 _) w).length = _; rw [upd_len w]; simp
theorem oset_len (own : List Int) : ∀ (w : List (Nat × Nat)), (oset own w).length = own.length
  | [] => rfl
  | p :: w => by simp [oset, oset_len own w]
theorem iget_set (m : List Int) (l c : Nat) (x : Int) (hl : l < m.length) : (m.set l x).getD c (-1) = if c = l then x else m.getD c (-1) := by
  by_cases e : c = l
  · subst e; simp [hl]
  · simp [e, Ne.symm e]
theorem upd_other : ∀ (w : List (Nat × Nat)) (m : List Int) (l : Nat), (∀ p ∈ w, p.1 < m.length) → (∀ p ∈ w, p.1 ≠ l) → (upd m w).getD l (-1) = m.getD l (-1)
  | [], _, _, _, _ => rfl
  | p :: w, m, l, hb, h => by
    show (upd (m.set p.1 _) w).getD l _ = _
    rw [upd_other w _ l (fun q hq => by simpa using hb q (List.mem_cons_of_mem _ hq)) (fun q hq => h q (List.mem_cons_of_mem _ hq)), iget_set _ _ _ _ (hb p List.mem_cons_self), if_neg (Ne.symm (h p List.mem_cons_self))]
theorem upd_at : ∀ (w : List (Nat × Nat)) (m : List Int), (∀ p ∈ w, p.1 < m.length) → (w.map Prod.fst).Nodup → ∀ p ∈ w, (upd m w).getD p.1 (-1) = (p.2 : Int)
  | [], _, _, _, p, hp => by simp at hp
  | q :: w, m, hb, hn, p, hp => by
    show (upd (m.set q.1 _) w).getD p.1 _ = _
    have hb' : ∀ r ∈ w, r.1 < (m.set q.1 (q.2 : Int)).length := fun r hr => by simpa using hb r (List.mem_cons_of_mem _ hr)
    simp only [List.map_cons, List.nodup_cons] at hn
    rcases List.mem_cons.1 hp with rfl | hp
    · rw [upd_other w _ p.1 hb' (fun r hr e => hn.1 (List.mem_map.2 ⟨r, hr, e⟩)), iget_set _ _ _ _ (hb p List.mem_cons_self), if_pos rfl]
    · exact upd_at w _ hb' hn.2 p hp
theorem oset_other (own : List Int) : ∀ (w : List (Nat × Nat)) (b : Nat), (∀ p ∈ w, p.2 < own.length) → (∀ p ∈ w, p.2 ≠ b) → (oset own w).getD b (-1) = own.getD b (-1)
  | [], _, _, _ => rfl
  | p :: w, b, hb, h => by
    show ((oset own w).set p.2 _).getD b _ = _
    rw [iget_set _ _ _ _ (by rw [oset_len]; exact hb p List.mem_cons_self), if_neg (Ne.symm (h p List.mem_cons_self)), oset_other own w b (fun q hq => hb q (List.mem_cons_of_mem _ hq)) (fun q hq => h q (List.mem_cons_of_mem _ hq))]
theorem oset_at (own : List Int) : ∀ (w : List (Nat × Nat)), (∀ p ∈ w, p.2 < own.length) → (w.map Prod.snd).Nodup → ∀ p ∈ w, (oset own w).getD p.2 (-1) = (p.1 : Int)
  | [], _, _, p, hp => by simp at hp
  | q :: w, hb, hn, p, hp => by
    show ((oset own w).set q.2 _).getD p.2 _ = _
    simp only [List.map_cons, List.nodup_cons] at hn
    rw [iget_set _ _ _ _ (by rw [oset_len]; exact hb q List.mem_cons_self)]
    rcases List.mem_cons.1 hp with rfl | hp
    · rw [if_pos rfl]
    · rw [if_neg (fun e => hn.1 (List.mem_map.2 ⟨p, hp, e⟩))]
      exact oset_at own w (fun r hr => hb r (List.mem_cons_of_mem _ hr)) hn.2 p hp
theorem Chain.bin {F : List (List Bool)} {own : List Int} {l : Nat} {w : List (Nat × Nat)} (h : Chain F own l w) : ∀ p ∈ w, p.2 < bins F ∧ fit F p.1 p.2 = true := by
  induction h with
  | last h1 h2 h3 => intro p hp; simp at hp; subst hp; exact ⟨h1, h2⟩
  | step h1 h2 h3 h4 h5 ih =>
    intro p hp
    rcases List.mem_cons.1 hp with rfl | hp
    · exact ⟨h1, h2⟩
    · exact ih p hp
theorem Chain.nodup {F : List (List Bool)} {own : List Int} {l : Nat} {w : List (Nat × Nat)} (h : Chain F own l w) : (w.map Prod.snd).Nodup := by
  induction h with
  | last h1 h2 h3 => simp
  | step h1 h2 h3 h4 h5 ih =>
    simp only [List.map_cons, List.nodup_cons]
    refine ⟨fun hm => ?_, ih⟩
    obtain ⟨q, hq, e⟩ := List.mem_map.1 hm
    exact h4 q hq e
theorem Chain.head {F : List (List Bool)} {own : List Int} {l : Nat} {w : List (Nat × Nat)} (h : Chain F own l w) : ∃ b w', w = (l, b) :: w' := by
  cases h with
  | last => exact ⟨_, _, rfl⟩
  | step => exact ⟨_, _, rfl⟩
/-- The bin of each is free or the next one's, and each but the first has a bin of the way. -/
theorem Chain.link {F : List (List Bool)} {own : List Int} {l : Nat} {w : List (Nat × Nat)} (h : Chain F own l w) :
    (∀ p ∈ w, own.getD p.2 (-1) < 0 ∨ ∃ q ∈ w, own.getD p.2 (-1) = (q.1 : Int)) ∧ ∀ q ∈ w, q.1 = l ∨ ∃ p ∈ w, own.getD p.2 (-1) = (q.1 : Int) := by
  induction h with
  | last h1 h2 h3 =>
    refine ⟨fun p hp => ?_, fun q hq => ?_⟩
    · simp at hp; subst hp; exact Or.inl h3
    · simp at hq; subst hq; exact Or.inl rfl
  | @step l b l' w h1 h2 h3 h4 h5 ih =>
    obtain ⟨b', w', rfl⟩ := h5.head
    refine ⟨fun p hp => ?_, fun q hq => ?_⟩
    · rcases List.mem_cons.1 hp with rfl | hp
      · exact Or.inr ⟨(l', b'), List.mem_cons_of_mem _ List.mem_cons_self, h3⟩
      · rcases ih.1 p hp with h | ⟨q, hq, e⟩
        · exact Or.inl h
        · exact Or.inr ⟨q, List.mem_cons_of_mem _ hq, e⟩
    · rcases List.mem_cons.1 hq with rfl | hq
      · exact Or.inl rfl
      · rcases ih.2 q hq with e | ⟨p, hp, e⟩
        · exact Or.inr ⟨(l, b), List.mem_cons_self, by rw [e]; exact h3⟩
        · exact Or.inr ⟨p, List.mem_cons_of_mem _ hp, e⟩
theorem MO.own_bin {F : List (List Bool)} {m own : List Int} (h : MO F m own) {b l : Nat} (hb : b < bins F) (e : own.getD b (-1) = (l : Int)) : l < F.length ∧ m.getD l (-1) = (b : Int) ∧ fit F l b = true := by
  rcases h.om b hb with h1 | ⟨l', hl, e', hm, hf⟩
  · omega
  · have : l = l' := by omega
    subst this; exact ⟨hl, hm, hf⟩
theorem Chain.loads {F : List (List Bool)} {m own : List Int} (hM : MO F m own) {l : Nat} {w : List (Nat × Nat)} (h : Chain F own l w) : (∀ p ∈ w, own.getD p.2 (-1) ≠ (l : Int)) → (w.map Prod.fst).Nodup := by
  induction h with
  | last h1 h2 h3 => intro _; simp
  | @step l b l' w h1 h2 h3 h4 h5 ih =>
    intro hn
    simp only [List.map_cons, List.nodup_cons]
    refine ⟨fun hm => ?_, ih fun p hp e => ?_⟩
    · obtain ⟨q, hq, e⟩ := List.mem_map.1 hm
      rcases h5.link.2 q hq with e2 | ⟨p, hp, e2⟩
      · exact hn (l, b) List.mem_cons_self (by rw [h3, ← e2, e])
      · exact hn p (List.mem_cons_of_mem _ hp) (by rw [e2, e])
    · have a := (hM.own_bin h1 h3).2.1
      have c := (hM.own_bin (h5.bin p hp).1 e).2.1
      exact h4 p hp (by omega)
theorem Chain.lt {F : List (List Bool)} {m own : List Int} (hM : MO F m own) {l : Nat} {w : List (Nat × Nat)} (hl : l < F.length) (h : Chain F own l w) : ∀ p ∈ w, p.1 < F.length := fun p hp => by
  rcases h.link.2 p hp with e | ⟨q, hq, e⟩
  · omega
  · exact (hM.own_bin (h.bin q hq).1 e).1
/-- Behind a way that is taken m and own tell alike again. -/
theorem MO.took {F : List (List Bool)} {m own : List Int} (hM : MO F m own) {l : Nat} {w : List (Nat × Nat)} (hl : l < F.length) (hml : m.getD l (-1) = -1) (h : Chain F own l w) :
    MO F (upd m w) (oset own w) ∧ (upd m w).getD l (-1) ≠ -1 ∧ (∀ l', (upd m w).getD l' (-1) = -1 → m.getD l' (-1) = -1) ∧ (∀ l', l' < F.length → m.getD l' (-1) = -1 → l' ≠ l → (upd m w).getD l' (-1) = -1) ∧ (w.map Prod.fst).Nodup := by
  have hno : ∀ b, b < bins F → own.getD b (-1) ≠ (l : Int) := fun b hb e => by have := (hM.own_bin hb e).2.1; omega
  have hnd := h.loads hM (fun p hp => hno p.2 (h.bin p hp).1)
  have hlt : ∀ p ∈ w, p.1 < m.length := fun p hp => by rw [hM.lm]; exact h.lt hM hl p hp
  have hbt : ∀ p ∈ w, p.2 < own.length := fun p hp => by rw [hM.lo]; exact (h.bin p hp).1
  have ua := upd_at w m hlt hnd
  have uo := fun l' => upd_other w m l' hlt
  have oa := oset_at own w hbt h.nodup
  have oo := fun b => oset_other own w b hbt
  have memL : ∀ l', (∃ p ∈ w, p.1 = l') ∨ ∀ p ∈ w, p.1 ≠ l' := fun l' => by
    by_cases e : ∃ p ∈ w, p.1 = l'
    · exact Or.inl e
    · exact Or.inr fun p hp e' => e ⟨p, hp, e'⟩
  have memB : ∀ b, (∃ p ∈ w, p.2 = b) ∨ ∀ p ∈ w, p.2 ≠ b := fun b => by
    by_cases e : ∃ p ∈ w, p.2 = b
    · exact Or.inl e
    · exact Or.inr fun p hp e' => e ⟨p, hp, e'⟩
  refine ⟨⟨by rw [upd_len, hM.lm], by rw [oset_len, hM.lo], fun l' b hl' hb e => ?_, fun b hb => ?_, fun l' hl' => ?_⟩, ?_, fun l' e => ?_, fun l' hl' e hne => ?_, hnd⟩
  · rcases memL l' with ⟨p, hp, rfl⟩ | hn
    · rw [ua p hp] at e
      have : p.2 = b := by omega
      subst this; exact oa p hp
    · rw [uo l' hn] at e
      have ho := hM.mo l' b hl' hb e
      rw [oo b fun p hp e2 => ?_]
      · exact ho
      · subst e2
        rcases h.link.1 p hp with h1 | ⟨q, hq, h1⟩
        · omega
        · exact hn q hq (by omega)
  · rcases memB b with ⟨p, hp, rfl⟩ | hn
    · exact Or.inr ⟨p.1, h.lt hM hl p hp, oa p hp, ua p hp, (h.bin p hp).2⟩
    · rw [oo b hn]
      rcases hM.om b hb with h1 | ⟨l', hl', e1, e2, e3⟩
      · exact Or.inl h1
      · refine Or.inr ⟨l', hl', e1, ?_, e3⟩
        rw [uo l' fun q hq e => ?_]
        · exact e2
        · subst e
          rcases h.link.2 q hq with e4 | ⟨p, hp, e4⟩
          · rw [e4, hml] at e2; omega
          · have := (hM.own_bin (h.bin p hp).1 e4).2.1
            exact hn p hp (by omega)
  · rcases memL l' with ⟨p, hp, rfl⟩ | hn
    · exact Or.inr ⟨p.2, (h.bin p hp).1, ua p hp⟩
    · rw [uo l' hn]; exact hM.mm l' hl'
  · obtain ⟨b, w', rfl⟩ := h.head
    have := ua (l, b) List.mem_cons_self
    simp only at this
    rw [this]; omega
  · rcases memL l' with ⟨p, hp, rfl⟩ | hn
    · rw [ua p hp] at e; omega
    · rw [uo l' hn] at e; exact e
  · rw [uo l' fun q hq e2 => ?_]
    · exact e
    · subst e2
      rcases h.link.2 q hq with e4 | ⟨p, hp, e4⟩
      · exact hne e4
      · have := (hM.own_bin (h.bin p hp).1 e4).2.1
        omega

/-- What is closed: all of it is owned, and owners fit nothing outside. -/
def Clo (F : List (List Bool)) (own : List Int) (R : Nat → Prop) : Prop := ∀ b, b < bins F → R b → 0 ≤ own.getD b (-1) ∧ ∀ b', b' < bins F → fit F (own.getD b (-1)).toNat b' = true → R b'
theorem Chain.out {F : List (List Bool)} {own : List Int} {R : Nat → Prop} (hR : Clo F own R) {l : Nat} {w : List (Nat × Nat)} (h : Chain F own l w) : ∀ p ∈ w, ¬ R p.2 := by
  induction h with
  | last h1 h2 h3 =>
    intro p hp hr
    simp at hp; subst hp
    have := (hR _ h1 hr).1
    omega
  | @step l b l' w h1 h2 h3 h4 h5 ih =>
    intro p hp hr
    rcases List.mem_cons.1 hp with rfl | hp
    · obtain ⟨b', w', rfl⟩ := h5.head
      have q := h5.bin (l', b') List.mem_cons_self
      have := (hR _ h1 hr).2 b' q.1 (by rw [h3]; exact q.2)
      exact ih (l', b') List.mem_cons_self this
    · exact ih p hp hr
structure Inv (F : List (List Bool)) (k : Nat) (m own : List Int) : Prop where
  mo : MO F m own
  later : ∀ l, k ≤ l → l < F.length → m.getD l (-1) = -1
  clo : ∃ R : Nat → Prop, Clo F own R ∧ ∀ l, l < k → l < F.length → m.getD l (-1) = -1 → ∀ b, b < bins F → fit F l b = true → R b
def none8 (n : Nat) : List Int := List.replicate n (-1)
theorem none8_get (n i : Nat) : (none8 n).getD i (-1) = -1 := by
  unfold none8
  rw [List.getD_eq_getElem?_getD, List.getElem?_replicate]
  split <;> rfl
theorem inv_zero (F : List (List Bool)) : Inv F 0 (none8 F.length) (none8 (bins F)) :=
  ⟨⟨by simp [none8], by simp [none8], fun l b _ _ e => by rw [none8_get] at e; omega, fun b _ => Or.inl (none8_get _ _), fun l _ => Or.inl (none8_get _ _)⟩, fun l _ _ => none8_get _ _, fun _ => False, fun _ _ h => h.elim, fun l hl => by omega⟩
/-- The search for a load, from no bin tried. -/
def look (F : List (List Bool)) (own : List Int) (l : Nat) : Option (List (Nat × Nat)) := (srch F own 9 l (List.replicate (bins F) false)).1
def next (F : List (List Bool)) (s : List Int × List Int) (l : Nat) : List Int × List Int :=
  match look F s.2 l with
  | some w => (upd s.1 w, oset s.2 w)
  | none => s
def upto (F : List (List Bool)) : Nat → List Int × List Int
  | 0 => (none8 F.length, none8 (bins F))
  | k + 1 => next F (upto F k) k
theorem left_new (n : Nat) : left (List.replicate n false) = n := by simp [left]
theorem inv_next {F : List (List Bool)} (hG : bins F ≤ 8) {k : Nat} {s : List Int × List Int} (hk : k < F.length) (h : Inv F k s.1 s.2) : Inv F (k + 1) (next F s k).1 (next F s k).2 := by
  have R := srch_res F s.2 9 k (List.replicate (bins F) false) (by simp)
  unfold next look
  generalize srch F s.2 9 k (List.replicate (bins F) false) = r at R
  obtain ⟨o, t'⟩ := r
  cases o with
  | some w =>
    obtain ⟨hc, _⟩ := R.way w rfl
    obtain ⟨t1, t2, t3, t4, t5⟩ := h.mo.took hk (h.later k (Nat.le_refl _) hk) hc
    refine ⟨t1, fun l h1 h2 => t4 l h2 (h.later l (by omega) h2) (by omega), ?_⟩
    obtain ⟨Q, hQ, hU⟩ := h.clo
    refine ⟨Q, fun b hb hr => ?_, fun l h1 h2 h3 => ?_⟩
    · have e : (oset s.2 w).getD b (-1) = s.2.getD b (-1) := oset_other s.2 w b (fun p hp => by rw [h.mo.lo]; exact (hc.bin p hp).1) fun p hp e => hc.out hQ p hp (e ▸ hr)
      show 0 ≤ (oset s.2 w).getD b (-1) ∧ ∀ b', b' < bins F → fit F ((oset s.2 w).getD b (-1)).toNat b' = true → Q b'
      rw [e]
      exact hQ b hb hr
    · have h3' : (upd s.1 w).getD l (-1) = -1 := h3
      by_cases e : l = k
      · subst e; exact absurd h3' t2
      · exact hU l (by omega) h2 (t3 l h3')
  | none =>
    obtain ⟨f1, f2⟩ := R.fail rfl (by rw [left_new]; omega)
    refine ⟨h.mo, fun l h1 h2 => h.later l (by omega) h2, ?_⟩
    obtain ⟨Q, hQ, hU⟩ := h.clo
    refine ⟨fun b => Q b ∨ t'.getD b false = true, fun b hb hr => ?_, fun l h1 h2 h3 b hb hf => ?_⟩
    · rcases hr with hr | hr
      · exact ⟨(hQ b hb hr).1, fun b' h1 h2 => Or.inl ((hQ b hb hr).2 b' h1 h2)⟩
      · have := f2 b hb hr (by rw [List.getD_eq_getElem?_getD, List.getElem?_replicate]; split <;> rfl)
        exact ⟨this.1, fun b' h1 h2 => Or.inr (this.2 b' h1 h2)⟩
    · by_cases e : l = k
      · subst e; exact Or.inr (f1 b (Nat.zero_le _) hb hf)
      · exact Or.inl (hU l (by omega) h2 h3 b hb hf)
theorem inv_upto {F : List (List Bool)} (hG : bins F ≤ 8) : ∀ k, k ≤ F.length → Inv F k (upto F k).1 (upto F k).2
  | 0, _ => inv_zero F
  | k + 1, h => inv_next hG (by omega) (inv_upto hG k (by omega))
/-- The matching, and each bin's load. -/
def mat (F : List (List Bool)) : List Int := (upto F F.length).1
def own (F : List (List Bool)) : List Int := (upto F F.length).2
theorem inv_mat {F : List (List Bool)} (h : goodB F = true) : Inv F F.length (mat F) (own F) := inv_upto (goodB_bins h) _ (Nat.le_refl _)
/-- What the bins below k tell of m. -/
def part (m : List Int) (k : Nat) : List Int := m.map fun x => if x < (k : Int) then x else -1
theorem part_len (m : List Int) (k : Nat) : (part m k).length = m.length := by simp [part]
theorem part_get (m : List Int) (k l : Nat) : (part m k).getD l (-1) = if m.getD l (-1) < (k : Int) then m.getD l (-1) else -1 := by
  unfold part
  by_cases h : l < m.length
  · simp [h]
  · simp [show m.length ≤ l by omega]
theorem ext_get {a b : List Int} (hl : a.length = b.length) (h : ∀ i, i < a.length → a.getD i (-1) = b.getD i (-1)) : a = b := by
  apply List.ext_getElem hl
  intro i h1 h2
  have := h i h1
  simpa [h1, h2] using this
theorem part_zero {F : List (List Bool)} {m own : List Int} (h : MO F m own) : part m 0 = none8 F.length := by
  apply ext_get
  · rw [part_len, h.lm]; simp [none8]
  · intro i hi
    rw [part_len, h.lm] at hi
    rw [part_get, none8_get]
    rcases h.mm i hi with e | ⟨b, hb, e⟩
    · rw [e]; simp
    · rw [e]; simp
theorem part_all {F : List (List Bool)} {m own : List Int} (h : MO F m own) : part m (bins F) = m := by
  apply ext_get
  · rw [part_len]
  · intro i hi
    rw [part_len, h.lm] at hi
    rw [part_get]
    rcases h.mm i hi with e | ⟨b, hb, e⟩
    · rw [e]; simp
    · rw [e, if_pos (by omega)]
theorem part_none {F : List (List Bool)} {m own : List Int} (h : MO F m own) {k : Nat} (hk : k < bins F) (e : own.getD k (-1) = -1) : part m (k + 1) = part m k := by
  apply ext_get
  · rw [part_len, part_len]
  · intro i hi
    rw [part_len, h.lm] at hi
    rw [part_get, part_get]
    have : m.getD i (-1) ≠ (k : Int) := fun e' => by have := h.mo i k hi hk e'; omega
    split <;> split <;> omega
theorem part_some {F : List (List Bool)} {m own : List Int} (h : MO F m own) {k l : Nat} (hk : k < bins F) (e : own.getD k (-1) = (l : Int)) : (part m k).set l (k : Int) = part m (k + 1) := by
  obtain ⟨h1, h2, _⟩ := h.own_bin hk e
  apply ext_get
  · simp [part_len]
  · intro i hi
    simp only [List.length_set, part_len, h.lm] at hi
    rw [iget_set _ _ _ _ (by rw [part_len, h.lm]; exact h1), part_get, part_get]
    by_cases c : i = l
    · subst c; rw [if_pos rfl, h2, if_pos (by omega)]
    · rw [if_neg c]
      have : m.getD i (-1) ≠ (k : Int) := fun e' => by have := h.mo i k hi hk e'; omega
      split <;> split <;> omega
/-- The first place of a bin in m is its owner. -/
theorem MO.first {F : List (List Bool)} {m own : List Int} (h : MO F m own) {b : Nat} (hb : b < bins F) :
    (own.getD b (-1) = -1 ∧ ∀ l, l < m.length → m.getD l (-1) ≠ (b : Int)) ∨ ∃ l, l < m.length ∧ own.getD b (-1) = (l : Int) ∧ m.getD l (-1) = (b : Int) ∧ ∀ l', l' < m.length → m.getD l' (-1) = (b : Int) → l' = l := by
  rcases h.om b hb with e | ⟨l, hl, e1, e2, _⟩
  · exact Or.inl ⟨e, fun l hl e2 => by have := h.mo l b (by rw [← h.lm]; exact hl) hb e2; omega⟩
  · exact Or.inr ⟨l, by rw [h.lm]; exact hl, e1, e2, fun l' hl' e3 => by have := h.mo l' b (by rw [← h.lm]; exact hl') hb e3; omega⟩
end Go.Proofs.Ytnfcedccjfnceaa.Ma
namespace Go.Proofs.Ytnfcedccjfnceaa.Ma

/-- All lists of n yes or no. -/
def alls : Nat → List (List Bool)
  | 0 => [[]]
  | n + 1 => (alls n).flatMap fun l => [false :: l, true :: l]
theorem mem_alls : ∀ (l : List Bool), l ∈ alls l.length
  | [] => by simp [alls]
  | x :: l => by
    simp only [List.length_cons, alls, List.mem_flatMap]
    exact ⟨l, mem_alls l, by cases x <;> simp⟩
theorem alls_len : ∀ {n : Nat} {l : List Bool}, l ∈ alls n → l.length = n
  | 0, l, h => by simp [alls] at h; subst h; rfl
  | n + 1, l, h => by
    simp only [alls, List.mem_flatMap] at h
    obtain ⟨l', h1, h2⟩ := h
    have := alls_len h1
    simp at h2
    rcases h2 with rfl | rfl <;> simp [this]
/-- Loads and bins that hold all that is come to from loads without a bin. -/
def Shut (F : List (List Bool)) (m : List Int) (A B : List Bool) : Prop :=
  ∀ l, l < F.length → (m.getD l (-1) = -1 → A.getD l false = true) ∧ ∀ b, b < bins F → (A.getD l false = true → fit F l b = true → B.getD b false = true) ∧ (B.getD b false = true → m.getD l (-1) = (b : Int) → A.getD l false = true)
def shutB (F : List (List Bool)) (m : List Int) (A B : List Bool) : Bool :=
  (List.range F.length).all fun l => (!(m.getD l (-1) == -1) || A.getD l false) && (List.range (bins F)).all fun b => (!(A.getD l false && fit F l b) || B.getD b false) && (!(B.getD b false && (m.getD l (-1) == (b : Int))) || A.getD l false)
theorem shutB_iff {F : List (List Bool)} {m : List Int} {A B : List Bool} : shutB F m A B = true ↔ Shut F m A B := by
  simp only [shutB, Shut, List.all_eq_true, List.mem_range, Bool.and_eq_true, Bool.or_eq_true, Bool.not_eq_true', beq_eq_false_iff_ne, Bool.and_eq_false_imp]
  constructor
  · intro h l hl
    refine ⟨fun e => (h l hl).1.resolve_left fun c => c e, fun b hb => ⟨fun h1 h2 => ?_, fun h1 h2 => ?_⟩⟩
    · rcases ((h l hl).2 b hb).1 with c | c
      · have := c h1; simp [h2] at this
      · exact c
    · rcases ((h l hl).2 b hb).2 with c | c
      · exact absurd h2 (c h1)
      · exact c
  · intro h l hl
    refine ⟨?_, fun b hb => ⟨?_, ?_⟩⟩
    · by_cases e : m.getD l (-1) = -1
      · exact Or.inr ((h l hl).1 e)
      · exact Or.inl e
    · cases e : B.getD b false
      · refine Or.inl fun h1 => ?_
        cases e2 : fit F l b
        · rfl
        · have := ((h l hl).2 b hb).1 h1 e2; rw [e] at this; cases this
      · exact Or.inr rfl
    · cases e : A.getD l false
      · refine Or.inl fun h1 h2 => ?_
        have := ((h l hl).2 b hb).2 h1 h2; rw [e] at this; cases this
      · exact Or.inr rfl
/-- The loads and the bins come to. -/
def rL (F : List (List Bool)) (m : List Int) : List Bool := (List.range F.length).map fun l => (alls F.length).all fun A => (alls (bins F)).all fun B => !shutB F m A B || A.getD l false
def rB (F : List (List Bool)) (m : List Int) : List Bool := (List.range (bins F)).map fun b => (alls F.length).all fun A => (alls (bins F)).all fun B => !shutB F m A B || B.getD b false
theorem rL_len (F : List (List Bool)) (m : List Int) : (rL F m).length = F.length := by simp [rL]
theorem rB_len (F : List (List Bool)) (m : List Int) : (rB F m).length = bins F := by simp [rB]
theorem rL_iff {F : List (List Bool)} {m : List Int} {l : Nat} (hl : l < F.length) : (rL F m).getD l false = true ↔ ∀ A B : List Bool, A.length = F.length → B.length = bins F → Shut F m A B → A.getD l false = true := by
  have e : (rL F m).getD l false = (alls F.length).all fun A => (alls (bins F)).all fun B => !shutB F m A B || A.getD l false := by simp [rL, hl]
  rw [e]
  simp only [List.all_eq_true, Bool.or_eq_true, Bool.not_eq_true']
  constructor
  · intro h A B hA hB hS
    rcases h A (hA ▸ mem_alls A) B (hB ▸ mem_alls B) with c | c
    · rw [shutB_iff.2 hS] at c; cases c
    · exact c
  · intro h A hA B hB
    cases c : shutB F m A B
    · exact Or.inl rfl
    · exact Or.inr (h A B (alls_len hA) (alls_len hB) (shutB_iff.1 c))
theorem rB_iff {F : List (List Bool)} {m : List Int} {b : Nat} (hb : b < bins F) : (rB F m).getD b false = true ↔ ∀ A B : List Bool, A.length = F.length → B.length = bins F → Shut F m A B → B.getD b false = true := by
  have e : (rB F m).getD b false = (alls F.length).all fun A => (alls (bins F)).all fun B => !shutB F m A B || B.getD b false := by simp [rB, hb]
  rw [e]
  simp only [List.all_eq_true, Bool.or_eq_true, Bool.not_eq_true']
  constructor
  · intro h A B hA hB hS
    rcases h A (hA ▸ mem_alls A) B (hB ▸ mem_alls B) with c | c
    · rw [shutB_iff.2 hS] at c; cases c
    · exact c
  · intro h A hA B hB
    cases c : shutB F m A B
    · exact Or.inl rfl
    · exact Or.inr (h A B (alls_len hA) (alls_len hB) (shutB_iff.1 c))
theorem shut_r (F : List (List Bool)) (m : List Int) : Shut F m (rL F m) (rB F m) := by
  intro l hl
  refine ⟨fun e => (rL_iff hl).2 fun A B _ _ hS => (hS l hl).1 e, fun b hb => ⟨fun h1 h2 => (rB_iff hb).2 fun A B hA hB hS => ((hS l hl).2 b hb).1 ((rL_iff hl).1 h1 A B hA hB hS) h2, fun h1 h2 => (rL_iff hl).2 fun A B hA hB hS => ((hS l hl).2 b hb).2 ((rB_iff hb).1 h1 A B hA hB hS) h2⟩⟩
/-- What is come to at most. -/
def Come (F : List (List Bool)) (m : List Int) (A B : List Bool) : Prop := A.length = F.length ∧ B.length = bins F ∧ (∀ l, l < F.length → A.getD l false = true → (rL F m).getD l false = true) ∧ ∀ b, b < bins F → B.getD b false = true → (rB F m).getD b false = true
theorem bext {a b : List Bool} (hl : a.length = b.length) (h : ∀ i, i < a.length → (a.getD i false = true ↔ b.getD i false = true)) : a = b := by
  apply List.ext_getElem hl
  intro i h1 h2
  have := h i h1
  simp [h1, h2] at this
  exact this
theorem come_eq {F : List (List Bool)} {m : List Int} {A B : List Bool} (h : Come F m A B) (hS : Shut F m A B) : A = rL F m ∧ B = rB F m := by
  obtain ⟨h1, h2, h3, h4⟩ := h
  refine ⟨bext (by rw [h1, rL_len]) fun i hi => ⟨h3 i (by omega), fun e => (rL_iff (by omega)).1 e A B h1 h2 hS⟩, bext (by rw [h2, rB_len]) fun i hi => ⟨h4 i (by omega), fun e => (rB_iff (by omega)).1 e A B h1 h2 hS⟩⟩
/-- A bin come to has a load. -/
theorem Inv.owned {F : List (List Bool)} {m own : List Int} (h : Inv F F.length m own) {b : Nat} (hb : b < bins F) (hr : (rB F m).getD b false = true) : ∃ l : Nat, l < F.length ∧ own.getD b (-1) = (l : Int) ∧ m.getD l (-1) = (b : Int) := by
  obtain ⟨R, hR, hU⟩ := h.clo
  have key : 0 ≤ own.getD b (-1) := by
    apply Classical.byContradiction
    intro hn
    -- the bins of R, and the loads that fit nothing outside
    have dec : ∀ (P : Nat → Prop) (n : Nat), ∃ L : List Bool, L.length = n ∧ ∀ i, i < n → (L.getD i false = true ↔ P i) := by
      intro P n
      induction n with
      | zero => exact ⟨[], rfl, fun i hi => by omega⟩
      | succ n ih =>
        obtain ⟨L, hL, hP⟩ := ih
        rcases Classical.em (P n) with hp | hp
        · refine ⟨L ++ [true], by simp [hL], fun i hi => ?_⟩
          by_cases e : i = n
          · subst e; simp [← hL]; simpa [hL] using hp
          · have := hP i (by omega)
            have hi' : i < L.length := by omega
            simpa [List.getElem?_append, hi'] using this
        · refine ⟨L ++ [false], by simp [hL], fun i hi => ?_⟩
          by_cases e : i = n
          · subst e; simp [← hL]; simpa [hL] using hp
          · have := hP i (by omega)
            have hi' : i < L.length := by omega
            simpa [List.getElem?_append, hi'] using this
    obtain ⟨B, hB, hBP⟩ := dec R (bins F)
    obtain ⟨A, hA, hAP⟩ := dec (fun l => ∀ b', b' < bins F → fit F l b' = true → R b') F.length
    have hS : Shut F m A B := by
      intro l hl
      refine ⟨fun e => (hAP l hl).2 (hU l hl hl e), fun c hc => ⟨fun h1 h2 => (hBP c hc).2 ((hAP l hl).1 h1 c hc h2), fun h1 h2 => (hAP l hl).2 ?_⟩⟩
      have ho := h.mo.mo l c hl hc h2
      have := (hR c hc ((hBP c hc).1 h1)).2
      rw [ho] at this
      exact this
    have := (hBP b hb).1 ((rB_iff hb).1 hr A B hA hB hS)
    exact hn (hR b hb this).1
  rcases h.mo.om b hb with e | ⟨l, h1, h2, h3, _⟩
  · omega
  · exact ⟨l, h1, h2, h3⟩
/-- The numbers of those that are so. -/
def those (l : List Bool) (so : Bool) : List Int := ((List.range l.length).filter fun i => l.getD i false == so).map fun (i : Nat) => (i : Int)
def thoseTo (l : List Bool) (so : Bool) (k : Nat) : List Int := ((List.range k).filter fun i => l.getD i false == so).map fun (i : Nat) => (i : Int)
theorem thoseTo_step (l : List Bool) (so : Bool) (k : Nat) : thoseTo l so (k + 1) = if l.getD k false == so then thoseTo l so k ++ [(k : Int)] else thoseTo l so k := by
  unfold thoseTo
  rw [List.range_succ, List.filter_append, List.map_append]
  split <;> rename_i h
  · simp only [List.filter_cons, h, if_true, List.filter_nil]; rfl
  · simp only [List.filter_cons, h]; simp
theorem mem_those {l : List Bool} {so : Bool} {x : Int} : x ∈ those l so ↔ ∃ i : Nat, i < l.length ∧ l.getD i false = so ∧ x = (i : Int) := by
  simp only [those, List.mem_map, List.mem_filter, List.mem_range, beq_iff_eq]
  constructor
  · rintro ⟨i, ⟨h1, h2⟩, rfl⟩; exact ⟨i, h1, h2, rfl⟩
  · rintro ⟨i, h1, h2, rfl⟩; exact ⟨i, ⟨h1, h2⟩, rfl⟩
theorem those_has {l : List Bool} {so : Bool} {i : Nat} (hi : i < l.length) : (those l so).contains (i : Int) = (l.getD i false == so) := by
  rw [List.contains_eq_mem]
  rw [Bool.eq_iff_iff, decide_eq_true_iff, beq_iff_eq, mem_those]
  constructor
  · rintro ⟨j, _, h, e⟩; have : i = j := by omega
    subst this; exact h
  · exact fun h => ⟨i, hi, h, rfl⟩
theorem those_rise (l : List Bool) (so : Bool) : (those l so).Pairwise (· < ·) := by
  unfold those
  rw [List.pairwise_map]
  have : ((List.range l.length).filter fun i => l.getD i false == so).Pairwise (· < ·) := List.Pairwise.filter _ List.pairwise_lt_range
  exact this.imp fun h => by omega
theorem those_nodup (l : List Bool) (so : Bool) : (those l so).Nodup := (those_rise l so).imp fun h => by omega
/-- A rising list is told by what is in it. -/
theorem rise_ext : ∀ {a b : List Int}, a.Pairwise (· < ·) → b.Pairwise (· < ·) → (∀ x, x ∈ a ↔ x ∈ b) → a = b := fun {a b} ha hb h => by
  have p : a.Perm b := (List.perm_ext_iff_of_nodup (ha.imp fun h => by omega) (hb.imp fun h => by omega)).2 h
  exact p.eq_of_pairwise (fun x y _ _ h1 h2 => by omega) ha hb
theorem all_yes {n : Nat} {p : Nat → Bool} (h : (List.range n).all p = true) {i : Nat} (hi : i < n) : p i = true := by
  simp only [List.all_eq_true, List.mem_range] at h; exact h i hi
theorem all_of {n : Nat} {p : Nat → Bool} (h : ∀ i, i < n → p i = true) : (List.range n).all p = true := by
  simp only [List.all_eq_true, List.mem_range]; exact h
theorem all_not {n : Nat} {p : Nat → Bool} {i : Nat} (hi : i < n) (h : p i = false) : (List.range n).all p = false := by
  cases e : (List.range n).all p
  · rfl
  · rw [all_yes e hi] at h; cases h
/-- The first place of x, or -1. -/
def idx (xs : List Int) (x : Int) : Int := if xs.contains x then (xs.idxOf x : Int) else -1
theorem idx_none {xs : List Int} {x : Int} (h : ∀ j, j < xs.length → (xs.getD j 0 == x) = false) : idx xs x = -1 := by
  have : xs.contains x = false := by
    rw [List.contains_eq_mem, decide_eq_false_iff_not]
    intro hm
    obtain ⟨i, hi, rfl⟩ := List.getElem_of_mem hm
    have := h i hi
    simp [hi] at this
  unfold idx; rw [if_neg (by rw [this]; simp)]
theorem idx_at : ∀ {xs : List Int} {x : Int} {k : Nat}, k < xs.length → (xs.getD k 0 == x) = true → (∀ j, j < k → (xs.getD j 0 == x) = false) → idx xs x = (k : Int)
  | xs, x, k, hk, h, hn => by
    have hx : xs[k] = x := by simpa [hk] using h
    have hm : xs.contains x = true := by rw [List.contains_eq_mem, decide_eq_true_iff, ← hx]; exact List.getElem_mem hk
    unfold idx
    rw [if_pos hm]
    have hl : xs.idxOf x < xs.length := List.idxOf_lt_length_iff.2 (by simpa using hm)
    have e : xs[xs.idxOf x] = x := List.getElem_idxOf hl
    have h1 : ¬ xs.idxOf x < k := fun c => by have := hn _ c; simp [hl] at this
    have h2 : ¬ k < xs.idxOf x := fun c => by
      have := List.not_of_lt_findIdx c
      simp [hx] at this
    omega
theorem idx_has (xs : List Int) (x : Int) : decide (0 ≤ idx xs x) = xs.contains x := by
  unfold idx
  cases h : xs.contains x
  · rfl
  · rw [if_pos rfl]; simp
theorem MO.idx_eq {F : List (List Bool)} {m own : List Int} (h : MO F m own) {b : Nat} (hb : b < bins F) : idx m (b : Int) = own.getD b (-1) := by
  have g : ∀ j, j < m.length → m.getD j 0 = m.getD j (-1) := fun j hj => by simp [hj]
  rcases h.first hb with ⟨e, hn⟩ | ⟨l, hl, e, hm, hu⟩
  · rw [e]; exact idx_none fun j hj => by rw [g j hj]; simpa using hn j hj
  · rw [e]; refine idx_at hl (by rw [g l hl, hm]; simp) fun j hj => ?_
    rw [g j (by omega), beq_eq_false_iff_ne]
    intro c
    have := hu j (by omega) c
    omega
/-- How many are not -1. -/
def cnt (m : List Int) : Nat := (m.filter fun x => x != -1).length
def cntTo (m : List Int) (k : Nat) : Nat := cnt (m.take k)
theorem cntTo_step {m : List Int} {k : Nat} (hk : k < m.length) : cntTo m (k + 1) = cntTo m k + (if m.getD k 0 == -1 then 0 else 1) := by
  unfold cntTo cnt
  rw [List.take_add_one, List.getElem?_eq_getElem hk, Option.toList_some, List.filter_append, List.length_append, Pf.getD_lt m 0 hk]
  by_cases e : m[k] = -1 <;> simp [e]
theorem cntTo_le (m : List Int) (k : Nat) : cntTo m k ≤ m.length := by
  unfold cntTo cnt
  exact Nat.le_trans (List.length_filter_le _ _) (by simp; omega)
theorem cntTo_all (m : List Int) : cntTo m m.length = cnt m := by simp [cntTo]
def cntB (m : List Int) : Bool := decide (m.length ≤ 8) && Pf.allB m (-1) 7
def cntI (m : List Int) : Int := if cntB m then (cnt m : Int) else 0
/-- Rising numbers below many. -/
def least (l : List Int) (i : Nat) : Int := if i = 0 then 0 else l.getD (i - 1) 0 + 1
def riseAt (l : List Int) (many i : Nat) : Bool := Pf.inB (l.getD i 0) (least l i) ((many : Int) - 1)
def riseB (l : List Int) (many : Nat) : Bool := (List.range l.length).all (riseAt l many)
theorem least_nn {l : List Int} {many k : Nat} (h : ∀ i, i < k → riseAt l many i = true) : 0 ≤ least l k := by
  induction k with
  | zero => simp [least]
  | succ k ih =>
    have h1 := ih fun i hi => h i (by omega)
    have h2 := Pf.inB_yes (h k (by omega))
    simp [least]
    simp at h2
    omega
/-- Whether load i's bin is none, or fits it and is no earlier one's. -/
def matAt (F : List (List Bool)) (m : List Int) (i : Nat) : Bool := m.getD i 0 == -1 || (Pf.inB (m.getD i 0) 0 ((bins F : Int) - 1) && (fit F i (m.getD i 0).toNat && !(m.take i).contains (m.getD i 0)))
def matB (F : List (List Bool)) (m : List Int) : Bool := decide (m.length = F.length) && (List.range F.length).all (matAt F m)
theorem matB_ne {F : List (List Bool)} {m : List Int} (h : m.length ≠ F.length) : matB F m = false := by simp [matB, h]
theorem matB_len {F : List (List Bool)} {m : List Int} (h : m.length = F.length) : matB F m = (List.range F.length).all (matAt F m) := by simp [matB, h]
def imB (F : List (List Bool)) (m : List Int) : Bool := if goodB F then matB F m else false
/-- Whether load l that fits bin b is among loads, or b among bins. -/
def covAt (F : List (List Bool)) (ls bs : List Int) (l b : Nat) : Bool := !fit F l b || (ls.contains (l : Int) || bs.contains (b : Int))
def covB (F : List (List Bool)) (ls bs : List Int) : Bool := (List.range F.length).all fun l => (List.range (bins F)).all (covAt F ls bs l)
def icB (F : List (List Bool)) (ls bs : List Int) : Bool := goodB F && (riseB ls F.length && riseB bs (bins F))
def icI (F : List (List Bool)) (ls bs : List Int) : Bool := if icB F ls bs then covB F ls bs else false
/-- Rising numbers below many are at most so many. -/
theorem rise_least {l : List Int} {many : Nat} : ∀ {k : Nat}, (∀ i, i < k → riseAt l many i = true) → (k : Int) ≤ least l k
  | 0, _ => by simp [least]
  | k + 1, h => by
    have ih := rise_least (l := l) (many := many) (k := k) fun i hi => h i (by omega)
    have h2 := Pf.inB_yes (h k (by omega))
    simp only [least, Nat.add_sub_cancel, Nat.add_eq_zero_iff, Nat.one_ne_zero, and_false, if_false]
    omega
theorem riseB_len {l : List Int} {many : Nat} (h : riseB l many = true) : l.length ≤ many := by
  cases e : l.length with
  | zero => omega
  | succ k =>
    have h1 := fun i (hi : i < k + 1) => all_yes h (i := i) (by omega)
    have h2 := rise_least (k := k) fun i hi => h1 i (by omega)
    have h3 := Pf.inB_yes (h1 k (by omega))
    omega
theorem icB_len {F : List (List Bool)} {ls bs : List Int} (h : icB F ls bs = true) : ls.length ≤ 8 ∧ bs.length ≤ 8 := by
  simp only [icB, Bool.and_eq_true] at h
  obtain ⟨h1, h2, h3⟩ := h
  have := goodB_len h1; have := goodB_bins h1; have := riseB_len h2; have := riseB_len h3
  omega
end Go.Proofs.Ytnfcedccjfnceaa.Ma
namespace Go.Proofs.Ytnfcedccjfnceaa
open Go.RowKit

theorem none_row12 (w : World) : (w.alloc (.cells #[] 3)).ownsRow w.heap.size 3 1 (.slice (some ⟨w.heap.size, 0, none⟩) 0 0) 0 [] := by
  have h := World.ownsRow_lit (base := w.heap.size) (e := 3) (size := 1) w #[] 0 (Nat.le_refl _) (by unfold maxLen; omega) (by simp)
  simpa using h
/-- A list of ints behind an empty one. -/
theorem cl_run11 {w : World} {a : Option Addr} {n c : Nat} {xs : List Int} (hx : xs.length = n) (hn : n ≤ 1000) (ha : ARow w a xs) :
    ∃ v' w', (∀ ty, (Builtin.append_ #[24, 24] ty #[.slice (some ⟨w.heap.size, 0, none⟩) 0 0, .slice a n c]).run Try.prog (w.alloc (.cells #[] 3)) = .ok v' w') ∧ w'.ownsRow w.heap.size 3 1 v' n (ints xs) ∧ Below w.heap.size w w' := by
  obtain ⟨i0', hi', hz0, hz1, hz2⟩ := infoI
  obtain ⟨v', w', h1, h2, h3⟩ := run_append_v (P := Try.prog) (w.alloc (.cells #[] 3)) w.heap.size 24 0 3 i0' _ 8 Try.underlying24 hi' hz0 hz1 hz2 rfl _ 0 _ (none_row12 w) a n c (ints xs) (by rw [ints_len, hx]) (ha.alloc _).vrow (fun u hu => by simp only [ints, List.mem_map] at hu; obtain ⟨_, _, rfl⟩ := hu; rfl) (by unfold maxLen; omega) (by omega) (by simp)
  rw [Nat.zero_add] at h2
  exact ⟨v', w', fun _ => h1, h2, ((Below.refl _ _).alloc (Nat.le_refl _) (.cells #[] 3)).trans (grown_under10 h3 (fun b e => by simp [Value.ownBlock] at e; omega) (by simp))⟩
/-- None, or an order. -/
def BO (w : World) (lo n : Nat) (v : Value) : Option (List Nat) → Prop
  | none => v = .slice none 0 0
  | some x => w.ownsRow lo 3 1 v n (ints (cst x))
theorem BO.below {w w' : World} {lo n : Nat} {v : Value} : ∀ {o : Option (List Nat)}, BO w lo n v o → Below w.heap.size w w' → BO w' lo n v o
  | none, h, _ => h
  | some _, h, hb => own_below h hb
def BoP (w : World) (n : Nat) (x : List Nat) (e : Ending) (w' : World) : Prop := ∃ v, e = .returned v ∧ w'.ownsRow w.heap.size 3 1 v n (ints (cst x)) ∧ Below w.heap.size w w'
set_option maxRecDepth 100000 in
set_option maxHeartbeats 4000000 in
theorem sbo_any {L : List (Int × Int)} {n : Nat} (hl : Hid (L.length = n)) (n1 : 1 ≤ n) (n7 : n ≤ 7) (hs : Hid (Rt.allS L = true)) : ∀ (f : Nat) {a a' : Option Addr} {c d m : Nat} {b : List Nat} {w : World}, Hid (Rt.Bg n f b) → Hid ((cst b).length = m) → m + f = n → Hid (FRow w a L) → Hid (ARow w a' (cst b)) →
    Calls Try.prog 36 #[.slice a n c, .slice a' m d] w (BoP w n (Rt.bo L n f b))
  | 0, a, a', c, d, m, b, w, hb, hm, hmf, ha, hr => by
    obtain rfl : m = n := by omega
    obtain ⟨v', w', hr1, own1, hb1⟩ := cl_run11 (c := d) hm.out (by omega) hr.out
    have HO := hide own1
    have HB := hide hb1
    clear own1 hb1
    go_enter Try.func36, Try.ntmps36
    go_wp2_with (first | (at_builtin; refine Lib.wpList_append_run _ rfl _ _ _ _ rfl _ _ rfl rfl _ _ (hr1 _) ?_))
    go_ret
    exact ⟨v', rfl, HO.out, HB.out⟩
  | f + 1, a, a', c, d, m, b, w, hb, hm, hmf, ha, hr => by
    have HIH := hide fun (k : Nat) (W : World) (g : Option Addr) (cg : Nat) (hk : k < n) (hk' : ¬ k ∈ b) (h1 : Below w.heap.size w W) (h2 : ARow W g (cst (b ++ [k]))) => sbo_any hl n1 n7 hs f (a := a) (a' := g) (c := c) (d := cg) (m := m + 1) (b := b ++ [k]) (w := W) (hide (hb.out.add hk hk')) (hide (by rw [cst_len, List.length_append]; have := hm.out; rw [cst_len] at this; simp; omega)) (by omega) (hide (ha.out.below h1)) (hide h2)
    have HCO := hide fun (W : World) (x : List Nat) (g : Option Addr) (cg : Nat) (h1 : Below w.heap.size w W) (hx : Rt.Bg n 0 x) (h2 : ARow W g (cst x)) => src_any (c := c) (d := cg) (w := W) (os := cst x) hl (hide (by rw [cst_len]; have := hx.len; omega)) n1 n7 hs (hide (Rt.bg_in hl.out hx)) (hide (ha.out.below h1)) (hide h2)
    have hmn : ((m : Int) == (n : Int)) = false := by simp; omega
    have hmn' : ¬ (m : Int) = (n : Int) := by omega
    go_enter Try.func36, Try.ntmps36
    go_wp2_with fail
    go_loopw [5, 6, 7, 18] (fun v _ _ s wr => ∃ k : Nat, s = .int .i64 k ∧ k ≤ n ∧ Hid (BO wr w.heap.size n v (Rt.boTo L n f b k)) ∧ Hid (Below w.heap.size w wr)) (fun _ _ _ s _ => n - (intOf s).toNat)
    case atStart => exact ⟨0, rfl, Nat.zero_le _, hide rfl, hide (Below.refl _ _)⟩
    case round =>
      obtain ⟨k, rfl, hk, HO, HB⟩ := hrel
      have HS := hide (Rt.boTo_succ L n f b k)
      by_cases hlt : k < n
      · have k1 : (k : Int) < (n : Int) := by omega
        cases hc : b.contains k
        · have HC := hide hc
          have hkb : ¬ k ∈ b := by simpa using hc
          have HKB := hide hkb
          clear hc hkb
          go_wp2_with fail
          refine (hb_has hm (by omega) (hide (hr.out.below HB.out)) HC).mono ?_
          rintro e wq ⟨rfl, hw⟩
          obtain rfl : wr = wq := hw.symm
          obtain ⟨v1, w1, hr1, own1, hb1⟩ := cl_run11 (c := d) hm.out (by omega) (hr.out.below HB.out)
          obtain ⟨g, cg, w2, hr2, own2, hg2, hat⟩ := push_at (x := (k : Int)) own1 (by omega) hb1.size
          rw [cst_snoc] at own2
          have hB2 : Below wr.heap.size wr w2 := hb1.trans (grown_under10 hg2 (fun q e => (own1.lt q e).1) hb1.size)
          have HB2 := hide (HB.out.trans (hB2.mono HB.out.size))
          have HO2 := hide (HO.out.below hB2)
          have HC2 := hide (HIH.out k w2 (some ⟨g, 0, none⟩) cg hlt HKB.out HB2.out (arow_owns (by rw [cst_len, List.length_append]; have := hm.out; rw [cst_len] at this; simp; omega) own2))
          have HX := hide (Rt.bo_all L n f (hb.out.add hlt HKB.out)).2
          obtain ⟨av, cv, ev⟩ := own_form own1
          subst ev
          clear own1 own2 hb1 hg2 hat hB2 HO HB
          go_wp2_with (first | (at_builtin; refine Lib.wpList_append_run _ rfl _ _ _ _ rfl _ _ rfl rfl _ _ (hr1 _) ?_) | (at_builtin; refine Lib.wpList_append_run _ rfl _ _ _ _ rfl _ _ rfl rfl _ _ (hr2 _) ?_))
          refine HC2.out.mono ?_
          rintro e w3 ⟨v3, rfl, own3, hb3⟩
          have HB3 := hide (HB2.out.trans (hb3.mono HB2.out.size))
          have HO3 := hide (HO2.out.below hb3)
          have HN := hide (owns_low own3 HB2.out.size)
          clear own3 hb3 HB2 HO2 HC2 hr1 hr2
          generalize hx : Rt.bo L n f (b ++ [k]) = x at *
          cases ho : Rt.boTo L n f b k with
          | none =>
            rw [ho] at HO3 HS
            obtain rfl : u5 = .slice none 0 0 := HO3.out
            have HE : Hid (Rt.boTo L n f b (k + 1) = some x) := hide (by rw [HS.out, HC.out]; rfl)
            clear HS ho hx
            go_wp2_with fail
            go_roundw
            case rel => exact ⟨k + 1, by go_num, by omega, hide (by rw [HE.out]; exact HN.out), HB3⟩
            case measure => simp only [intOf]; omega
          | some y =>
            rw [ho] at HO3 HS
            have HY := hide (Rt.boTo_some hb.out hk ho)
            have HE : Hid (Rt.boTo L n f b (k + 1) = if Rt.costN L x < Rt.costN L y then some x else some y) := hide (by rw [HS.out, HC.out]; rfl)
            obtain ⟨a5, c5, e5, r5⟩ := own_row (by rw [cst_len]; have := HY.out.len; omega) (show w3.ownsRow w.heap.size 3 1 u5 n (ints (cst y)) from HO3.out)
            obtain ⟨a7, c7, e7, r7⟩ := own_row (by rw [cst_len]; have := HX.out.len; omega) HN.out
            subst e5 e7
            have R5 := hide r5
            have HK1 := hide (HCO.out w3 x a7 c7 HB3.out HX.out r7)
            clear HS ho hx r5 r7
            have n0 : ((n : Int) == 0) = false := by simp; omega
            have n0' : ¬ (n : Int) = 0 := by omega
            rw [show Rt.tour L (cst x) = Rt.costN L x from rfl] at HK1
            have HCY := hide fun (V : World) (h1 : Below w3.heap.size w3 V) => HCO.out V y a5 c5 (HB3.out.trans (h1.mono HB3.out.size)) HY.out (R5.out.below h1)
            rw [show Rt.tour L (cst y) = Rt.costN L y from rfl] at HCY
            generalize Rt.costN L x = X at *
            generalize Rt.costN L y = Y at *
            go_wp2_with fail
            refine HK1.out.mono ?_
            rintro e w4 ⟨rfl, hb4⟩
            have HK2 := hide (HCY.out w4 hb4)
            have B4 := hide hb4
            clear hb4 HCY HK1
            go_wp2_with fail
            refine HK2.out.mono ?_
            rintro e w5 ⟨rfl, hb5⟩
            have B5 := hide (B4.out.trans (hb5.mono B4.out.size))
            have HB5 := hide (HB3.out.trans (B5.out.mono HB3.out.size))
            clear hb5 B4 HK2
            by_cases hxy : X < Y
            · have HE2 : Hid (Rt.boTo L n f b (k + 1) = some x) := hide (by rw [HE.out, if_pos hxy])
              go_wp2_with fail
              go_roundw
              case rel => exact ⟨k + 1, by go_num, by omega, hide (by rw [HE2.out]; exact own_below HN.out B5.out), HB5⟩
              case measure => simp only [intOf]; omega
            · have HE2 : Hid (Rt.boTo L n f b (k + 1) = some y) := hide (by rw [HE.out, if_neg hxy])
              go_wp2_with fail
              go_roundw
              case rel => exact ⟨k + 1, by go_num, by omega, hide (by rw [HE2.out]; exact own_below HO3.out B5.out), HB5⟩
              case measure => simp only [intOf]; omega
        · have HC := hide hc
          clear hc
          have HE : Hid (Rt.boTo L n f b (k + 1) = Rt.boTo L n f b k) := hide (by rw [HS.out, HC.out]; rfl)
          go_wp2_with fail
          refine (hb_has hm (by omega) (hide (hr.out.below HB.out)) HC).mono ?_
          rintro e wq ⟨rfl, hw⟩
          obtain rfl : wr = wq := hw.symm
          go_wp2_with fail
          go_roundw
          case rel => exact ⟨k + 1, by go_num, by omega, hide (by rw [HE.out]; exact HO.out), HB⟩
          case measure => simp only [intOf]; omega
      · have hke : k = n := by omega
        subst hke
        have HF : Hid (wr.ownsRow w.heap.size 3 1 u5 k (ints (cst (Rt.bo L k (f + 1) b)))) := hide (by have := HO.out; rw [Rt.boTo_full L hb.out] at this; exact this)
        go_wp2_with fail
        go_ret
        exact ⟨u5, rfl, HF.out, HB.out⟩
end Go.Proofs.Ytnfcedccjfnceaa
namespace Go.Proofs.Ytnfcedccjfnceaa
open Go.RowKit

/-- What an iterator may do: it lays new blocks, and writes its own from B on that are no cells. -/
structure St (B : Nat) (W W' : World) : Prop where
  b : Below B W W'
  c : ∀ (k : Nat) (o : Obj), W.heap[k]? = some o → o.isCells = true → W'.heap[k]? = some o
theorem St.refl (B : Nat) (W : World) : St B W W := ⟨Below.refl _ _, fun _ _ h _ => h⟩
theorem St.trans {B : Nat} {X Y Z : World} (h : St B X Y) (k : St B Y Z) : St B X Z := ⟨h.b.trans k.b, fun i o hi ho => k.c i o (h.c i o hi ho) ho⟩
theorem St.mono {B B' : Nat} {X Y : World} (h : St B X Y) (hb : B' ≤ B) : St B' X Y := ⟨h.b.mono hb, h.c⟩
theorem St.of_below {B : Nat} {W W' : World} (h : Below W.heap.size W W') (hb : B ≤ W.heap.size) : St B W W' := ⟨h.mono hb, fun k _ hk _ => (h.block k (Array.getElem?_eq_some_iff.1 hk).1).trans hk⟩
theorem St.put {B l : Nat} {W : World} {o o' : Obj} (hl : W.heap[l]? = some o) (ho : o.isCells = false) (hb : B ≤ l) : St B W (W.putObj l o') :=
  ⟨(Below.refl B W).grown (grownBy_putObj' W l o') (by have := (Array.getElem?_eq_some_iff.1 hl).1; omega) (fun k e => by cases e; omega), fun k p hk hp => by
    by_cases e : k = l
    · subst e; rw [hl] at hk; cases hk; rw [ho] at hp; cases hp
    · exact (World.putObj_heap_other e).trans hk⟩
/-- What a round keeps: all that lay from B on. -/
structure Kb (B : Nat) (W W' : World) : Prop where
  size : W.heap.size ≤ W'.heap.size
  same : ∀ (k : Nat) (o : Obj), B ≤ k → W.heap[k]? = some o → W'.heap[k]? = some o
theorem Kb.refl (B : Nat) (W : World) : Kb B W W := ⟨Nat.le_refl _, fun _ _ _ h => h⟩
theorem Kb.trans {B : Nat} {X Y Z : World} (h : Kb B X Y) (k : Kb B Y Z) : Kb B X Z := ⟨Nat.le_trans h.size k.size, fun i o hb hi => k.same i o hb (h.same i o hb hi)⟩
def nPost (R : World → Prop) : Exit → Act → World → Prop
  | .normal, _, W => R W
  | _, _, _ => False
/-- The iterator's word: one after the other, what is handed out lies as T says; all rounds go on. -/
def SeqAll {α : Type} (g : Nat) (lb : Array Value) (T : α → Value → World → Prop) (B : Nat) (S : List α) (w : World) : Prop :=
  ∀ (l : Nat) (J : List α → World → Prop) (W : World), Below w.heap.size w W → (∀ s A C, J s A → St W.heap.size A C → J s C) →
    (∀ pre x v W1, J pre W1 → T x v W1 → YieldAt Fence.wide 0 Try.prog l #[v] W1 fun e W' => e = .returned (.bool true) ∧ J (pre ++ [x]) W' ∧ Kb B W1 W') →
    J [] W → CallsIn Fence.wide 0 Try.prog g (#[.func (.yield l) #[] #[]] ++ lb) W fun e W' => (∃ v, e = .returned v) ∧ J S W'
theorem range_all {α : Type} {g : Operand} {ps : Array Tmp} {assign body : Code} {Q : Exit → Act → World → Prop} {a : Act} {w : World} {gf : Nat} {lb : Array Value}
    (hg : a.eval g = .func (.func gf) #[] lb) (eg : ∀ args w, (callFunc gf args).run Try.prog w = .ok (.enter gf args) w) {T : α → Value → World → Prop} {B : Nat} {S : List α} (hB : B ≤ w.heap.size)
    (hseq : SeqAll gf lb T B S w) (hps : ps.size = 1) (hT : ∀ x v A C, T x v A → St w.heap.size A C → T x v C) (I : List α → World → Prop) (hI : ∀ s A C, I s A → St w.heap.size A C → I s C) (h0 : I [] w)
    (hround : ∀ (l : Nat) (pre : List α) (x : α) (v : Value) (W : World), assign.wpIn (Fence.wide.inRound l) 0 Try.prog (Exit.then (fun a₁ W' => W' = W ∧ ∀ W2, I pre W2 → T x v W2 → body.wpIn (Fence.wide.inRound l) 0 Try.prog (nPost fun W' => Kb B W2 W' ∧ I (pre ++ [x]) W') a₁ W2) (fun _ _ _ => False)) { tmps := (ps.zip #[v]).foldl (fun t (p, v) => t.setIfInBounds p v) a.tmps, defers := [] } W)
    (hdone : ∀ (D : Nat) (W : World), w.heap.size ≤ D → I S W → W.heap[D]? = some (.deferred (some [])) → Q .normal { a with defers := { target := .collected D, args := #[] } :: a.defers } W) :
    (Code.rangeFunc g ps assign body).wpIn Fence.wide 0 Try.prog Q a w := by
  refine wpIn_rangeFunc fun fn hfn => ?_
  obtain ⟨R, hR⟩ : ∃ R : Loop, R = { state := .ready, pending := none, fn, tmps := a.tmps, params := ps, assign, body, defers := w.heap.size } := ⟨_, rfl⟩
  have rs : R.state = .ready := by rw [hR]
  have rp : R.pending = none := by rw [hR]
  have z1 : ((w.alloc (.deferred (some []))).alloc (.loop R)).heap.size = w.heap.size + 2 := by simp
  have b1 : Below w.heap.size w ((w.alloc (.deferred (some []))).alloc (.loop R)) := ((Below.refl _ w).alloc (Nat.le_refl _) _).alloc (by simp) _
  have hL : ((w.alloc (.deferred (some []))).alloc (.loop R)).heap[w.heap.size + 1]? = some (.loop R) := by
    have := World.alloc_heap_new (w.alloc (.deferred (some []))) (.loop R); rwa [World.size_alloc] at this
  have hD : ((w.alloc (.deferred (some []))).alloc (.loop R)).heap[w.heap.size]? = some (.deferred (some [])) :=
    (Below.heap_alloc _ _ _ (by simp)).trans (World.alloc_heap_new w _)
  have he : (Instr.enterLoop fn a.tmps ps assign body Fence.wide.round).run Try.prog w = .ok (w.heap.size + 1, [{ target := .collected w.heap.size, args := #[] }]) ((w.alloc (.deferred (some []))).alloc (.loop R)) := by rw [hR]; exact run_enterLoop_outer _ _ _ _ _
  generalize (w.alloc (.deferred (some []))).alloc (.loop R) = W1 at *
  refine ⟨w.heap.size + 1, [{ target := .collected w.heap.size, args := #[] }], W1, { target := .fn (.func gf) lb, args := #[.func (.yield (w.heap.size + 1)) #[] #[]] }, W1, gf, #[.func (.yield (w.heap.size + 1)) #[] #[]] ++ lb, W1, he, ?_, fun _ _ => trivial, ?_, (fun h => absurd h (by simp [Fence.wide])), ?_⟩
  · simp only [resolve, hg]; simp [go_sem]
  · simp [invoke, go_sem, eg]
  · refine (hseq (w.heap.size + 1) (fun pre W => I pre W ∧ W.heap[w.heap.size + 1]? = some (.loop R) ∧ W.heap[w.heap.size]? = some (.deferred (some []))) W1 b1 ?_ ?_ ⟨hI _ _ _ h0 (St.of_below b1 (Nat.le_refl _)), hL, hD⟩).mono ?_
    · rintro s A C ⟨j1, j2, j3⟩ hst
      exact ⟨hI _ _ _ j1 (hst.mono (by omega)), (hst.b.block _ (by omega)).trans j2, (hst.b.block _ (by omega)).trans j3⟩
    · rintro pre x v W ⟨j1, j2, j3⟩ ht
      have hlt : w.heap.size + 1 < W.heap.size := (Array.getElem?_eq_some_iff.1 j2).1
      have hy := run_yield (P := Try.prog) (args := #[v]) j2 (by rw [hR]; exact hps.symm)
      have s1 : St w.heap.size W (W.putObj (w.heap.size + 1) (.loop { R with state := .busy })) := St.put j2 rfl (by omega)
      refine ⟨R.fn, _, R.assign, R.body, hy, roundIn_of_wpIn trivial ?_⟩
      rw [hR]
      refine wpIn_mono (hround (w.heap.size + 1) pre x v W) ?_
      rintro e a₁ Wx hx
      rw [← hR]
      cases e with
      | ret => exact hx.elim
      | exit id => exact hx.elim
      | goto t => exact hx.elim
      | panic ch => exact hx.elim
      | outgrown => exact hx.elim
      | normal =>
      obtain ⟨hwx, hbody⟩ := hx
      obtain rfl : W = Wx := hwx.symm
      clear hwx
      refine ⟨_, run_beginRound j2 rs, ?_⟩
      have hl2 : (W.putObj (w.heap.size + 1) (.loop { R with state := .busy })).heap[w.heap.size + 1]? = some (.loop { R with state := .busy }) := World.putObj_heap_same hlt
      have hk2 : (W.putObj (w.heap.size + 1) (.loop { R with state := .busy })).heap[w.heap.size]? = some (.deferred (some [])) := (World.putObj_heap_other (by omega)).trans j3
      refine wpIn_mono (by rw [hR]; exact hbody _ (hI _ _ _ j1 (by rw [← hR]; exact s1)) (hT _ _ _ _ ht (by rw [← hR]; exact s1))) ?_
      rintro e a3 W3 hp
      cases e with
      | normal =>
        obtain ⟨hk3, hi3⟩ := hp
        rw [← hR] at hk3
        have hl3 := hk3.same _ _ (by omega) hl2
        have hk4 := hk3.same _ _ (by omega) hk2
        have hr := run_endRound (P := Try.prog) none hl3
        have er : ({ ({ R with state := .busy } : Loop) with state := if (none : Option Code).isNone then .ready else .done, pending := none } : Loop) = R := by
          cases R; simp at rs rp ⊢; exact ⟨rs.symm, rp.symm⟩
        rw [er] at hr
        refine ⟨_, _, hr, rfl, ⟨hI _ _ _ hi3 (St.put hl3 rfl (by omega)), World.putObj_heap_same (Array.getElem?_eq_some_iff.1 hl3).1, (World.putObj_heap_other (by omega)).trans hk4⟩, ?_⟩
        have hsz := hk3.size
        refine ⟨by simp [World.putObj] at hsz ⊢; exact hsz, fun k o hk h => ?_⟩
        by_cases ek : k = w.heap.size + 1
        · subst ek
          rw [j2] at h; cases h
          exact World.putObj_heap_same (Array.getElem?_eq_some_iff.1 hl3).1
        · exact (World.putObj_heap_other ek).trans (hk3.same k o hk ((World.putObj_heap_other ek).trans h))
      | ret => exact hp.elim
      | exit id => exact hp.elim
      | goto t => exact hp.elim
      | panic ch => exact hp.elim
      | outgrown => exact hp.elim
    · rintro e W2 ⟨⟨v, rfl⟩, j1, j2, j3⟩
      have hr := run_endLoop (P := Try.prog) j2 (by rw [rs]; simp)
      rw [rp] at hr
      refine ⟨none, _, hr, hdone _ _ (Nat.le_refl _) (hI _ _ _ j1 (St.put j2 rfl (by omega))) ((World.putObj_heap_other (by omega)).trans j3)⟩
end Go.Proofs.Ytnfcedccjfnceaa
namespace Go.Proofs.Ytnfcedccjfnceaa
open Go.RowKit

attribute [local go_sem] Oper.semAt_some
def mk11 (D : Nat) : Deferred := { target := .collected D, args := #[] }
theorem leaves_marks {fn : Func} {tmps : Array Value} {R : Ending → World → Prop} {B : Nat} : ∀ (Ds : List Nat) (W : World), Ds.Nodup → (∀ D ∈ Ds, B ≤ D ∧ W.heap[D]? = some (.deferred (some []))) → (∀ W', St B W W' → LeavesInM Fence.wide 0 Try.prog fn tmps R [] .returning W') → LeavesInM Fence.wide 0 Try.prog fn tmps R (Ds.map mk11) .returning W
  | [], W, _, _, h => h W (St.refl _ _)
  | D :: Ds, W, hn, hd, h => by
    have h0 := hd D (by simp)
    have hst : St B W (W.putObj D (.deferred none)) := St.put h0.2 rfl h0.1
    refine ⟨by simp, Or.inl ⟨D, _, rfl, run_takeDeferred h0.2, ?_⟩⟩
    refine leaves_marks Ds _ (List.nodup_cons.1 hn).2 (fun D' hD' => ?_) fun W' h' => h W' (hst.trans h')
    have hne : D' ≠ D := fun e => (List.nodup_cons.1 hn).1 (e ▸ hD')
    exact ⟨(hd D' (by simp [hD'])).1, (World.putObj_heap_other hne).trans (hd D' (by simp [hD'])).2⟩
theorem own_block_cells {w : World} {base n : Nat} {v : Value} {xs : List Value} (h : w.ownsRow base 3 1 v n xs) {g : Nat} (hv : v.ownBlock = some g) : ∃ o : Obj, w.heap[g]? = some o ∧ o.isCells = true := by
  rcases h.2 with ⟨rfl, _⟩ | ⟨g', cap, cur, rfl, _, hg, _⟩
  · simp [Value.ownBlock] at hv
  · simp [Value.ownBlock] at hv; subst hv; exact ⟨_, hg, rfl⟩
theorem own_st {w w' : World} {B base n : Nat} {v : Value} {xs : List Value} (h : w.ownsRow base 3 1 v n xs) (hs : St B w w') : w'.ownsRow base 3 1 v n xs :=
  own_keep h fun g hv _ => by
    obtain ⟨o, ho, hc⟩ := own_block_cells h hv
    rw [hs.c g o ho hc, ho]
theorem own_kb {w w' : World} {B base n : Nat} {v : Value} {xs : List Value} (h : w.ownsRow base 3 1 v n xs) (hs : Kb B w w') (hb : B ≤ base) : w'.ownsRow base 3 1 v n xs :=
  own_keep h fun g hv _ => by
    obtain ⟨o, ho, _⟩ := own_block_cells h hv
    rw [hs.same g o (Nat.le_trans hb (h.lt g hv).1) ho, ho]
/-- An order that is handed out. -/
def TO (n B : Nat) (o : List Nat) (v : Value) (W : World) : Prop := W.ownsRow B 3 1 v n (ints (cst o)) ∧ Rt.Bg n 0 o
/-- One number more, in new memory. -/
theorem push_new {W : World} {g m : Nat} {xs : List Int} {x : Int} (hx : xs.length = m) (hm : m ≤ 1000) (h1 : 1 ≤ m) (h : ARow W (some ⟨g, 0, none⟩) xs) :
    ∃ v' w', (∀ ty, (Builtin.append_ #[24, 24] ty #[.slice (some ⟨g, 0, none⟩) m m, .slice (some ⟨W.heap.size, 0, none⟩) 1 1]).run Try.prog (W.alloc (.cells #[.int .i64 x] 3)) = .ok v' w') ∧ w'.ownsRow W.heap.size 3 1 v' (m + 1) (ints xs ++ [.int .i64 x]) ∧ Below W.heap.size W w' := by
  obtain ⟨i0, hi, hz0, hz1, hz2⟩ := infoI
  have hrow := h.alloc (.cells #[.int .i64 x] 3)
  obtain ⟨v', w', h1', h2, h3⟩ := run_append_arg_grows (P := Try.prog) (w := W.alloc (.cells #[.int .i64 x] 3)) 24 0 3 i0 _ 1 8 Try.underlying24 hi hz0 hz1 hz2 rfl (by decide) ⟨g, 0, none⟩ m m (ints xs) (by rw [ints_len, hx]; omega) (fun j u hj => by
      rcases hrow with e | ⟨b, off, e, _, hc⟩
      · subst e; simp at hx; omega
      · cases e
        have hl : j < xs.length := by have := (List.getElem?_eq_some_iff.1 hj).1; rwa [ints_len] at this
        rw [add_plain', hc j hl]
        rw [ints_get xs j hl] at hj
        exact hj) ⟨W.heap.size, 0, none⟩ 1 1 [.int .i64 x] rfl (fun j u hj => by
      rcases vrow_new W (.int .i64 x) 3 with h | ⟨b, off, e, _, hc⟩
      · cases h
      · cases e; rw [add_plain']; exact hc j u hj) (by omega) (by unfold maxLen; omega) (by omega)
  refine ⟨v', w', fun _ => h1', owns_low h2 (by simp), ?_⟩
  have hA := below_alloc W (.cells #[.int .i64 x] 3)
  exact hA.trans ((grown_under10 h3 (fun b e => by cases e) (Nat.le_refl _)).mono hA.size)
end Go.Proofs.Ytnfcedccjfnceaa
namespace Go.Proofs.Ytnfcedccjfnceaa
open Go.RowKit

set_option maxRecDepth 100000 in
set_option maxHeartbeats 1000000 in
theorem ix_any {a : Option Addr} {n c : Nat} {xs : List Int} {x : Int} {w : World} (hx : xs.length = n) (hn : n ≤ 1048576) (ha : ARow w a xs) :
    Calls Try.prog 61 #[.slice a n c, .int .i64 x] w fun e w' => e = .returned (.int .i64 (Ma.idx xs x)) ∧ w' = w := by
  have HA := hide ha
  have HX := hide hx
  clear ha hx
  go_enter Try.func61, Try.ntmps61
  go_wp2_with fail
  go_loop [4, 5, 8] (fun s4 _ s => ∃ (k : Nat), s4 = .int .i64 0 ∧ s = .int .i64 k ∧ k ≤ n ∧ Hid (∀ j, j < k → (xs.getD j 0 == x) = false)) (fun _ _ s => n - (intOf s).toNat)
  case atStart => exact ⟨0, rfl, rfl, Nat.zero_le _, hide fun i hi => absurd hi (Nat.not_lt_zero _)⟩
  case round =>
    obtain ⟨k, rfl, rfl, hk, HK⟩ := hrel
    by_cases hlt : k < n
    · obtain ⟨b, off, rfl, r1⟩ := HA.out.at (i := k) (by rw [HX.out]; exact hlt)
      have i0 : (0 : Int) ≤ (k : Int) := by omega
      have i1 : (k : Int) < (n : Int) := by omega
      have HY := hide fun (h : (xs.getD k 0 == x) = true) => Ma.idx_at (show k < xs.length by rw [HX.out]; exact hlt) h HK.out
      generalize hy : xs.getD k 0 = y at *
      cases hb : (y == x)
      · have hb' : (x == y) = false := by rw [beq_eq_false_iff_ne] at hb ⊢; exact fun e => hb e.symm
        have H1 : Hid (∀ j, j < k + 1 → (xs.getD j 0 == x) = false) := hide fun j hj => by
          by_cases e : j = k
          · subst e; rw [hy]; exact hb
          · exact HK.out j (by omega)
        clear hy
        go_wp2_with fail
        go_round
        case rel => exact ⟨k + 1, rfl, by go_num, by omega, H1⟩
        case measure => simp only [intOf]; omega
      · have hb' : (x == y) = true := by rw [beq_iff_eq] at hb ⊢; exact hb.symm
        have H1 := hide (HY.out hb)
        clear hy
        go_wp2_with fail
        go_ret
        exact ⟨ret_int H1.out.symm, rfl⟩
    · have hke : k = n := by omega
      subst hke
      have H1 := hide (Ma.idx_none (xs := xs) (x := x) (by rw [HX.out]; exact HK.out))
      go_wp2_with fail
      go_ret
      exact ⟨ret_int H1.out.symm, rfl⟩
set_option maxRecDepth 100000 in
set_option maxHeartbeats 1000000 in
theorem con_any {a : Option Addr} {n c : Nat} {xs : List Int} {x : Int} {w : World} (hx : xs.length = n) (hn : n ≤ 1048576) (ha : ARow w a xs) :
    Calls Try.prog 52 #[.slice a n c, .int .i64 x] w fun e w' => e = .returned (.bool (xs.contains x)) ∧ w' = w := by
  have HC := hide (ix_any (c := c) (x := x) hx hn ha)
  have HE := hide (Ma.idx_has xs x)
  generalize Ma.idx xs x = q at *
  clear ha hx
  go_enter Try.func52, Try.ntmps52
  go_wp2_with fail
  refine HC.out.mono ?_
  rintro e w1 ⟨rfl, rfl⟩
  go_wp2_with fail
  go_ret
  exact ⟨ret_bool HE.out, rfl⟩
theorem con_eq {a : Option Addr} {n c : Nat} {xs : List Int} {x : Int} {w : World} {r : Bool} (hx : Hid (xs.length = n)) (hn : n ≤ 1048576) (ha : Hid (ARow w a xs)) (h : Hid (xs.contains x = r)) :
    Calls Try.prog 52 #[.slice a n c, .int .i64 x] w fun e w' => e = .returned (.bool r) ∧ w' = w := h.out ▸ con_any hx.out hn ha.out
set_option maxRecDepth 100000 in
set_option maxHeartbeats 400000 in
theorem of_make (v : Value) (n : Nat) (w : World) (hv : v.oneCell' = true) :
    Calls Try.prog 35 #[v, .int .i64 (n : Int)] w fun e w' => e = .returned (.func (.func 51) #[] #[.pointer (some ⟨w.heap.size, 0, none⟩), .pointer (some ⟨w.heap.size + 1, 0, none⟩)]) ∧ w' = (w.alloc (.cells #[v] 24)).alloc (.cells #[.int .i64 (n : Int)] 3) := by
  go_enter Try.func35, Try.ntmps35
  go_wp2_with fail
  go_ret
  exact ⟨rfl, rfl⟩
end Go.Proofs.Ytnfcedccjfnceaa
namespace Go.Proofs.Ytnfcedccjfnceaa
open Go.RowKit

attribute [local go_sem] Oper.semAt_some
theorem kb_cell {B b : Nat} {W W' : World} {v : Value} (h : Kb B W W') (hb : B ≤ b) (hc : W.cell? ⟨b, 0, none⟩ = some v) : W'.cell? ⟨b, 0, none⟩ = some v := by
  have hl : b < W.heap.size := World.block_lt_of_cell? W _ hc
  have h1 : W'.heap[b]? = W.heap[b]? := by rw [h.same b _ hb (Array.getElem?_eq_getElem hl), Array.getElem?_eq_getElem hl]
  exact (World.cell?_of_block (w := W) (a := ⟨b, 0, none⟩) h1).trans hc
/-- The iterator's state between two rounds of its own loop. -/
def OfI (l Bs Bm Y n B H : Nat) (v : Value) (b : List Nat) (f : Nat) (J : List (List Nat) → World → Prop) (a : Act) (W : World) : Prop :=
  ∃ (i : Nat) (z : Int) (Ds : List Nat) (u4 u5 u6 u7 u8 u9 u10 u11 u12 u13 u16 u17 u18 u19 u20 u21 u22 u23 u24 u25 u26 u27 u28 u29 u30 u31 u32 u33 u34 u35 u36 u37 u38 : Value), a = { tmps := #[.func (.yield l) #[] #[], .pointer (some ⟨Bs, 0, none⟩), .pointer (some ⟨Bm, 0, none⟩), .pointer (some ⟨Y, 0, none⟩), u4, u5, u6, u7, u8, u9, u10, u11, u12, u13, .int .i64 (n : Int), .int .i64 z, u16, u17, u18, u19, u20, u21, u22, u23, u24, u25, u26, u27, u28, u29, u30, u31, u32, u33, u34, u35, u36, u37, u38], defers := Ds.map mk11 } ∧ z = (i : Int) ∧ i ≤ n ∧ Ds.Nodup ∧ (∀ D ∈ Ds, H ≤ D ∧ W.heap[D]? = some (.deferred (some []))) ∧
    W.cell? ⟨Bs, 0, none⟩ = some v ∧ W.cell? ⟨Bm, 0, none⟩ = some (.int .i64 (n : Int)) ∧ W.cell? ⟨Y, 0, none⟩ = some (.func (.yield l) #[] #[]) ∧ W.ownsRow B 3 1 v b.length (ints (cst b)) ∧ J (Rt.ordsTo n f b i) W ∧ H ≤ W.heap.size
def OfM (n : Nat) (a : Act) (_ : World) : Nat := n - (intOf (a.tmps.getD 15 undef)).toNat
theorem in_append_run {F : Fence} {n : Nat} {P : Program} (w : World) {ops : Array Oper} {rest : List Oper} {o : Oper} {a : Act} {Q : Exit → Act → World → Prop} (hgd : o.guard = none) (s x : Operand) (t tn : TypeId)
    (ho : o.op = .call { callee := .builtin .append, args := #[s, x], argTypes := #[t, tn] }) (vs vx : Value) (hs : a.eval s = vs) (hx : a.eval x = vx)
    (v' : Value) (w' : World) (hr : (Builtin.append_ #[t, tn] o.type #[vs, vx]).run P w = .ok v' w') (h : wpListIn F n P ops Q rest (a.put o.dst v') w') : wpListIn F n P ops Q (o :: rest) a w := by
  refine wpListIn_plain hgd fun K hK' => ?_
  unfold Oper.wpIn
  refine ⟨?_, ?_⟩
  · simp [Oper.about, ho, resolve, Target.leads, Sem.run_pure]
  · rw [Oper.semAt_plain F _ _ (by rw [ho]; intro c hc'; cases hc')]
    simp [execOp, ho, resolve, invoke, builtin, hs, hx, hr, Result.andThen]
    exact hK' _ _ h
set_option maxRecDepth 100000 in
set_option maxHeartbeats 4000000 in
theorem of_seq {n : Nat} (n7 : n ≤ 7) {B : Nat} : ∀ (f : Nat) {b : List Nat} {Bs Bm g cg : Nat} {w : World}, Rt.Bg n f b → 1 ≤ b.length → B ≤ Bs → B ≤ Bm → w.cell? ⟨Bs, 0, none⟩ = some (.slice (some ⟨g, 0, none⟩) b.length cg) → w.cell? ⟨Bm, 0, none⟩ = some (.int .i64 (n : Int)) → w.ownsRow B 3 1 (.slice (some ⟨g, 0, none⟩) b.length cg) b.length (ints (cst b)) →
    SeqAll 51 #[.pointer (some ⟨Bs, 0, none⟩), .pointer (some ⟨Bm, 0, none⟩)] (TO n B) B (Rt.ords n f b) w
  | 0, b, Bs, Bm, g, cg, w, hb, h1, hBs, hBm, hc1, hc2, hown => by
    intro l J W hW hJ hY h0
    have hlen : b.length = n := by have := hb.len; omega
    have d1 := (hW.cell (p := ⟨Bs, 0, none⟩) (World.block_lt_of_cell? w _ hc1)).trans hc1
    have d2 := (hW.cell (p := ⟨Bm, 0, none⟩) (World.block_lt_of_cell? w _ hc2)).trans hc2
    have hown' := own_below hown hW
    rw [hlen] at d1 hown'
    have hA := below_alloc W (.cells #[.func (.yield l) #[] #[]] 74)
    have a1 := (hA.cell (p := ⟨Bs, 0, none⟩) (World.block_lt_of_cell? W _ d1)).trans d1
    have a2 := (hA.cell (p := ⟨Bm, 0, none⟩) (World.block_lt_of_cell? W _ d2)).trans d2
    obtain ⟨fn, tmps, assign, body, hy, hR⟩ := hY [] b (.slice (some ⟨g, 0, none⟩) n cg) _ (hJ _ _ _ h0 (St.of_below hA (Nat.le_refl _))) ⟨own_below hown' hA, hb⟩
    refine callsIn_of_wp_marks Try.func51 rfl trivial ?_ rfl
    simp only [Try.ntmps51, List.size_toArray, List.length_cons, List.length_nil, Nat.reduceAdd, Nat.reduceSub, Array.replicate_succ, Array.replicate_zero, List.push_toArray, List.append_toArray, List.nil_append, List.cons_append]
    gi_wp2
    refine ⟨rfl, hR.mono ?_⟩
    rintro e W3 ⟨rfl, hJ3, _⟩
    gi_wp2
    exact ⟨_, results_none rfl _ _ _, ⟨_, rfl⟩, hJ3⟩
  | f + 1, b, Bs, Bm, g, cg, w, hb, h1, hBs, hBm, hc1, hc2, hown => by
    intro l J W hW hJ hY h0
    have hlen : b.length + (f + 1) = n := hb.len
    have hne : ¬ (b.length : Int) = (n : Int) := by omega
    have hne' : ((b.length : Int) == (n : Int)) = false := by simp; omega
    have d1 := (hW.cell (p := ⟨Bs, 0, none⟩) (World.block_lt_of_cell? w _ hc1)).trans hc1
    have d2 := (hW.cell (p := ⟨Bm, 0, none⟩) (World.block_lt_of_cell? w _ hc2)).trans hc2
    have hown' := own_below hown hW
    have hA := below_alloc W (.cells #[.func (.yield l) #[] #[]] 74)
    have a1 := (hA.cell (p := ⟨Bs, 0, none⟩) (World.block_lt_of_cell? W _ d1)).trans d1
    have a2 := (hA.cell (p := ⟨Bm, 0, none⟩) (World.block_lt_of_cell? W _ d2)).trans d2
    have a3 : (W.alloc (.cells #[.func (.yield l) #[] #[]] 74)).cell? ⟨W.heap.size, 0, none⟩ = some (.func (.yield l) #[] #[]) := by simp
    have hj0 := hJ _ _ _ h0 (St.of_below hA (Nat.le_refl _))
    have hown2 := own_below hown' hA
    refine callsIn_of_wp_marks Try.func51 rfl trivial ?_ rfl
    simp only [Try.ntmps51, List.size_toArray, List.length_cons, List.length_nil, Nat.reduceAdd, Nat.reduceSub, Array.replicate_succ, Array.replicate_zero, List.push_toArray, List.append_toArray, List.nil_append, List.cons_append]
    gi_wp2
    refine wpIn_loop (OfI l Bs Bm W.heap.size n B W.heap.size (.slice (some ⟨g, 0, none⟩) b.length cg) b f J) (OfM n) ?_ ?_
    · exact ⟨0, 0, [], _, _, _, _, _, _, _, _, _, _, _, _, _, _, _, _, _, _, _, _, _, _, _, _, _, _, _, _, _, _, _, _, _, rfl, rfl, Nat.zero_le _, by simp, by simp, a1, a2, a3, hown2, hj0, hA.size⟩
    · rintro a W1 ⟨i, _, Ds, u4, u5, u6, u7, u8, u9, u10, u11, u12, u13, u16, u17, u18, u19, u20, u21, u22, u23, u24, u25, u26, u27, u28, u29, u30, u31, u32, u33, u34, u35, u36, u37, u38, rfl, rfl, hi, hnd, hds, c1, c2, c3, own1, hj1, hH⟩
      clear hj0 a1 a2 a3 hown2 hown' d1 d2 h0
      by_cases hlt : i < n
      · have i1 : (i : Int) < (n : Int) := by omega
        have row1 := arow_owns (by rw [cst_len]) own1
        have HS := Rt.ordsTo_succ n f b i
        have hcap : b.length ≤ cg := by
          rcases own1.2 with ⟨h, _⟩ | ⟨g', cap, cur, hv, _, _, hc, _⟩
          · cases h
          · cases hv; exact hc
        cases hcn : b.contains i
        · rw [hcn] at HS
          have hib : ¬ i ∈ b := by simpa using hcn
          obtain ⟨v', w2, hr, own2, hb2⟩ := push_new (x := (i : Int)) (cst_len b) (by omega) h1 row1
          rw [cst_snoc] at own2
          obtain ⟨g2, cg2, rfl, hg2, _⟩ := own2.form (by omega)
          have ls := World.block_lt_of_cell? W1 _ c1
          have lm := World.block_lt_of_cell? W1 _ c2
          have ly := World.block_lt_of_cell? W1 _ c3
          simp only at ls lm ly
          have e2 := (hb2.cell (p := ⟨Bm, 0, none⟩) lm).trans c2
          obtain ⟨W3, hW3⟩ : ∃ W3, (w2.alloc (.cells #[.slice (some ⟨g2, 0, none⟩) (b.length + 1) cg2] 24)).alloc (.cells #[.int .i64 (n : Int)] 3) = W3 := ⟨_, rfl⟩
          have hb3 : Below w2.heap.size w2 W3 := hW3 ▸ below_two w2 _ _
          have x1 : W3.cell? ⟨w2.heap.size, 0, none⟩ = some (.slice (some ⟨g2, 0, none⟩) (b.length + 1) cg2) := by rw [← hW3]; simp
          have x2 : W3.cell? ⟨w2.heap.size + 1, 0, none⟩ = some (.int .i64 (n : Int)) := by rw [← hW3]; simp
          have hB13 : Below W1.heap.size W1 W3 := hb2.trans (hb3.mono hb2.size)
          have hBW : B ≤ W1.heap.size := by omega
          have own3 : W3.ownsRow B 3 1 (.slice (some ⟨g2, 0, none⟩) (b ++ [i]).length cg2) (b ++ [i]).length (ints (cst (b ++ [i]))) := by
            rw [List.length_append]
            exact owns_low (own_below own2 hb3) hBW
          have y1 := (hB13.cell (p := ⟨Bs, 0, none⟩) ls).trans c1
          have y2 := (hB13.cell (p := ⟨Bm, 0, none⟩) lm).trans c2
          have y3 := (hB13.cell (p := ⟨W.heap.size, 0, none⟩) ly).trans c3
          have hsz := hB13.size
          have hBY : B ≤ W.heap.size := by have := World.block_lt_of_cell? w _ hc1; have := hW.size; simp only at *; omega
          have hD3 : ∀ D ∈ Ds, W.heap.size ≤ D ∧ W3.heap[D]? = some (.deferred (some [])) := fun D hD => ⟨(hds D hD).1, (hB13.block D (Array.getElem?_eq_some_iff.1 (hds D hD).2).1).trans (hds D hD).2⟩
          have hDl : ∀ D ∈ Ds, D < W3.heap.size := fun D hD => (Array.getElem?_eq_some_iff.1 (hD3 D hD).2).1
          have hs1 : w2.heap.size < W3.heap.size := World.block_lt_of_cell? W3 _ x1
          gi_wp2
          refine ⟨trivial, rfl, callsIn_wide.2 ((con_eq (hide (cst_len b)) (by omega) (hide row1) (hide ((cst_has b i).trans hcn))).mono ?_)⟩
          rintro e Wq ⟨rfl, hw⟩
          obtain rfl : W1 = Wq := hw.symm
          gi_wp2_with (gi_at_builtin; refine in_append_run _ rfl _ _ _ _ rfl _ _ rfl rfl _ _ (hr _) ?_)
          refine ⟨trivial, rfl, callsIn_wide.2 ((of_make _ n w2 rfl).mono ?_)⟩
          rintro e W4 ⟨rfl, hw4⟩
          obtain rfl : W3 = W4 := hW3.symm.trans hw4.symm
          clear hW3 hw4
          gi_wp2
          refine range_all (gf := 51) (lb := #[.pointer (some ⟨w2.heap.size, 0, none⟩), .pointer (some ⟨w2.heap.size + 1, 0, none⟩)]) rfl (enters_of Try.func51 (by kernel_rfl) rfl) (T := TO n B) (B := B) (S := Rt.ords n f (b ++ [i])) (by omega)
            (of_seq n7 f (g := g2) (cg := cg2) (hb.add hlt hib) (by simp) (by have := hb2.size; omega) (by have := hb2.size; omega) (by rw [List.length_append]; exact x1) x2 own3) rfl (fun x v A C ht hst => ⟨own_st ht.1 hst, ht.2⟩)
            (fun pre W' => J (Rt.ordsTo n f b i ++ pre) W' ∧ W'.cell? ⟨Bs, 0, none⟩ = some (.slice (some ⟨g, 0, none⟩) b.length cg) ∧ W'.cell? ⟨Bm, 0, none⟩ = some (.int .i64 (n : Int)) ∧ W'.cell? ⟨W.heap.size, 0, none⟩ = some (.func (.yield l) #[] #[]) ∧ W'.ownsRow B 3 1 (.slice (some ⟨g, 0, none⟩) b.length cg) b.length (ints (cst b)) ∧ (∀ D ∈ Ds, W.heap.size ≤ D ∧ W'.heap[D]? = some (.deferred (some []))) ∧ W3.heap.size ≤ W'.heap.size)
            ?stab ⟨by rw [List.append_nil]; exact hJ _ _ _ hj1 (St.of_below hB13 hH), y1, y2, y3, own_below own1 hB13, hD3, Nat.le_refl _⟩ ?round ?done
          case stab =>
            rintro s A C ⟨j1, j2, j3, j4, j5, j6, j7⟩ hst
            exact ⟨hJ _ _ _ j1 (hst.mono (by omega)), (hst.b.cell (p := ⟨Bs, 0, none⟩) (by show Bs < _; omega)).trans j2, (hst.b.cell (p := ⟨Bm, 0, none⟩) (by show Bm < _; omega)).trans j3, (hst.b.cell (p := ⟨W.heap.size, 0, none⟩) (by show W.heap.size < _; omega)).trans j4, own_st j5 hst, fun D hD => ⟨(j6 D hD).1, (hst.b.block D (hDl D hD)).trans (j6 D hD).2⟩, Nat.le_trans j7 hst.b.size⟩
          case round =>
            intro l2 pre x v Wr
            gi_wp2
            refine ⟨trivial, ?_⟩
            rintro W5 ⟨j1, j2, j3, j4, j5, j6, j7⟩ ht
            obtain ⟨fn, tmps, assign, body, hy, hR⟩ := hY _ x v W5 j1 ht
            gi_wp2
            refine ⟨rfl, (show RoundIn (Fence.wide.inRound l2) 0 Try.prog l fn tmps assign body W5 _ from hR).mono ?_⟩
            rintro e W6 ⟨rfl, hj6, hk6⟩
            gi_wp2
            exact ⟨hk6, by rw [← List.append_assoc]; exact hj6, kb_cell hk6 hBs j2, kb_cell hk6 hBm j3, kb_cell hk6 hBY j4, own_kb j5 hk6 (Nat.le_refl _), fun D hD => ⟨(j6 D hD).1, hk6.same D _ (by have := (j6 D hD).1; omega) (j6 D hD).2⟩, Nat.le_trans j7 hk6.size⟩
          case done =>
            rintro D W5 hD ⟨j1, j2, j3, j4, j5, j6, j7⟩ hDd
            gi_wp2
            refine ⟨⟨i + 1, _, D :: Ds, _, _, _, _, _, _, _, _, _, _, _, _, _, _, _, _, _, _, _, _, _, _, _, _, _, _, _, _, _, _, _, _, _, rfl, by omega, by omega, List.nodup_cons.2 ⟨fun hm => by have := hDl D hm; omega, hnd⟩, fun D' hD' => ?_, j2, j3, j4, j5, by rw [HS]; exact j1, by omega⟩, ?_⟩
            · rcases List.mem_cons.1 hD' with rfl | h
              · exact ⟨by omega, hDd⟩
              · exact j6 D' h
            · simp [OfM, intOf]; omega
        · rw [hcn] at HS
          gi_wp2
          refine ⟨trivial, rfl, callsIn_wide.2 ((con_eq (hide (cst_len b)) (by omega) (hide row1) (hide ((cst_has b i).trans hcn))).mono ?_)⟩
          rintro e Wq ⟨rfl, hw⟩
          obtain rfl : W1 = Wq := hw.symm
          gi_wp2
          refine ⟨⟨i + 1, _, Ds, _, _, _, _, _, _, _, _, _, _, _, _, _, _, _, _, _, _, _, _, _, _, _, _, _, _, _, _, _, _, _, _, _, rfl, by omega, by omega, hnd, hds, c1, c2, c3, own1, by rw [HS]; exact hj1, hH⟩, ?_⟩
          simp [OfM, intOf]; omega
      · have hie : i = n := by omega
        subst hie
        gi_wp2
        exact leaves_marks (B := W.heap.size) Ds W1 hnd hds fun W' hst => ⟨_, results_none rfl _ _ _, ⟨_, rfl⟩, hJ _ _ _ hj1 hst⟩
end Go.Proofs.Ytnfcedccjfnceaa
namespace Go.Proofs.Ytnfcedccjfnceaa
open Go.RowKit

theorem bt_no {L : List (Int × Int)} (h : Rt.stopsB L = false) : Rt.btL L = [] ∧ Rt.btI L = 0 := by
  unfold Rt.btI Rt.btL; rw [h]; exact ⟨rfl, rfl⟩
theorem bt_is {L : List (Int × Int)} {n : Nat} (hl : L.length = n) (h : Rt.stopsB L = true) : Rt.btL L = cst (Rt.bo L n (n - 1) [0]) ∧ Rt.btI L = Rt.tour L (cst (Rt.bo L n (n - 1) [0])) ∧ Rt.Bg n 0 (Rt.bo L n (n - 1) [0]) := by
  have h1 := (Rt.stops_len h).1
  have e1 : Rt.btL L = cst (Rt.bo L n (n - 1) [0]) := by unfold Rt.btL Rt.btN; rw [if_pos h, hl]; rfl
  refine ⟨e1, ?_, (Rt.bo_all L n (n - 1) (Rt.bg_zero (by omega))).2⟩
  unfold Rt.btI
  rw [if_pos h, e1]
theorem bt_le (L : List (Int × Int)) : (Rt.btL L).length ≤ 1048576 := by
  cases h : Rt.stopsB L
  · rw [(bt_no h).1]; simp
  · obtain ⟨e1, _, hb⟩ := bt_is rfl h
    have := hb.len
    have := (Rt.stops_len h).2
    rw [e1, cst_len]; omega
/-- What BestTour answers. -/
def BT (w w' : World) (L : List (Int × Int)) (e : Ending) : Prop := ∃ v, e = .returned (.tuple #[v, .int .i64 (Rt.btI L), .bool (Rt.stopsB L)]) ∧ Below w.heap.size w w' ∧ AV w' w.heap.size w'.heap.size v (Rt.btL L).length (Rt.btL L)
theorem one_zero (w : World) : ARow (w.alloc (.cells #[.int .i64 0] 3)) (some ⟨w.heap.size, 0, none⟩) (cst [0]) := by
  refine Or.inr ⟨w.heap.size, 0, rfl, by simp, fun i hi => ?_⟩
  have : i = 0 := by simp [cst] at hi; omega
  subst this
  simp [cst]
set_option maxRecDepth 100000 in
set_option maxHeartbeats 2000000 in
theorem sbt_w {a : Option Addr} {n c : Nat} {L : List (Int × Int)} {w : World} (hl : L.length = n) (hn : n ≤ 1048576) (ha : FRow w a L) :
    Calls Try.prog 11 #[.slice a n c] w fun e w' => BT w w' L e := by
  have HL := hide hl
  have HA := hide ha
  cases hg : Rt.stopsB L
  · obtain ⟨e1, e2⟩ := bt_no hg
    have HE : Hid (∀ w' e, Below w.heap.size w w' → e = .returned (.tuple #[.slice none 0 0, .int .i64 0, .bool false]) → BT w w' L e) := hide fun w' e hb he => ⟨.slice none 0 0, by rw [he, e2, hg], hb, by rw [e1]; exact av_none _ _⟩
    have HG := hide hg
    clear hg e1 e2 ha hl
    go_enter Try.func11, Try.ntmps11
    go_wp2_with fail
    refine (sgst_eq HL hn HA HG).mono ?_
    rintro e w1 ⟨rfl, hb1⟩
    go_wp2_with fail
    exact bodyPost_ret (v := .tuple #[.slice none 0 0, .int .i64 0, .bool false]) (by simp [results, Try.results11, go_sem]) rfl (HE.out _ _ hb1 rfl)
  · obtain ⟨s1, s2⟩ := Rt.stops_len hg
    have n7 : n ≤ 7 := by omega
    have n1 : 1 ≤ n := by omega
    obtain ⟨e1, e2, e3⟩ := bt_is hl hg
    have HG := hide hg
    have HS := hide (Rt.stops_all hg)
    have HFR := hide fun (W : World) (h : Below w.heap.size w W) => ha.below h
    have HBO := hide fun (W : World) (h : Below w.heap.size w W) => sbo_any (a := a) (a' := some ⟨W.heap.size, 0, none⟩) (c := c) (d := 1) (m := 1) (b := [0]) (w := W.alloc (.cells #[.int .i64 0] 3)) HL n1 n7 HS (n - 1) (hide (Rt.bg_zero n1)) (hide rfl) (by omega) (hide ((ha.below h).below (below_alloc W _))) (hide (one_zero W))
    have HE : Hid (∀ w' (lo : Nat) (v : Value) e, w.heap.size ≤ lo → Below w.heap.size w w' → w'.ownsRow lo 3 1 v n (ints (cst (Rt.bo L n (n - 1) [0]))) → e = .returned (.tuple #[v, .int .i64 (Rt.tour L (cst (Rt.bo L n (n - 1) [0]))), .bool true]) → BT w w' L e) := hide fun w' lo v e hlo hb ho he => by
      refine ⟨v, by rw [he, e2, hg], hb, ?_⟩
      have := e3.len
      rw [e1, cst_len, show (Rt.bo L n (n - 1) [0]).length = n by omega]
      exact AV.new (owns_low ho hlo)
    have HIN := hide (Rt.bg_in hl e3)
    have HK : Hid ((cst (Rt.bo L n (n - 1) [0])).length = n) := hide (by rw [cst_len]; have := e3.len; omega)
    generalize Rt.bo L n (n - 1) [0] = K at *
    clear ha hl hg s1 s2 e1 e2 e3
    go_enter Try.func11, Try.ntmps11
    go_wp2_with fail
    refine (sgst_eq HL hn HA HG).mono ?_
    rintro e w1 ⟨rfl, hb1⟩
    have HB1 := hide (HBO.out _ hb1)
    have B1 := hide hb1
    clear hb1 HBO
    go_wp2_with fail
    refine HB1.out.mono ?_
    rintro e w2 ⟨v2, rfl, own2, hb2⟩
    obtain ⟨a2, c2, rfl, r2⟩ := own_row HK.out own2
    have hA := below_alloc w1 (.cells #[.int .i64 0] 3)
    have hB2 : Below w.heap.size w w2 := (B1.out.trans (hA.mono B1.out.size)).trans (hb2.mono (by have := B1.out.size; have := hA.size; omega))
    have B2 := hide hB2
    have HO2 : Hid (w2.ownsRow w.heap.size 3 1 (.slice a2 n c2) n (ints (cst K))) := hide (owns_low own2 (by have := B1.out.size; have := hA.size; omega))
    have HRC := hide (src_any (w := w2) (c := c) (d := c2) (os := cst K) HL HK n1 n7 HS HIN (hide (HFR.out _ hB2)) (hide r2))
    clear own2 hb2 r2 hA hB2 HB1 B1
    go_wp2_with fail
    refine HRC.out.mono ?_
    rintro e w3 ⟨rfl, hb3⟩
    have B3 := hide (bw_below B2.out hb3)
    have HO3 := hide (own_below HO2.out hb3)
    clear hb3 HO2 B2 HRC
    go_wp2_with fail
    exact bodyPost_ret (v := .tuple #[.slice a2 n c2, .int .i64 (Rt.tour L (cst K)), .bool true]) (by simp [results, Try.results11, go_sem]) rfl (HE.out _ _ _ _ (Nat.le_refl _) B3.out HO3.out rfl)
end Go.Proofs.Ytnfcedccjfnceaa
