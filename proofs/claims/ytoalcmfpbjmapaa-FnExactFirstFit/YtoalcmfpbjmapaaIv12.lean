/-
  An item that is in no box is put into one: slices.Contains and add of the program.
-/
import Derived.Test.YtoalcmfpbjmapaaIu12
import Derived.Test.YtoalcmfpbjmapaaIj12
namespace Go.Proofs.Ytoalcmfpbjmapaa
open Go.RowKit

theorem neq_at {b : List (Int × Int)} {x : Int × Int} (h : ¬ x ∈ b) {k : Nat} (hk : k < b.length) : ¬ (x.1 = (b.getD k (0, 0)).1 ∧ x.2 = (b.getD k (0, 0)).2) := fun e => h (by
  have : b.getD k (0, 0) ∈ b := by simp [hk]
  have e2 : x = b.getD k (0, 0) := Prod.ext e.1 e.2
  rw [e2]; exact this)
set_option maxHeartbeats 2000000 in
theorem ixT_no {a : Option Addr} {n c : Nat} {b : List (Int × Int)} {x y : Int} {w : World} (hb : b.length = n) (hn : n ≤ 900) (hx : ¬ (x, y) ∈ b) (ha : FRow w a b) :
    Calls Try.prog 67 #[.slice a n c, .agg #[.int .i64 x, .int .i64 y]] w fun e w' => e = .returned (.int .i64 (-1)) ∧ Below w.heap.size w w' := by
  have HB := hide hb
  have HA := hide ha
  have HX := hide hx
  have BA := hide (below_alloc w (.cells #[.int .i64 x, .int .i64 y] 51))
  clear hb ha hx
  go_enter Try.func67, Try.ntmps67
  go_wp2_with fail
  go_loopw [4, 5, 8] (fun s4 _ s8 wr => ∃ (k : Nat), s4 = .int .i64 0 ∧ s8 = .int .i64 k ∧ k ≤ n ∧ Hid (Below w.heap.size w wr) ∧ wr.cell? ⟨w.heap.size, 0, none⟩ = some (.int .i64 x) ∧ wr.cell? ⟨w.heap.size, 1, none⟩ = some (.int .i64 y)) (fun _ _ s8 _ => n - (intOf s8).toNat)
  case atStart => exact ⟨0, rfl, rfl, Nat.zero_le _, BA, by simp, by simp⟩
  case round =>
    obtain ⟨k, rfl, rfl, hk, HW, c0, c1⟩ := hrel
    by_cases hlt : k < n
    · obtain ⟨q, o, rfl, hq, r1, r2⟩ := HA.out.at (i := k) (by rw [HB.out]; exact hlt)
      have k1 := (HW.out.cell (p := ⟨q, o + k * 2, none⟩) hq).trans r1
      have k2 := (HW.out.cell (p := ⟨q, o + k * 2 + 1, none⟩) hq).trans r2
      have i0 : (0 : Int) ≤ (k : Int) := by omega
      have i1 : (k : Int) < (n : Int) := by omega
      have hne := neq_at HX.out (show k < b.length by rw [HB.out]; exact hlt)
      simp only at hne
      generalize (b.getD k (0, 0)).1 = x1 at *
      generalize (b.getD k (0, 0)).2 = x2 at *
      clear r1 r2
      by_cases e1 : x = x1
      · have e2 : ¬ y = x2 := fun e => hne ⟨e1, e⟩
        subst e1
        clear hne
        go_upto_region 4 with fail
        go_quiet (fail)
        have HW2 := hide (below_drewN HW.out nq)
        go_wp2_with fail
        go_roundw
        case rel => exact ⟨k + 1, rfl, by go_num, by omega, HW2, c0, c1⟩
        case measure => simp only [intOf]; omega
      · clear hne
        go_upto_region 4 with fail
        go_quiet (fail)
        have HW2 := hide (below_drewN HW.out nq)
        go_wp2_with fail
        go_roundw
        case rel => exact ⟨k + 1, rfl, by go_num, by omega, HW2, c0, c1⟩
        case measure => simp only [intOf]; omega
    · have hke : k = n := by omega
      subst hke
      go_wp2_with fail
      go_ret
      exact ⟨rfl, HW.out⟩
set_option maxHeartbeats 1000000 in
theorem coT_no {a : Option Addr} {n c : Nat} {b : List (Int × Int)} {x y : Int} {w : World} (hb : b.length = n) (hn : n ≤ 900) (hx : ¬ (x, y) ∈ b) (ha : FRow w a b) :
    Calls Try.prog 61 #[.slice a n c, .agg #[.int .i64 x, .int .i64 y]] w fun e w' => e = .returned (.bool false) ∧ Below w.heap.size w w' := by
  have BA := hide (below_alloc w (.cells #[.int .i64 x, .int .i64 y] 51))
  have HI := hide (ixT_no (w := w.alloc (.cells #[.int .i64 x, .int .i64 y] 51)) (c := c) hb hn hx (ha.below BA.out))
  clear hb hx ha
  go_enter Try.func61, Try.ntmps61
  go_wp2_with fail
  refine HI.out.mono ?_
  rintro e w1 ⟨rfl, hb1⟩
  go_wp2_with fail
  go_ret
  exact ⟨rfl, BA.out.trans (hb1.mono BA.out.size)⟩
set_option maxRecDepth 100000 in
set_option maxHeartbeats 4000000 in
theorem addT_any {base T G cap N i : Nat} {us : List Value} {B : List (List (Int × Int))} {x y : Int} {w : World} (h : LL w base T 51 2 ite (.slice (some ⟨G, 0, none⟩) N cap) us B) (hN : B.length = N) (hi : i < N) (h9 : (B.getD i []).length ≤ 900) (hx : ¬ (x, y) ∈ B.getD i []) (hbase : base ≤ w.heap.size) :
    Calls Try.prog 51 #[.pointer (some ⟨G, i, none⟩), .agg #[.int .i64 x, .int .i64 y]] w fun e w' => e = .returned (.bool true) ∧ ∃ us', LL w' base T 51 2 ite (.slice (some ⟨G, 0, none⟩) N cap) us' (B.set i (B.getD i [] ++ [(x, y)])) ∧ Below base w w' := by
  subst hN
  have hG : G < w.heap.size := (h.1.lt G rfl).2
  have hGb : base ≤ G := (h.1.lt G rfl).1
  have hc := h.cell hi
  obtain ⟨ar, cr, er, hr⟩ := own_items rfl (h.2.1 i hi)
  obtain ⟨P, hP⟩ : ∃ P, w.heap.size = P := ⟨_, rfl⟩
  have BA := below_alloc w (.cells #[.int .i64 x, .int .i64 y] 51)
  obtain ⟨w0, hw0⟩ : ∃ W, w.alloc (.cells #[.int .i64 x, .int .i64 y] 51) = W := ⟨_, rfl⟩
  have p0 : w0.cell? ⟨P, 0, none⟩ = some (.int .i64 x) := by rw [← hw0, ← hP]; simp
  have p1 : w0.cell? ⟨P, 1, none⟩ = some (.int .i64 y) := by rw [← hw0, ← hP]; simp
  rw [hw0] at BA
  have hPl : P < w0.heap.size := World.block_lt_of_cell? w0 _ p0
  have D0 : Below w0.heap.size w0 w0.drew := (Below.refl _ _).drew
  have L0 := (h.below BA).below D0
  have HCO := hide (coT_no (w := w0.drew) (c := cr) rfl h9 hx ((hr.below BA).below D0))
  have q0 : w0.cell? ⟨G, i, none⟩ = some (us.getD i nilS) := (BA.cell (p := ⟨G, i, none⟩) hG).trans hc
  rw [er] at q0
  -- behind the test, whatever world
  have HF : Hid (∀ w1, Below w0.heap.size w0.drew w1 → ∃ g cap2 w2, (∀ ty, (Builtin.append_ #[53, 53] ty #[.slice ar (B.getD i []).length cr, .slice (some ⟨w1.drew.heap.size, 0, none⟩) 1 1]).run Try.prog (w1.drew.alloc (.cells #[.int .i64 x, .int .i64 y] 51)) = .ok (.slice (some ⟨g, 0, none⟩) ((B.getD i []).length + 1) cap2) w2) ∧
      w2.cell? ⟨G, i, none⟩ = some (.slice ar (B.getD i []).length cr) ∧ w2.frozen? ⟨G, i, none⟩ = false ∧ ∃ us', LL (w2.setCell ⟨G, i, none⟩ (.slice (some ⟨g, 0, none⟩) ((B.getD i []).length + 1) cap2)) base T 51 2 ite (.slice (some ⟨G, 0, none⟩) B.length cap) us' (B.set i (B.getD i [] ++ [(x, y)])) ∧ Below base w (w2.setCell ⟨G, i, none⟩ (.slice (some ⟨g, 0, none⟩) ((B.getD i []).length + 1) cap2))) := hide fun w1 hb1 => by
    have L1 := L0.below hb1
    have L2 := L1.below (W' := w1.drew) ((Below.refl _ _).drew)
    have z0 : w.heap.size ≤ w1.heap.size := Nat.le_trans BA.size hb1.size
    have hrow := L2.2.1 i hi
    rw [er] at hrow
    obtain ⟨g, cap2, w2, r, o2, gr, fg⟩ := push_it (x := x) (y := y) Try.underlying53 hrow (by omega) (show base ≤ w1.drew.heap.size from Nat.le_trans hbase z0)
    have hG1 : G < w1.drew.heap.size := by show G < w1.heap.size; omega
    have hne : some G ≠ (Value.slice ar (B.getD i []).length cr).ownBlock := fun e => h.2.2.1 i G hi (by rw [er]; exact e.symm) rfl
    have kG : w2.heap[G]? = w1.drew.heap[G]? := gr.block G hG1 hne
    have c2 : w2.cell? ⟨G, i, none⟩ = some (.slice ar (B.getD i []).length cr) := by
      rw [World.cell?_of_block (w := w1.drew) (a := ⟨G, i, none⟩) kG, L2.cell hi, er]
    have f2 : w2.frozen? ⟨G, i, none⟩ = false := (World.frozen?_of_block (w := w1.drew) (a := ⟨G, i, none⟩) kG).trans (L2.1.frozenAt i)
    refine ⟨g, cap2, w2, r, c2, f2, _, L2.put (W' := w2) hi (fun b hb hne' => gr.block b hb (by rw [er] at hne'; exact hne')) gr.size (by rw [List.length_append, ite_snoc]; exact o2) (fun g' e => ?_), ?_⟩
    · have : g = g' := by simpa [Value.ownBlock] using e
      subst this
      rw [er]; exact fg
    · have b1 : Below base w w1.drew := ((BA.mono hbase).trans ((D0.trans hb1).mono (Nat.le_trans hbase BA.size))).trans ((Below.refl _ _).drew)
      exact (b1.trans (grown_under2 gr hrow (Nat.le_refl _) (show base ≤ w1.heap.size by omega))).setCell (p := ⟨G, i, none⟩) hGb _
  have HQ := hide fun (w1 : World) (hb1 : Below w0.heap.size w0.drew w1) => (⟨(hb1.cell (p := ⟨G, i, none⟩) (show G < w0.heap.size from Nat.lt_of_lt_of_le hG BA.size)).trans q0, (hb1.cell (p := ⟨P, 0, none⟩) hPl).trans p0, (hb1.cell (p := ⟨P, 1, none⟩) hPl).trans p1⟩ : w1.cell? ⟨G, i, none⟩ = _ ∧ w1.cell? ⟨P, 0, none⟩ = _ ∧ w1.cell? ⟨P, 1, none⟩ = _)
  have HW0 := hide hw0
  have HP := hide hP
  generalize (B.getD i []).length = len at *
  clear hr L0 D0 BA h hc er hx hw0 hP
  go_enter Try.func51, Try.ntmps51
  go_upto_region 1 with fail
  rw [HW0.out, HP.out]
  go_region_with (first
    | (go_at_call 61; refine HCO.out.mono ?_; rintro e w1 ⟨rfl, hb1⟩))
  all_goals
    obtain ⟨g, cap2, w2, hr, c2, f2, us', HL2, hB2⟩ := HF.out w1 hb1
    obtain ⟨k0, k1, k2⟩ := HQ.out w1 hb1
    have k3 : (w1.alloc (.cells #[.int .i64 x, .int .i64 y] 51)).cell? ⟨G, i, none⟩ = some (.slice ar len cr) := ((below_alloc w1 _).cell (p := ⟨G, i, none⟩) (by have := World.block_lt_of_cell? w1 _ k0; exact this)).trans k0
    have HLL := hide HL2
    have HBB := hide hB2
    clear HL2 hB2
    go_upto_region 3 with fail
    go_region_law ((refine step_append_run9 (by rfl) (.tmp 13) (.tmp 15) 53 53 (by rfl) (.slice ar len cr) (.slice (some ⟨w1.drew.heap.size, 0, none⟩) 1 1) (by simp [go_sem]) (by simp [go_sem]) (.slice (some ⟨g, 0, none⟩) (len + 1) cap2) w2 (hr _) ?_))
    all_goals
      go_wp2_with fail
      go_ret
      exact ⟨rfl, us', HLL.out, HBB.out⟩
end Go.Proofs.Ytoalcmfpbjmapaa
