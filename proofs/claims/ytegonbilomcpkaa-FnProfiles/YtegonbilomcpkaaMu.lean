/-
  What AddProfiles of the model answers.
-/
import Derived.Test.YtegonbilomcpkaaMt
import Derived.Test.YtegonbilomcpkaaPk
import Derived.Deep.AppendLies
import Derived.Deep.RegionLaw
import Derived.Deep.DeepCutAuto
namespace Go.Proofs.Ytegonbilomcpkaa
open Go.RowKit Go.Maps Go.Sort

/-- Two lists that grow, the two of a profile in block V. -/
structure Two (W0 wr : World) (V k1 k2 : Nat) (L1 L2 : List Int) (v1 v2 : Value) : Prop where
  c1 : wr.cell? ⟨V, 0, none⟩ = some v1
  c2 : wr.cell? ⟨V, 1, none⟩ = some v2
  fz : ∀ i, wr.frozen? ⟨V, i, none⟩ = false
  o1 : wr.ownsRow (V + 1) 3 1 v1 k1 (ints L1)
  o2 : wr.ownsRow (V + 1) 3 1 v2 k2 (ints L2)
  ne : ∀ g, v1.ownBlock = some g → v2.ownBlock ≠ some g
  below : Below V W0 wr
  size : V + 1 ≤ wr.heap.size
theorem Two.first {W0 wr w1 : World} {V k1 k2 gg cap : Nat} {L1 L2 : List Int} {v1 v2 : Value} {x : Int} {o : Obj} (h : Two W0 wr V k1 k2 L1 L2 v1 v2) (hown : w1.ownsRow (V + 1) 3 1 (.slice (some ⟨gg, 0, none⟩) (k1 + 1) cap) (k1 + 1) (ints L1 ++ ints [x]))
    (hg : (wr.alloc o).drew.grownBy w1 v1.ownBlock) (hat : v1.ownBlock = some gg ∨ gg = wr.heap.size + 1) :
    Two W0 (w1.setCell ⟨V, 0, none⟩ (.slice (some ⟨gg, 0, none⟩) (k1 + 1) cap)) V (k1 + 1) k2 (L1 ++ [x]) L2 (.slice (some ⟨gg, 0, none⟩) (k1 + 1) cap) v2 := by
  obtain ⟨c1, c2, fz, o1, o2, ne, hB, hz⟩ := h
  have sz : wr.heap.size + 1 ≤ w1.heap.size := by simpa using hg.size
  have blk : ∀ B, B < wr.heap.size → some B ≠ v1.ownBlock → w1.heap[B]? = wr.heap[B]? := fun B hB' hne => (hg.block B (by show B < (wr.alloc o).heap.size; simp; omega) hne).trans (((Below.refl _ _).alloc (Nat.le_refl _) o).block B hB')
  have nV : some V ≠ v1.ownBlock := fun he => by have := o1.lt V he.symm; omega
  have hcV : ∀ i, w1.cell? ⟨V, i, none⟩ = wr.cell? ⟨V, i, none⟩ := fun i => World.cell?_of_block (w := wr) (a := ⟨V, i, none⟩) (blk V (by omega) nV)
  have hfV : ∀ i, w1.frozen? ⟨V, i, none⟩ = wr.frozen? ⟨V, i, none⟩ := fun i => World.frozen?_of_block (w := wr) (a := ⟨V, i, none⟩) (blk V (by omega) nV)
  refine ⟨World.cell?_setCell_same _ _ _ ((hcV 0).trans c1), (World.cell?_setCell_other _ _ _ _ (by simp)).trans ((hcV 1).trans c2), fun i => (World.frozen?_setCell ..).trans ((hfV i).trans (fz i)), ?_, ?_, ?_, ?_, ?_⟩
  · rw [ints_snoc]
    exact ownsRow_setCell_below hown (by show V < V + 1; omega) _
  · refine ownsRow_setCell_below (own_keep' o2 (fun g hg' hl => blk g hl (fun he => ne g he.symm hg'))) (by show V < V + 1; omega) _
  · intro g hg' hg2
    cases hg'
    rcases hat with e | e
    · exact ne gg e hg2
    · have := o2.lt gg hg2; omega
  · refine (hB.trans ⟨hg.os, hg.tape, hg.output, Nat.le_trans (by simp) hg.size, fun B hB' => blk B (by omega) (fun he => by have := o1.lt B he.symm; omega)⟩).setCell (by show V ≤ V; omega) _
  · simp; omega
theorem Two.second {W0 wr w1 : World} {V k1 k2 gg cap : Nat} {L1 L2 : List Int} {v1 v2 : Value} {x : Int} {o : Obj} (h : Two W0 wr V k1 k2 L1 L2 v1 v2) (hown : w1.ownsRow (V + 1) 3 1 (.slice (some ⟨gg, 0, none⟩) (k2 + 1) cap) (k2 + 1) (ints L2 ++ ints [x]))
    (hg : (wr.alloc o).drew.grownBy w1 v2.ownBlock) (hat : v2.ownBlock = some gg ∨ gg = wr.heap.size + 1) :
    Two W0 (w1.setCell ⟨V, 1, none⟩ (.slice (some ⟨gg, 0, none⟩) (k2 + 1) cap)) V k1 (k2 + 1) L1 (L2 ++ [x]) v1 (.slice (some ⟨gg, 0, none⟩) (k2 + 1) cap) := by
  obtain ⟨c1, c2, fz, o1, o2, ne, hB, hz⟩ := h
  have sz : wr.heap.size + 1 ≤ w1.heap.size := by simpa using hg.size
  have blk : ∀ B, B < wr.heap.size → some B ≠ v2.ownBlock → w1.heap[B]? = wr.heap[B]? := fun B hB' hne => (hg.block B (by show B < (wr.alloc o).heap.size; simp; omega) hne).trans (((Below.refl _ _).alloc (Nat.le_refl _) o).block B hB')
  have nV : some V ≠ v2.ownBlock := fun he => by have := o2.lt V he.symm; omega
  have hcV : ∀ i, w1.cell? ⟨V, i, none⟩ = wr.cell? ⟨V, i, none⟩ := fun i => World.cell?_of_block (w := wr) (a := ⟨V, i, none⟩) (blk V (by omega) nV)
  have hfV : ∀ i, w1.frozen? ⟨V, i, none⟩ = wr.frozen? ⟨V, i, none⟩ := fun i => World.frozen?_of_block (w := wr) (a := ⟨V, i, none⟩) (blk V (by omega) nV)
  refine ⟨(World.cell?_setCell_other _ _ _ _ (by simp)).trans ((hcV 0).trans c1), World.cell?_setCell_same _ _ _ ((hcV 1).trans c2), fun i => (World.frozen?_setCell ..).trans ((hfV i).trans (fz i)), ?_, ?_, ?_, ?_, ?_⟩
  · refine ownsRow_setCell_below (own_keep' o1 (fun g hg' hl => blk g hl (fun he => ne g hg' he.symm))) (by show V < V + 1; omega) _
  · rw [ints_snoc]
    exact ownsRow_setCell_below hown (by show V < V + 1; omega) _
  · intro g hg' hg2
    cases hg2
    rcases hat with e | e
    · exact ne gg hg' e
    · have := o1.lt gg hg'; omega
  · refine (hB.trans ⟨hg.os, hg.tape, hg.output, Nat.le_trans (by simp) hg.size, fun B hB' => blk B (by omega) (fun he => by have := o2.lt B he.symm; omega)⟩).setCell (by show V ≤ V; omega) _
  · simp; omega
theorem fz_far {wr w1 : World} {o : Obj} {V k i : Nat} {v : Value} {xs : List Value} (h : wr.ownsRow (V + 1) 3 1 v k xs) (hg : (wr.alloc o).drew.grownBy w1 v.ownBlock) (_ : V ≤ V) (hz : V + 1 ≤ wr.heap.size) (hf : wr.frozen? ⟨V, i, none⟩ = false) : w1.frozen? ⟨V, i, none⟩ = false :=
  (hg.frozen_far ⟨V, i, none⟩ (by show V < (wr.alloc o).heap.size; simp; omega) (fun he => by have := h.lt V he.symm; omega)).trans ((World.frozen?_of_block (w := wr) (a := ⟨V, i, none⟩) (((Below.refl _ _).alloc (Nat.le_refl _) o).block V (by omega))).trans hf)
theorem cl_far {wr w1 : World} {o : Obj} {V k i : Nat} {v u : Value} {xs : List Value} (h : wr.ownsRow (V + 1) 3 1 v k xs) (hg : (wr.alloc o).drew.grownBy w1 v.ownBlock) (hz : V + 1 ≤ wr.heap.size) (hf : wr.cell? ⟨V, i, none⟩ = some u) : w1.cell? ⟨V, i, none⟩ = some u :=
  (hg.cell_far ⟨V, i, none⟩ (by show V < (wr.alloc o).heap.size; simp; omega) (fun he => by have := h.lt V he.symm; omega)).trans ((World.cell?_of_block (w := wr) (a := ⟨V, i, none⟩) (((Below.refl _ _).alloc (Nat.le_refl _) o).block V (by omega))).trans hf)
theorem rowM {w : World} {base n cap : Nat} {a : Option Addr} {xs : List Int} (hx : xs.length = n) (h : w.ownsRow base 3 1 (.slice a n cap) n (ints xs)) : ARow w a xs := by
  rcases h.2 with ⟨hv, hn⟩ | ⟨g, cap', cur, hv, _⟩
  · left; rw [hn] at hx; exact List.length_eq_zero_iff.1 hx
  · cases hv; exact arow_owns hx.symm h
theorem own_two' {wr : World} {base n B : Nat} {v : Value} {xs : List Value} (h : wr.ownsRow base 3 1 v n xs) (hne : ∀ g, v.ownBlock = some g → g ≠ B) (v0 u : Value) : ((wr.setCell ⟨B, 0, none⟩ v0).setCell ⟨B, 1, none⟩ u).ownsRow base 3 1 v n xs :=
  own_keep' (own_keep' h (fun g hg _ => Below.heap_setCell _ _ _ g (hne g hg))) (fun g hg _ => Below.heap_setCell _ _ _ g (hne g hg))
theorem sumL_take {xs ys : List Int} {k : Nat} (h : k < xs.length) : (sumL xs ys).take (k + 1) = (sumL xs ys).take k ++ [xs.getD k 0 + ys.getD k 0] := by
  have hl : k < (sumL xs ys).length := by rw [sumL_len]; exact h
  rw [List.take_succ_eq_append_getElem hl]
  congr 1
  simp [sumL]

set_option maxHeartbeats 8000000 in
set_option maxRecDepth 100000 in
theorem sap_good {a b a' b' : Option Addr} {n c d c' d' : Nat} {pa fa pb fb : List Int} {w : World} (hn : pa.length = n) (hm : fa.length = n) (ha : ARow w a pa) (hb : ARow w b fa) (hg : Pf.goodP pa fa = true)
    (hn' : pb.length = n) (hm' : fb.length = n) (ha' : ARow w a' pb) (hb' : ARow w b' fb) (hg' : Pf.goodP pb fb = true) :
    Calls Try.prog 16 #[.agg #[.slice a n c, .slice b n d], .agg #[.slice a' n c', .slice b' n d']] w fun e w' => Below w.heap.size w w' ∧
      ((Pf.goodP (sumL pa pb) (sumL fa fb) = false ∧ e = .returned (.tuple #[.agg #[.slice none 0 0, .slice none 0 0], .bool false])) ∨
       (Pf.goodP (sumL pa pb) (sumL fa fb) = true ∧ ∃ v1 v2, e = .returned (.tuple #[.agg #[v1, v2], .bool true]) ∧ (∀ g, v1.ownBlock = some g → v2.ownBlock ≠ some g) ∧ w'.ownsRow w.heap.size 3 1 v1 n (ints (sumL pa pb)) ∧ w'.ownsRow w.heap.size 3 1 v2 n (ints (sumL fa fb)))) := by
  obtain ⟨i0, hi, hz0, hz1, hz2⟩ := info_parts inf3
  have h12 : n ≤ 12 := by have := (Pf.goodP_len hg).2; omega
  have HA := hide ha
  have HB := hide hb
  have HG := hide hg
  have HN := hide hn
  have HM := hide hm
  have HA' := hide ha'
  have HB' := hide hb'
  have HG' := hide hg'
  have HN' := hide hn'
  have HM' := hide hm'
  have hz : ((n : Int) != (n : Int)) = false := by simp
  clear ha hb hg hn hm ha' hb' hg' hn' hm'
  go_enter Try.func16, Try.ntmps16
  go_wp2_with (first
    | (go_at_call_of 17 (Value.agg #[Value.slice a n c, Value.slice b n d]); refine (sgp_n HN HM HA HB HG (below3 _ _ _ _)).mono ?_; rintro e w1 ⟨rfl, hb1⟩; obtain ⟨p0, p1, p2, p3, p4, p5, ⟨f0, f1⟩, hB1, z1⟩ := (PV2.new w _ _ _ _ _ _ _).below hb1)
    | (go_at_call 17; refine (sgp_n HN' HM' HA' HB' HG' hB1).mono ?_; rintro e w2 ⟨rfl, hb2⟩; obtain ⟨r0, r1, r2, r3, r4, r5, ⟨g0, g1⟩, hB2, z2⟩ := PV2.below ⟨p0, p1, p2, p3, p4, p5, ⟨f0, f1⟩, hB1, z1⟩ hb2; obtain ⟨q0, q1, q2, q3, _, _, _, hB3, z3⟩ := PV2.below (show PV2 w w2 _ _ _ _ from ⟨r0, r1, r2, r3, r4, r5, ⟨g0, g1⟩, hB2, z2⟩) ((Below.refl _ _).alloc (Nat.le_refl _) (.cells #[.slice none 0 0, .slice none 0 0] 29))))
  have HPV := hide (PV2.below (show PV2 w w2 _ _ _ _ from ⟨r0, r1, r2, r3, r4, r5, ⟨g0, g1⟩, hB2, z2⟩) ((Below.refl _ _).alloc (Nat.le_refl _) (.cells #[.slice none 0 0, .slice none 0 0] 29)))
  have sz0 : (w2.alloc (.cells #[.slice none 0 0, .slice none 0 0] 29)).heap.size = w2.heap.size + 1 := by simp
  obtain ⟨i1, i2, _⟩ := PBx w2 (.slice none 0 0) (.slice none 0 0) 29
  have i3 : ∀ i, (w2.alloc (.cells #[.slice none 0 0, .slice none 0 0] 29)).frozen? ⟨w2.heap.size, i, none⟩ = false := fun i => by simp [go_sem]
  have I3 := hide i3
  clear p0 p1 p2 p3 p4 p5 f0 f1 hb1 hB1 z1 hb2 g0 g1 r0 r1 r2 r3 r4 r5 hB2 i3
  generalize hV : w2.heap.size = V at *
  generalize w2.alloc (.cells #[.slice none 0 0, .slice none 0 0] 29) = W0 at *
  go_loopw [7, 29] (fun _ s wr => ∃ (k : Nat) (v1 v2 : Value), s = .int .i64 k ∧ k ≤ n ∧ Hid (Two W0 wr V k k ((sumL pa pb).take k) ((sumL fa fb).take k) v1 v2)) (fun _ s _ => n - (intOf s).toNat)
  case atStart => exact ⟨0, _, _, rfl, Nat.zero_le _, hide ⟨i1, i2, I3.out, World.ownsRow_nil _ _ _ _, World.ownsRow_nil _ _ _ _, (fun g h => by cases h), Below.refl _ _, by omega⟩⟩
  case round =>
    obtain ⟨k, v1, v2, rfl, hk, HT⟩ := hrel
    by_cases hlt : k < n
    · rcases HA.out with h0 | ⟨b1, o1, rfl, l1, e1⟩
      · have := HN.out; rw [h0] at this; simp at this; omega
      rcases HB.out with h0 | ⟨b2, o2, rfl, l2, e2⟩
      · have := HM.out; rw [h0] at this; simp at this; omega
      rcases HA'.out with h0 | ⟨b3, o3, rfl, l3, e3⟩
      · have := HN'.out; rw [h0] at this; simp at this; omega
      rcases HB'.out with h0 | ⟨b4, o4, rfl, l4, e4⟩
      · have := HM'.out; rw [h0] at this; simp at this; omega
      have d1 := Pf.goodAt_bd (Pf.goodP_at HG.out (i := k) (by rw [HN.out]; exact hlt))
      have d2 := Pf.goodAt_bd (Pf.goodP_at HG'.out (i := k) (by rw [HN'.out]; exact hlt))
      have HS1 := hide (sumL_take (xs := pa) (ys := pb) (k := k) (by rw [HN.out]; exact hlt))
      have HS2 := hide (sumL_take (xs := fa) (ys := fb) (k := k) (by rw [HM.out]; exact hlt))
      have y1 := e1 k (by rw [HN.out]; exact hlt)
      have y2 := e2 k (by rw [HM.out]; exact hlt)
      have y3 := e3 k (by rw [HN'.out]; exact hlt)
      have y4 := e4 k (by rw [HM'.out]; exact hlt)
      generalize pa.getD k 0 = A1 at *
      generalize fa.getD k 0 = A2 at *
      generalize pb.getD k 0 = A3 at *
      generalize fb.getD k 0 = A4 at *
      obtain ⟨a10, a11, a20, a21, _⟩ := d1
      obtain ⟨a30, a31, a40, a41, _⟩ := d2
      have k0 : (0 : Int) ≤ (k : Int) := by omega
      have k1 : (k : Int) < (n : Int) := by omega
      have wr1 : IntKind.i64.wrap (A1 + A3) = A1 + A3 := by rw [IntKind.wrap_i64]; omega
      have wr2 : IntKind.i64.wrap (A2 + A4) = A2 + A4 := by rw [IntKind.wrap_i64]; omega
      have READ : Hid (∀ W : World, Below V W0 W → (W.cell? ⟨w.heap.size, 0, none⟩ = some (.slice (some ⟨b1, o1, none⟩) n c) ∧ W.cell? ⟨w.heap.size, 1, none⟩ = some (.slice (some ⟨b2, o2, none⟩) n d) ∧ W.cell? ⟨w.heap.size + 1, 0, none⟩ = some (.slice (some ⟨b3, o3, none⟩) n c') ∧ W.cell? ⟨w.heap.size + 1, 1, none⟩ = some (.slice (some ⟨b4, o4, none⟩) n d')) ∧ W.cell? ⟨b1, o1 + k, none⟩ = some (.int .i64 A1) ∧ W.cell? ⟨b2, o2 + k, none⟩ = some (.int .i64 A2) ∧ W.cell? ⟨b3, o3 + k, none⟩ = some (.int .i64 A3) ∧ W.cell? ⟨b4, o4 + k, none⟩ = some (.int .i64 A4)) := hide fun W hW => by
        have far : ∀ B o, B < V → W.cell? ⟨B, o, none⟩ = W0.cell? ⟨B, o, none⟩ := fun B o h => hW.cell (p := ⟨B, o, none⟩) h
        have old : ∀ B o, B < w.heap.size → W.cell? ⟨B, o, none⟩ = w.cell? ⟨B, o, none⟩ := fun B o h => (far B o (by omega)).trans (hB3.cell (p := ⟨B, o, none⟩) h)
        exact ⟨⟨(far _ 0 (by omega)).trans q0, (far _ 1 (by omega)).trans q1, (far _ 0 (by omega)).trans q2, (far _ 1 (by omega)).trans q3⟩, (old b1 _ l1).trans y1, (old b2 _ l2).trans y2, (old b3 _ l3).trans y3, (old b4 _ l4).trans y4⟩
      clear e1 e2 e3 e4 y1 y2 y3 y4
      go_upto_region 7 with fail
      go_cut [7] (fun s7 wc => ∃ v3, s7 = .int .i64 k ∧ Hid (Two W0 wc V (k + 1) k ((sumL pa pb).take (k + 1)) ((sumL fa fb).take k) v3 v2))
      case first =>
        obtain ⟨⟨u0, _, u2, _⟩, x1, _, x3, _⟩ := READ.out _ HT.out.below
        have hT := HT.out
        have c1 := hT.c1
        have o1' := hT.o1
        have hzr := hT.size
        have F0 := hT.fz 0
        have nV : ¬ V = wr.heap.size := by omega
        have nV' : V ≠ wr.heap.size := by omega
        have ca : ∀ o : Obj, (wr.alloc o).cell? ⟨V, 0, none⟩ = some v1 := fun o => ((((Below.refl _ _).alloc (Nat.le_refl _) o)).cell (p := ⟨V, 0, none⟩) (show V < wr.heap.size by omega)).trans c1
        clear hT
        go_region_law ((refine step_append_lies _ (by rfl) _ _ _ (by rfl) (V + 1) 3 i0 _ 1 8 Try.underlying27 hi hz0 hz1 hz2 rfl (by omega) v1 k (ints ((sumL pa pb).take k)) (by rfl) ((o1'.alloc _).drew) ⟨wr.heap.size, 0, none⟩ 1 1 (ints [A1 + A3]) (by rfl) (by rfl) (World.news_of_block (cs := #[.int .i64 (A1 + A3)]) (t := 3) (fr := (0, 0)) (heap_alloc_new wr _)) (int_cells _) (by omega) (by unfold maxLen; omega) (by omega) (by simp; omega) (wr.heap.size + 1) (by simp) ?_; intro gg cap w1 hown1 hgrow hat hlt'; have F0' := fz_far o1' hgrow (by omega) hzr F0; have C0' := cl_far o1' hgrow hzr c1))
        all_goals
          go_wp2_with fail
          go_meet
          case rel => exact ⟨_, rfl, by rw [HS1.out]; exact HT.out.first hown1 hgrow hat⟩
      case rest =>
        obtain ⟨v3, rfl, HT2⟩ := hcut
        clear HT
        obtain ⟨⟨_, u1, _, u3⟩, _, x2, _, x4⟩ := READ.out _ HT2.out.below
        have hT := HT2.out
        have c2 := hT.c2
        have o2' := hT.o2
        have hzr := hT.size
        have F1 := hT.fz 1
        have nV : ¬ V = wc.heap.size := by omega
        have nV' : V ≠ wc.heap.size := by omega
        have ca : ∀ o : Obj, (wc.alloc o).cell? ⟨V, 1, none⟩ = some v2 := fun o => ((((Below.refl _ _).alloc (Nat.le_refl _) o)).cell (p := ⟨V, 1, none⟩) (show V < wc.heap.size by omega)).trans c2
        clear hT
        go_wp2_with fail
        go_region_law ((refine step_append_lies _ (by rfl) _ _ _ (by rfl) (V + 1) 3 i0 _ 1 8 Try.underlying27 hi hz0 hz1 hz2 rfl (by omega) v2 k (ints ((sumL fa fb).take k)) (by rfl) ((o2'.alloc _).drew) ⟨wc.heap.size, 0, none⟩ 1 1 (ints [A2 + A4]) (by rfl) (by rfl) (World.news_of_block (cs := #[.int .i64 (A2 + A4)]) (t := 3) (fr := (0, 0)) (heap_alloc_new wc _)) (int_cells _) (by omega) (by unfold maxLen; omega) (by omega) (by simp; omega) (wc.heap.size + 1) (by simp) ?_; intro gg cap w1 hown1 hgrow hat hlt'; have F0' := fz_far o2' hgrow (by omega) hzr F1; have C0' := cl_far o2' hgrow hzr c2))
        all_goals
          go_wp2_with fail
          go_roundw
          case rel => exact ⟨k + 1, _, _, by go_num, by omega, hide (by rw [HS2.out]; exact HT2.out.second hown1 hgrow hat)⟩
          case measure => simp only [intOf]; omega
    · have hke : k = n := by omega
      subst hke
      have hT := HT.out
      have lN : Hid ((sumL pa pb).length = k) := hide (by rw [sumL_len, HN.out])
      have lM : Hid ((sumL fa fb).length = k) := hide (by rw [sumL_len, HM.out])
      have e1 : (sumL pa pb).take k = sumL pa pb := List.take_of_length_le (by rw [lN.out]; omega)
      have e2 : (sumL fa fb).take k = sumL fa fb := List.take_of_length_le (by rw [lM.out]; omega)
      rw [e1, e2] at hT
      have HTT := hide hT
      have c1 := hT.c1
      have c2 := hT.c2
      obtain ⟨a1, n1, rfl⟩ := own_rowM hT.o1
      obtain ⟨a2, n2, rfl⟩ := own_rowM hT.o2
      have szr := hT.size
      have hBr : Below w.heap.size w wr := hB3.trans (hT.below.mono (by omega))
      have HPr := hide (HPV.out.keep (by omega) hBr (fun B hB => hT.below.block B (by omega)))
      have OX := hide (owns_base hT.o1 (base' := w.heap.size) (by omega))
      have OY := hide (owns_base hT.o2 (base' := w.heap.size) (by omega))
      have RX := hide (rowM lN.out hT.o1)
      have RY := hide (rowM lM.out hT.o2)
      cases hgs : Pf.goodP (sumL pa pb) (sumL fa fb)
      · have HGS := hide hgs
        clear hgs hT HT HTT
        go_wp2_with (go_at_call 17; refine (sgp_n lN lM RX RY HGS (Below.refl _ _)).mono ?_; rintro e w6 ⟨rfl, hb6⟩; obtain ⟨_, _, _, _, s4, s5, ⟨t0, t1⟩, hB6, z6⟩ := HPr.out.below hb6)
        refine bodyPost_ret (v := .tuple #[.agg #[.slice none 0 0, .slice none 0 0], .bool false]) (by simp [results, Try.results16, go_sem, s4, s5]) rfl ⟨(hB6.setCell (by show w.heap.size ≤ w.heap.size + 1 + 1; omega) _).setCell (by show w.heap.size ≤ w.heap.size + 1 + 1; omega) _, Or.inl ⟨HGS.out, rfl⟩⟩
      · have HGS := hide hgs
        clear hgs hT HT
        go_wp2_with (go_at_call 17; refine (sgp_n lN lM RX RY HGS (Below.refl _ _)).mono ?_; rintro e w6 ⟨rfl, hb6⟩; obtain ⟨_, _, _, _, s4, s5, ⟨t0, t1⟩, hB6, z6⟩ := HPr.out.below hb6; obtain ⟨c4, c5⟩ := pbx_below ⟨c1, c2, show V < wr.heap.size by omega⟩ hb6)
        refine bodyPost_ret (v := .tuple #[.agg #[.slice a1 k n1, .slice a2 k n2], .bool true]) (by simp [results, Try.results16, go_sem, s4, s5]) rfl ⟨(hB6.setCell (by show w.heap.size ≤ w.heap.size + 1 + 1; omega) _).setCell (by show w.heap.size ≤ w.heap.size + 1 + 1; omega) _, Or.inr ⟨HGS.out, _, _, rfl, HTT.out.ne, ?_, ?_⟩⟩
        · exact own_two' (B := w.heap.size + 1 + 1) (own_keep' OX.out (fun g hg hl => hb6.block g hl)) (fun g hg => by have := HTT.out.o1.lt g hg; omega) _ _
        · exact own_two' (B := w.heap.size + 1 + 1) (own_keep' OY.out (fun g hg hl => hb6.block g hl)) (fun g hg => by have := HTT.out.o2.lt g hg; omega) _ _
end Go.Proofs.Ytegonbilomcpkaa
