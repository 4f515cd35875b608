/-
  The iterator ordersFrom, walked.
-/
import Derived.Test.YtkiadodoehcbmaaCn11
import Derived.OwnWalkIn
namespace Go.Proofs.Ytkiadodoehcbmaa
open Go.RowKit

attribute [local go_sem] Oper.semAt_some
theorem kb_cell {B b : Nat} {W W' : World} {v : Value} (h : Kb B W W') (hb : B ≤ b) (hc : W.cell? ⟨b, 0, none⟩ = some v) : W'.cell? ⟨b, 0, none⟩ = some v := by
  have hl : b < W.heap.size := World.block_lt_of_cell? W _ hc
  have h1 : W'.heap[b]? = W.heap[b]? := by rw [h.same b _ hb (Array.getElem?_eq_getElem hl), Array.getElem?_eq_getElem hl]
  exact (World.cell?_of_block (w := W) (a := ⟨b, 0, none⟩) h1).trans hc
/-- The iterator's state between two rounds of its own loop. -/
def OfI (l Bs Bm Y n B H : Nat) (v : Value) (b : List Nat) (f : Nat) (J : List (List Nat) → World → Prop) (a : Act) (W : World) : Prop :=
  ∃ (i : Nat) (z : Int) (Ds : List Nat) (u4 u5 u6 u7 u8 u9 u10 u11 u12 u13 u16 u17 u18 u19 u20 u21 u22 u23 u24 u25 u26 u27 u28 u29 u30 u31 u32 u33 u34 u35 u36 u37 u38 : Value), a = { tmps := #[.func (.yield l) #[] #[], .pointer (some ⟨Bs, 0, none⟩), .pointer (some ⟨Bm, 0, none⟩), .pointer (some ⟨Y, 0, none⟩), u4, u5, u6, u7, u8, u9, u10, u11, u12, u13, .int .i64 (n : Int), .int .i64 z, u16, u17, u18, u19, u20, u21, u22, u23, u24, u25, u26, u27, u28, u29, u30, u31, u32, u33, u34, u35, u36, u37, u38], defers := Ds.map mk11 } ∧ z = (i : Int) ∧ i ≤ n ∧ Ds.Nodup ∧ (∀ D ∈ Ds, H ≤ D ∧ W.heap[D]? = some (.deferred (some []))) ∧
    W.cell? ⟨Bs, 0, none⟩ = some v ∧ W.cell? ⟨Bm, 0, none⟩ = some (.int .i64 (n : Int)) ∧ W.cell? ⟨Y, 0, none⟩ = some (.func (.yield l) #[] #[]) ∧ W.ownsRow B 3 1 v b.length (ints (cst b)) ∧ J (Rt.ordsTo n f b i) W ∧ H ≤ W.heap.size
def OfM (n : Nat) (a : Act) (_ : World) : Nat := n - (intOf (a.tmps.getD 15 undef)).toNat
theorem in_append_run {F : Fence} {n : Nat} {P : Program} (w : World) {ops : Array Oper} {rest : List Oper} {o : Oper} {a : Act} {Q : Exit → Act → World → Prop} (hgd : o.guard = none) (s x : Operand) (t tn : TypeId)
    (ho : o.op = .call { callee := .builtin .append, args := #[s, x], argTypes := #[t, tn] }) (vs vx : Value) (hs : a.eval s = vs) (hx : a.eval x = vx)
    (v' : Value) (w' : World) (hr : (Builtin.append_ #[t, tn] o.type #[vs, vx]).run P w = .ok v' w') (h : wpListIn F n P ops Q rest (a.put o.dst v') w') : wpListIn F n P ops Q (o :: rest) a w := by
  refine wpListIn_plain hgd fun K hK' => ?_
  unfold Oper.wpIn
  refine ⟨?_, ?_⟩
  · simp [Oper.about, ho, resolve, Target.leads, Sem.run_pure]
  · rw [Oper.semAt_plain F _ _ (by rw [ho]; intro c hc'; cases hc')]
    simp [execOp, ho, resolve, invoke, builtin, hs, hx, hr, Result.andThen]
    exact hK' _ _ h
set_option maxRecDepth 100000 in
set_option maxHeartbeats 4000000 in
theorem of_seq {n : Nat} (n7 : n ≤ 7) {B : Nat} : ∀ (f : Nat) {b : List Nat} {Bs Bm g cg : Nat} {w : World}, Rt.Bg n f b → 1 ≤ b.length → B ≤ Bs → B ≤ Bm → w.cell? ⟨Bs, 0, none⟩ = some (.slice (some ⟨g, 0, none⟩) b.length cg) → w.cell? ⟨Bm, 0, none⟩ = some (.int .i64 (n : Int)) → w.ownsRow B 3 1 (.slice (some ⟨g, 0, none⟩) b.length cg) b.length (ints (cst b)) →
    SeqAll 52 #[.pointer (some ⟨Bs, 0, none⟩), .pointer (some ⟨Bm, 0, none⟩)] (TO n B) B (Rt.ords n f b) w
  | 0, b, Bs, Bm, g, cg, w, hb, h1, hBs, hBm, hc1, hc2, hown => by
    intro l J W hW hJ hY h0
    have hlen : b.length = n := by have := hb.len; omega
    have d1 := (hW.cell (p := ⟨Bs, 0, none⟩) (World.block_lt_of_cell? w _ hc1)).trans hc1
    have d2 := (hW.cell (p := ⟨Bm, 0, none⟩) (World.block_lt_of_cell? w _ hc2)).trans hc2
    have hown' := own_below hown hW
    rw [hlen] at d1 hown'
    have hA := below_alloc W (.cells #[.func (.yield l) #[] #[]] 67)
    have a1 := (hA.cell (p := ⟨Bs, 0, none⟩) (World.block_lt_of_cell? W _ d1)).trans d1
    have a2 := (hA.cell (p := ⟨Bm, 0, none⟩) (World.block_lt_of_cell? W _ d2)).trans d2
    obtain ⟨fn, tmps, assign, body, hy, hR⟩ := hY [] b (.slice (some ⟨g, 0, none⟩) n cg) _ (hJ _ _ _ h0 (St.of_below hA (Nat.le_refl _))) ⟨own_below hown' hA, hb⟩
    refine callsIn_of_wp_marks Try.func52 rfl trivial ?_ rfl
    simp only [Try.ntmps52, List.size_toArray, List.length_cons, List.length_nil, Nat.reduceAdd, Nat.reduceSub, Array.replicate_succ, Array.replicate_zero, List.push_toArray, List.append_toArray, List.nil_append, List.cons_append]
    gi_wp2
    refine ⟨rfl, hR.mono ?_⟩
    rintro e W3 ⟨rfl, hJ3, _⟩
    gi_wp2
    exact ⟨_, results_none rfl _ _ _, ⟨_, rfl⟩, hJ3⟩
  | f + 1, b, Bs, Bm, g, cg, w, hb, h1, hBs, hBm, hc1, hc2, hown => by
    intro l J W hW hJ hY h0
    have hlen : b.length + (f + 1) = n := hb.len
    have hne : ¬ (b.length : Int) = (n : Int) := by omega
    have hne' : ((b.length : Int) == (n : Int)) = false := by simp; omega
    have d1 := (hW.cell (p := ⟨Bs, 0, none⟩) (World.block_lt_of_cell? w _ hc1)).trans hc1
    have d2 := (hW.cell (p := ⟨Bm, 0, none⟩) (World.block_lt_of_cell? w _ hc2)).trans hc2
    have hown' := own_below hown hW
    have hA := below_alloc W (.cells #[.func (.yield l) #[] #[]] 67)
    have a1 := (hA.cell (p := ⟨Bs, 0, none⟩) (World.block_lt_of_cell? W _ d1)).trans d1
    have a2 := (hA.cell (p := ⟨Bm, 0, none⟩) (World.block_lt_of_cell? W _ d2)).trans d2
    have a3 : (W.alloc (.cells #[.func (.yield l) #[] #[]] 67)).cell? ⟨W.heap.size, 0, none⟩ = some (.func (.yield l) #[] #[]) := by simp
    have hj0 := hJ _ _ _ h0 (St.of_below hA (Nat.le_refl _))
    have hown2 := own_below hown' hA
    refine callsIn_of_wp_marks Try.func52 rfl trivial ?_ rfl
    simp only [Try.ntmps52, List.size_toArray, List.length_cons, List.length_nil, Nat.reduceAdd, Nat.reduceSub, Array.replicate_succ, Array.replicate_zero, List.push_toArray, List.append_toArray, List.nil_append, List.cons_append]
    gi_wp2
    refine wpIn_loop (OfI l Bs Bm W.heap.size n B W.heap.size (.slice (some ⟨g, 0, none⟩) b.length cg) b f J) (OfM n) ?_ ?_
    · exact ⟨0, 0, [], _, _, _, _, _, _, _, _, _, _, _, _, _, _, _, _, _, _, _, _, _, _, _, _, _, _, _, _, _, _, _, _, _, rfl, rfl, Nat.zero_le _, by simp, by simp, a1, a2, a3, hown2, hj0, hA.size⟩
    · rintro a W1 ⟨i, _, Ds, u4, u5, u6, u7, u8, u9, u10, u11, u12, u13, u16, u17, u18, u19, u20, u21, u22, u23, u24, u25, u26, u27, u28, u29, u30, u31, u32, u33, u34, u35, u36, u37, u38, rfl, rfl, hi, hnd, hds, c1, c2, c3, own1, hj1, hH⟩
      clear hj0 a1 a2 a3 hown2 hown' d1 d2 h0
      by_cases hlt : i < n
      · have i1 : (i : Int) < (n : Int) := by omega
        have row1 := arow_owns (by rw [cst_len]) own1
        have HS := Rt.ordsTo_succ n f b i
        have hcap : b.length ≤ cg := by
          rcases own1.2 with ⟨h, _⟩ | ⟨g', cap, cur, hv, _, _, hc, _⟩
          · cases h
          · cases hv; exact hc
        cases hcn : b.contains i
        · rw [hcn] at HS
          have hib : ¬ i ∈ b := by simpa using hcn
          obtain ⟨v', w2, hr, own2, hb2⟩ := push_new (x := (i : Int)) (cst_len b) (by omega) h1 row1
          rw [cst_snoc] at own2
          obtain ⟨g2, cg2, rfl, hg2, _⟩ := own2.form (by omega)
          have ls := World.block_lt_of_cell? W1 _ c1
          have lm := World.block_lt_of_cell? W1 _ c2
          have ly := World.block_lt_of_cell? W1 _ c3
          simp only at ls lm ly
          have e2 := (hb2.cell (p := ⟨Bm, 0, none⟩) lm).trans c2
          obtain ⟨W3, hW3⟩ : ∃ W3, (w2.alloc (.cells #[.slice (some ⟨g2, 0, none⟩) (b.length + 1) cg2] 36)).alloc (.cells #[.int .i64 (n : Int)] 3) = W3 := ⟨_, rfl⟩
          have hb3 : Below w2.heap.size w2 W3 := hW3 ▸ below_two w2 _ _
          have x1 : W3.cell? ⟨w2.heap.size, 0, none⟩ = some (.slice (some ⟨g2, 0, none⟩) (b.length + 1) cg2) := by rw [← hW3]; simp
          have x2 : W3.cell? ⟨w2.heap.size + 1, 0, none⟩ = some (.int .i64 (n : Int)) := by rw [← hW3]; simp
          have hB13 : Below W1.heap.size W1 W3 := hb2.trans (hb3.mono hb2.size)
          have hBW : B ≤ W1.heap.size := by omega
          have own3 : W3.ownsRow B 3 1 (.slice (some ⟨g2, 0, none⟩) (b ++ [i]).length cg2) (b ++ [i]).length (ints (cst (b ++ [i]))) := by
            rw [List.length_append]
            exact owns_low (own_below own2 hb3) hBW
          have y1 := (hB13.cell (p := ⟨Bs, 0, none⟩) ls).trans c1
          have y2 := (hB13.cell (p := ⟨Bm, 0, none⟩) lm).trans c2
          have y3 := (hB13.cell (p := ⟨W.heap.size, 0, none⟩) ly).trans c3
          have hsz := hB13.size
          have hBY : B ≤ W.heap.size := by have := World.block_lt_of_cell? w _ hc1; have := hW.size; simp only at *; omega
          have hD3 : ∀ D ∈ Ds, W.heap.size ≤ D ∧ W3.heap[D]? = some (.deferred (some [])) := fun D hD => ⟨(hds D hD).1, (hB13.block D (Array.getElem?_eq_some_iff.1 (hds D hD).2).1).trans (hds D hD).2⟩
          have hDl : ∀ D ∈ Ds, D < W3.heap.size := fun D hD => (Array.getElem?_eq_some_iff.1 (hD3 D hD).2).1
          have hs1 : w2.heap.size < W3.heap.size := World.block_lt_of_cell? W3 _ x1
          gi_wp2
          refine ⟨trivial, rfl, callsIn_wide.2 ((con_eq (hide (cst_len b)) (by omega) (hide row1) (hide ((cst_has b i).trans hcn))).mono ?_)⟩
          rintro e Wq ⟨rfl, hw⟩
          obtain rfl : W1 = Wq := hw.symm
          gi_wp2_with (gi_at_builtin; refine in_append_run _ rfl _ _ _ _ rfl _ _ rfl rfl _ _ (hr _) ?_)
          refine ⟨trivial, rfl, callsIn_wide.2 ((of_make _ n w2 rfl).mono ?_)⟩
          rintro e W4 ⟨rfl, hw4⟩
          obtain rfl : W3 = W4 := hW3.symm.trans hw4.symm
          clear hW3 hw4
          gi_wp2
          refine range_all (gf := 52) (lb := #[.pointer (some ⟨w2.heap.size, 0, none⟩), .pointer (some ⟨w2.heap.size + 1, 0, none⟩)]) rfl (enters_of Try.func52 (by kernel_rfl) rfl) (T := TO n B) (B := B) (S := Rt.ords n f (b ++ [i])) (by omega)
            (of_seq n7 f (g := g2) (cg := cg2) (hb.add hlt hib) (by simp) (by have := hb2.size; omega) (by have := hb2.size; omega) (by rw [List.length_append]; exact x1) x2 own3) rfl (fun x v A C ht hst => ⟨own_st ht.1 hst, ht.2⟩)
            (fun pre W' => J (Rt.ordsTo n f b i ++ pre) W' ∧ W'.cell? ⟨Bs, 0, none⟩ = some (.slice (some ⟨g, 0, none⟩) b.length cg) ∧ W'.cell? ⟨Bm, 0, none⟩ = some (.int .i64 (n : Int)) ∧ W'.cell? ⟨W.heap.size, 0, none⟩ = some (.func (.yield l) #[] #[]) ∧ W'.ownsRow B 3 1 (.slice (some ⟨g, 0, none⟩) b.length cg) b.length (ints (cst b)) ∧ (∀ D ∈ Ds, W.heap.size ≤ D ∧ W'.heap[D]? = some (.deferred (some []))) ∧ W3.heap.size ≤ W'.heap.size)
            ?stab ⟨by rw [List.append_nil]; exact hJ _ _ _ hj1 (St.of_below hB13 hH), y1, y2, y3, own_below own1 hB13, hD3, Nat.le_refl _⟩ ?round ?done
          case stab =>
            rintro s A C ⟨j1, j2, j3, j4, j5, j6, j7⟩ hst
            exact ⟨hJ _ _ _ j1 (hst.mono (by omega)), (hst.b.cell (p := ⟨Bs, 0, none⟩) (by show Bs < _; omega)).trans j2, (hst.b.cell (p := ⟨Bm, 0, none⟩) (by show Bm < _; omega)).trans j3, (hst.b.cell (p := ⟨W.heap.size, 0, none⟩) (by show W.heap.size < _; omega)).trans j4, own_st j5 hst, fun D hD => ⟨(j6 D hD).1, (hst.b.block D (hDl D hD)).trans (j6 D hD).2⟩, Nat.le_trans j7 hst.b.size⟩
          case round =>
            intro l2 pre x v Wr
            gi_wp2
            refine ⟨trivial, ?_⟩
            rintro W5 ⟨j1, j2, j3, j4, j5, j6, j7⟩ ht
            obtain ⟨fn, tmps, assign, body, hy, hR⟩ := hY _ x v W5 j1 ht
            gi_wp2
            refine ⟨rfl, (show RoundIn (Fence.wide.inRound l2) 0 Try.prog l fn tmps assign body W5 _ from hR).mono ?_⟩
            rintro e W6 ⟨rfl, hj6, hk6⟩
            gi_wp2
            exact ⟨hk6, by rw [← List.append_assoc]; exact hj6, kb_cell hk6 hBs j2, kb_cell hk6 hBm j3, kb_cell hk6 hBY j4, own_kb j5 hk6 (Nat.le_refl _), fun D hD => ⟨(j6 D hD).1, hk6.same D _ (by have := (j6 D hD).1; omega) (j6 D hD).2⟩, Nat.le_trans j7 hk6.size⟩
          case done =>
            rintro D W5 hD ⟨j1, j2, j3, j4, j5, j6, j7⟩ hDd
            gi_wp2
            refine ⟨⟨i + 1, _, D :: Ds, _, _, _, _, _, _, _, _, _, _, _, _, _, _, _, _, _, _, _, _, _, _, _, _, _, _, _, _, _, _, _, _, _, rfl, by omega, by omega, List.nodup_cons.2 ⟨fun hm => by have := hDl D hm; omega, hnd⟩, fun D' hD' => ?_, j2, j3, j4, j5, by rw [HS]; exact j1, by omega⟩, ?_⟩
            · rcases List.mem_cons.1 hD' with rfl | h
              · exact ⟨by omega, hDd⟩
              · exact j6 D' h
            · simp [OfM, intOf]; omega
        · rw [hcn] at HS
          gi_wp2
          refine ⟨trivial, rfl, callsIn_wide.2 ((con_eq (hide (cst_len b)) (by omega) (hide row1) (hide ((cst_has b i).trans hcn))).mono ?_)⟩
          rintro e Wq ⟨rfl, hw⟩
          obtain rfl : W1 = Wq := hw.symm
          gi_wp2
          refine ⟨⟨i + 1, _, Ds, _, _, _, _, _, _, _, _, _, _, _, _, _, _, _, _, _, _, _, _, _, _, _, _, _, _, _, _, _, _, _, _, _, rfl, by omega, by omega, hnd, hds, c1, c2, c3, own1, by rw [HS]; exact hj1, hH⟩, ?_⟩
          simp [OfM, intOf]; omega
      · have hie : i = n := by omega
        subst hie
        gi_wp2
        exact leaves_marks (B := W.heap.size) Ds W1 hnd hds fun W' hst => ⟨_, results_none rfl _ _ _, ⟨_, rfl⟩, hJ _ _ _ hj1 hst⟩
end Go.Proofs.Ytkiadodoehcbmaa
