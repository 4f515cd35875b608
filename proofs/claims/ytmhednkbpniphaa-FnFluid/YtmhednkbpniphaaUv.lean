/-
  What LeastCost of the model answers.
-/
import Derived.Test.YtmhednkbpniphaaUu
namespace Go.Proofs.Ytmhednkbpniphaa
open Go.RowKit

set_option maxRecDepth 100000 in
set_option maxHeartbeats 1000000 in
theorem sq5_any {p : Int × Int} {r : Int} {w : World} (h0 : 0 ≤ p.1) (h1 : p.1 ≤ 8000) (h2 : 1 ≤ p.2) (h3 : p.2 ≤ 100) (r0 : 8 ≤ r) (r1 : r ≤ 1000) :
    Calls Try.prog 56 #[.agg #[.int .i64 p.1, .int .i64 p.2], .int .i64 r] w fun e w' => e = .returned (fv (Fd.sq p r)) ∧ Below w.heap.size w w' := by
  have hbd := Fd.sq_bd h0 h1 h2 h3 r0 r1
  obtain ⟨p1, p2⟩ := p
  dsimp only at h0 h1 h2 h3 hbd
  obtain ⟨m1, m2, m3⟩ := sq_nums h0 h1 h2 h3 r0 r1
  have hcall := hide (fun w => make_pos (p1 * p1) (p2 * p2 * r) w (by omega) (by omega) (by omega) (by omega))
  have eN : Fr.mkN (p1 * p1) (p2 * p2 * r) = (Fd.sq (p1, p2) r).1 := rfl
  have eD : Fr.mkD (p1 * p1) (p2 * p2 * r) = (Fd.sq (p1, p2) r).2 := rfl
  rw [eN, eD] at hcall
  generalize Fd.sq (p1, p2) r = s at *
  obtain ⟨s1, s2⟩ := s
  dsimp only at hcall
  clear hbd eN eD
  have hB0 : Below w.heap.size w ((w.alloc (.cells #[.int .i64 p1, .int .i64 p2] 27)).alloc (.cells #[.int .i64 0, .int .i64 0] 27)) := ((Below.refl _ _).alloc (Nat.le_refl _) _).alloc (by simp) _
  go_enter Try.func56, Try.ntmps56
  go_wp2_with fail
  refine (hcall.out _).mono ?_
  rintro e w2 ⟨rfl, hb3⟩
  obtain ⟨hc3, hf3⟩ := bcell hb3
  have hs3 := hb3.size
  simp only [World.size_alloc] at hs3
  have z0 : w2.cell? ⟨w.heap.size + 1, 0, none⟩ = some (.int .i64 0) := (hc3 _ _ (by simp)).trans (by simp)
  have z1 : w2.cell? ⟨w.heap.size + 1, 1, none⟩ = some (.int .i64 0) := (hc3 _ _ (by simp)).trans (by simp)
  have y0 : w2.frozen? ⟨w.heap.size + 1, 0, none⟩ = false := (hf3 _ _ (by simp)).trans (by simp [go_sem])
  have y1 : w2.frozen? ⟨w.heap.size + 1, 1, none⟩ = false := (hf3 _ _ (by simp)).trans (by simp [go_sem])
  have hB2 := hB0.trans (hb3.mono (by simp; omega))
  clear hc3 hf3 hb3 hB0
  go_wp2_with fail
  exact bodyPost_ret (v := fv (s1, s2)) (by simp [results, Try.results56, go_sem, fv, *]) rfl ⟨rfl, (hB2.setCell (by simp) _).setCell (by simp) _⟩
/-- What stays while the squares are reckoned. -/
def SQ (w w' : World) (V : Nat) (a b c d : Int) : Prop := Four w' V a b c d ∧ Four w' w.heap.size 0 0 0 0 ∧ Below w.heap.size w w'
theorem SQ.call {w w1 w2 : World} {V : Nat} {a b c d : Int} (h : SQ w w1 V a b c d) (hb : Below w1.heap.size w1 w2) : SQ w w2 V a b c d :=
  ⟨h.1.below hb h.1.2.2.2.2.2.2.2.2, h.2.1.below hb h.2.1.2.2.2.2.2.2.2.2, h.2.2.trans (hb.mono (Nat.le_of_lt h.2.1.2.2.2.2.2.2.2.2))⟩
theorem SQ.far {w w1 w2 : World} {V B : Nat} {a b c d : Int} (h : SQ w w1 V a b c d) (hb : Below B w1 w2) (hV : V < B) (hH : w.heap.size < B) : SQ w w2 V a b c d :=
  ⟨h.1.below hb hV, h.2.1.below hb hH, h.2.2.trans (hb.mono (Nat.le_of_lt hH))⟩
theorem four_sets {w : World} {B : Nat} {P1 P2 Q1 Q2 : Int} : Below B w ((((w.setCell ⟨B, 0, none⟩ (.int .i64 P1)).setCell ⟨B, 1, none⟩ (.int .i64 P2)).setCell ⟨B, 2, none⟩ (.int .i64 Q1)).setCell ⟨B, 3, none⟩ (.int .i64 Q2)) :=
  ((((Below.refl B w).setCell (p := ⟨B, 0, none⟩) (Nat.le_refl _) (.int .i64 P1)).setCell (p := ⟨B, 1, none⟩) (Nat.le_refl _) (.int .i64 P2)).setCell (p := ⟨B, 2, none⟩) (Nat.le_refl _) (.int .i64 Q1)).setCell (p := ⟨B, 3, none⟩) (Nat.le_refl _) (.int .i64 Q2)
theorem slc_turn {w w3 : World} {P1 P2 Q1 Q2 : Int} (hB : Below w.heap.size w w3) :
    Below w.heap.size w ((((w3.setCell ⟨w.heap.size, 0, none⟩ (.int .i64 P1)).setCell ⟨w.heap.size, 1, none⟩ (.int .i64 P2)).setCell ⟨w.heap.size, 2, none⟩ (.int .i64 Q1)).setCell ⟨w.heap.size, 3, none⟩ (.int .i64 Q2)) :=
  (((hB.setCell (p := ⟨w.heap.size, 0, none⟩) (Nat.le_refl _) (.int .i64 P1)).setCell (p := ⟨w.heap.size, 1, none⟩) (Nat.le_refl _) (.int .i64 P2)).setCell (p := ⟨w.heap.size, 2, none⟩) (Nat.le_refl _) (.int .i64 Q1)).setCell (p := ⟨w.heap.size, 3, none⟩) (Nat.le_refl _) (.int .i64 Q2)

set_option maxRecDepth 100000 in
set_option maxHeartbeats 1000000 in
theorem slc_bad1 {a : Option Addr} {n c : Nat} {r f : Int} {fs : List Int} {w : World} (h : Hid (ARow w a fs)) (hn : Hid (fs.length = n)) (hk : Hid (Fd.roomB fs r = false)) :
    Calls Try.prog 21 #[.slice a n c, .int .i64 r, .int .i64 f] w fun e w' => e = .returned (bv (0, 0) (0, 0) false) ∧ Below w.heap.size w w' := by
  go_enter Try.func21, Try.ntmps21
  go_wp2_with (go_at_call 49; refine (sroom_eq (hide (h.out.alloc _)) hn hk).mono ?_; rintro e w1 ⟨rfl, rfl⟩)
  exact bodyPost_ret (v := bv (0, 0) (0, 0) false) (by simp [results, Try.results21, go_sem, bv]) rfl ⟨rfl, (Below.refl _ _).alloc (Nat.le_refl _) _⟩
set_option maxRecDepth 100000 in
set_option maxHeartbeats 1000000 in
theorem slc_bad2 {a : Option Addr} {n c : Nat} {r f : Int} {fs : List Int} {w : World} (h : Hid (ARow w a fs)) (hn : Hid (fs.length = n)) (hk : Hid (Fd.roomB fs r = true)) (hf : Hid (Pf.inB f 1 100 = false)) :
    Calls Try.prog 21 #[.slice a n c, .int .i64 r, .int .i64 f] w fun e w' => e = .returned (bv (0, 0) (0, 0) false) ∧ Below w.heap.size w w' := by
  go_enter Try.func21, Try.ntmps21
  go_wp2_with (first
    | (go_at_call 49; refine (sroom_eq (hide (h.out.alloc _)) hn hk).mono ?_; rintro e w1 ⟨rfl, rfl⟩)
    | (go_at_call 53; refine (in_eq hf.out).mono ?_; rintro e w1 ⟨rfl, rfl⟩))
  exact bodyPost_ret (v := bv (0, 0) (0, 0) false) (by simp [results, Try.results21, go_sem, bv]) rfl ⟨rfl, (Below.refl _ _).alloc (Nat.le_refl _) _⟩
set_option maxRecDepth 100000 in
set_option maxHeartbeats 4000000 in
theorem slc_yes {a : Option Addr} {n c f : Nat} {r : Int} {fs : List Int} {w : World} (h : Hid (ARow w a fs)) (hn : Hid (fs.length = n)) (hk : Hid (Fd.roomB fs r = true)) (f0 : 0 < f) (f1 : f ≤ 100) :
    Calls Try.prog 21 #[.slice a n c, .int .i64 r, .int .i64 f] w fun e w' => e = .returned (bv (Fd.sq (Fd.leastP fs f) r) (Fd.sq (Fd.leastQ fs f) r) true) ∧ Below w.heap.size w w' := by
  obtain ⟨i0, hi, hz0, hz1, hz2⟩ := info_parts infB
  have HI : Hid (Pf.inB (f : Int) 1 100 = true) := hide (Pf.inB_of (by omega) (by omega))
  obtain ⟨hf, r0, r1⟩ := Fd.roomB_yes hk.out
  have HF := hide hf
  have n1 : 0 < n ∧ n ≤ 8 := by have := Sh.flowB_yes hf; have := hn.out; omega
  obtain ⟨n0, n8⟩ := n1
  clear hf
  go_enter Try.func21, Try.ntmps21
  go_wp2_with (first
    | (go_at_call 49; refine (sroom_eq (hide (h.out.alloc _)) hn hk).mono ?_; rintro e w1 ⟨rfl, rfl⟩)
    | (go_at_call 53; refine (in_eq HI.out).mono ?_; rintro e w1 ⟨rfl, rfl⟩))
  go_loopw [8, 10, 11, 12, 28] (fun v _ _ _ s wr => ∃ k : Nat, s = .int .i64 k ∧ k ≤ n ∧ wr.ownsRow (w.heap.size + 1) 32 4 v k (qcells ((bnds f (Fd.los f fs) (Fd.his f fs)).take k)) ∧ Hid (Below (w.heap.size + 1) (w.alloc (.cells #[.int .i64 0, .int .i64 0, .int .i64 0, .int .i64 0] 32)) wr)) (fun _ _ _ _ s _ => n - (intOf s).toNat)
  case atStart => exact ⟨0, rfl, Nat.zero_le _, World.ownsRow_nil _ _ _ _, hide (Below.refl _ _)⟩
  case round =>
    obtain ⟨k, rfl, hk', hown, HB⟩ := hrel
    have hBw : Below w.heap.size w wr := ((Below.refl _ _).alloc (Nat.le_refl _) _).trans (HB.out.mono (by omega))
    have hsz : w.heap.size + 1 ≤ wr.heap.size := by have := HB.out.size; simpa using this
    by_cases hlt : k < n
    · obtain ⟨ba, oa, rfl, q1⟩ := (h.out.below hBw).at (i := k) (by rw [hn.out]; exact hlt)
      obtain ⟨x0, x1⟩ := Sh.flowB_at HF.out (i := k) (by rw [hn.out]; exact hlt)
      have j0 : (0 : Int) ≤ (k : Int) := by omega
      have j1 : (k : Int) < (n : Int) := by omega
      have HT := hide (bnds_take f fs (k := k) (by rw [hn.out]; exact hlt))
      generalize fs.getD k 0 = x at *
      have hcall := hide (srb_parts (w := wr) x0 x1 f0 f1)
      generalize Sh.mk (Fd.lo f x : Int) f = p at *
      generalize Sh.mk (Fd.hi f x : Int) f = q at *
      obtain ⟨p1, p2⟩ := p
      obtain ⟨y1', y2'⟩ := q
      have HO := hide hown
      clear hown hBw
      go_wp2_with fail
      refine hcall.out.mono ?_
      rintro e w1 ⟨rfl, hb1⟩
      have own1 := own_below HO.out hb1
      have hs1 : w.heap.size + 1 ≤ w1.heap.size := by have := hb1.size; omega
      have HB1 := hide (HB.out.trans (hb1.mono hsz))
      clear HO HB hb1 hcall q1
      go_wp2_with (first
        | (at_builtin; refine wpList_append_own _ rfl _ _ 73 rfl (w.heap.size + 1) 32 i0 (.agg #[.int .i64 0, .int .i64 0, .int .i64 0, .int .i64 0]) 4 32 Try.underlying73 hi hz0 hz1 hz2 rfl (by decide) _ _ _ rfl ((own1.alloc _).alloc _) ⟨w1.heap.size + 1, 0, none⟩ 1 1 [.int .i64 p1, .int .i64 p2, .int .i64 y1', .int .i64 y2'] rfl rfl (new_q _ _ _ _ _ _ (by simp)) (q_cells _ _ _ _) (by unfold maxLen; omega) (by omega) (by simp; omega) ?_))
      intro v' w4 hown' hgrow _
      have hfin := own_grow (own1.alloc _) hgrow (Nat.le_refl _) (by simp; omega)
      rw [← HT.out] at hown'
      have HB4 := hide (HB1.out.trans (((Below.refl _ _).alloc hs1 _).trans hfin))
      clear HB1 hgrow hfin own1
      go_wp2_with fail
      go_roundw
      case rel => exact ⟨k + 1, by go_num, by omega, hown', HB4⟩
      case measure => simp only [intOf]; omega
    · have hke : k = n := by omega
      subst hke
      have L1 : (bnds f (Fd.los f fs) (Fd.his f fs)).length = k := by rw [bnds_len, Fd.los_len]; exact hn.out
      have T1 : Hid ((bnds f (Fd.los f fs) (Fd.his f fs)).take k = bnds f (Fd.los f fs) (Fd.his f fs)) := hide (by rw [List.take_of_length_le]; rw [L1]; exact Nat.le_refl _)
      rw [T1.out] at hown
      obtain ⟨g1, cap1, rfl, _, gl1, R1⟩ := (qrow_owns L1 hown).resolve_left (fun h => by have := h.2; omega)
      have N1 : Hid ((Fd.los f fs).length = k) := hide (by rw [Fd.los_len]; exact hn.out)
      have N2 : Hid ((Fd.his f fs).length = k) := hide (by rw [Fd.his_len]; exact hn.out)
      have C1 := hide (ssumB_any (cap := cap1) (hide R1) N1 N2 gl1 n8 f0 f1 (hide fun j hj => Fd.los_his j (by rw [hn.out]; exact hj)) (hide fun j hj => Fd.his_le HF.out f0 f1 j (by rw [hn.out]; exact hj)))
      have HG := hide (least_good (r := r) HF.out f0 f1 r0 r1)
      obtain ⟨⟨a0, a1, a2, a3⟩, ⟨b0, b1, b2, b3⟩⟩ := least_facts HF.out f0 f1
      have CC1 := hide (fun w => sq5_any (p := Fd.leastP fs f) (r := r) (w := w) a0 a1 a2 a3 r0 r1)
      have CC2 := hide (fun w => sq5_any (p := Fd.leastQ fs f) (r := r) (w := w) b0 b1 b2 b3 r0 r1)
      have eP : Sh.mk ((Fd.los f fs).sum : Int) f = Fd.leastP fs f := rfl
      have eQ : Sh.mk ((Fd.his f fs).sum : Int) f = Fd.leastQ fs f := rfl
      rw [eP, eQ] at C1
      clear R1 hown L1 T1 eP eQ a0 a1 a2 a3 b0 b1 b2 b3
      generalize hs : Fd.sq (Fd.leastP fs f) r = s at *
      generalize ht : Fd.sq (Fd.leastQ fs f) r = t at *
      have HST := hide (And.intro hs ht)
      clear hs ht
      generalize hp : Fd.leastP fs f = p at *
      generalize hq : Fd.leastQ fs f = q at *
      have HPQ := hide (And.intro hp hq)
      clear hp hq
      obtain ⟨p1, p2⟩ := p
      obtain ⟨q1, q2⟩ := q
      obtain ⟨s1, s2⟩ := s
      obtain ⟨t1, t2⟩ := t
      rw [fv_eq] at CC1 CC2
      dsimp only at CC1 CC2 HG C1
      go_wp2_with fail
      refine C1.out.mono ?_
      rintro e w2 ⟨rfl, hb2⟩
      have hB2 := HB.out.trans (hb2.mono hsz)
      have HR := hide ((Four.new w 0 0 0 0 32).below hB2 (Nat.lt_succ_self _))
      have hB3 : Below w.heap.size w w2 := ((Below.refl _ _).alloc (Nat.le_refl _) _).trans (hB2.mono (Nat.le_succ _))
      have hba : Below w2.heap.size w2 (w2.alloc (.cells #[.int .i64 p1, .int .i64 p2, .int .i64 q1, .int .i64 q2] 32)) := (Below.refl _ _).alloc (Nat.le_refl _) _
      have hSQ : SQ w (w2.alloc (.cells #[.int .i64 p1, .int .i64 p2, .int .i64 q1, .int .i64 q2] 32)) w2.heap.size p1 p2 q1 q2 := ⟨Four.new w2 p1 p2 q1 q2 _, HR.out.below hba HR.out.2.2.2.2.2.2.2.2, hB3.trans (hba.mono (Nat.le_of_lt HR.out.2.2.2.2.2.2.2.2))⟩
      clear hb2 hB2 HR hB3 hba C1 HB
      go_wp2_with fail
      generalize w2.alloc (.cells #[.int .i64 p1, .int .i64 p2, .int .i64 q1, .int .i64 q2] 32) = W1 at *
      generalize w2.heap.size = V at *
      refine wp_region_noPanic ?_
      refine wp_region_held_drew (S := fun w' => SQ w w' V p1 p2 q1 q2) (by kernel_rfl) (SQ.call hSQ (Below.refl _ _).drew) (fun hHeld => ?_)
      refine wpAnyH_take (i := 0) (oi := ⟨some 51, _, _, _, _, none⟩) (v := .pointer (some ⟨V, 0, none⟩)) rfl (by kernel_rfl) (by kernel_rfl) (by kernel_rfl) (fun _ _ _ h => h) (Or.inl ⟨by rfl, fun w' hSw => by obtain ⟨⟨x0, x1, x2, x3, _⟩, _⟩ := hSw; go_simp⟩) hHeld ?_
      simp only [Act.put, List.setIfInBounds_toArray, List.set_cons_zero, List.set_cons_succ]
      refine wpAnyH_take (i := 1) (oi := ⟨some 52, _, _, _, _, none⟩) (v := .agg #[.int .i64 p1, .int .i64 p2]) rfl (by kernel_rfl) (by kernel_rfl) (by kernel_rfl) (fun _ _ _ h => h) (Or.inl ⟨by rfl, fun w' hSw => by obtain ⟨⟨x0, x1, x2, x3, _⟩, _⟩ := hSw; go_simp⟩) hHeld ?_
      simp only [Act.put, List.setIfInBounds_toArray, List.set_cons_zero, List.set_cons_succ]
      refine wpAnyH_take (i := 2) (oi := ⟨some 53, _, _, _, _, none⟩) (v := .int .i64 r) rfl (by kernel_rfl) (by kernel_rfl) (by kernel_rfl) (fun _ _ _ h => h) (Or.inl ⟨by rfl, fun w' hSw => by obtain ⟨⟨x0, x1, x2, x3, _⟩, _⟩ := hSw; go_simp⟩) hHeld ?_
      simp only [Act.put, List.setIfInBounds_toArray, List.set_cons_zero, List.set_cons_succ]
      refine wpAnyH_take (i := 4) (oi := ⟨some 55, _, _, _, _, none⟩) (v := .pointer (some ⟨V, 2, none⟩)) rfl (by kernel_rfl) (by kernel_rfl) (by kernel_rfl) (fun _ _ _ h => h) (Or.inl ⟨by rfl, fun w' hSw => by obtain ⟨⟨x0, x1, x2, x3, _⟩, _⟩ := hSw; go_simp⟩) hHeld ?_
      simp only [Act.put, List.setIfInBounds_toArray, List.set_cons_zero, List.set_cons_succ]
      refine wpAnyH_take (i := 5) (oi := ⟨some 56, _, _, _, _, none⟩) (v := .agg #[.int .i64 q1, .int .i64 q2]) rfl (by kernel_rfl) (by kernel_rfl) (by kernel_rfl) (fun _ _ _ h => h) (Or.inl ⟨by rfl, fun w' hSw => by obtain ⟨⟨x0, x1, x2, x3, _⟩, _⟩ := hSw; go_simp⟩) hHeld ?_
      simp only [Act.put, List.setIfInBounds_toArray, List.set_cons_zero, List.set_cons_succ]
      refine wpAnyH_take (i := 6) (oi := ⟨some 57, _, _, _, _, none⟩) (v := .int .i64 r) rfl (by kernel_rfl) (by kernel_rfl) (by kernel_rfl) (fun _ _ _ h => h) (Or.inl ⟨by rfl, fun w' hSw => by obtain ⟨⟨x0, x1, x2, x3, _⟩, _⟩ := hSw; go_simp⟩) hHeld ?_
      simp only [Act.put, List.setIfInBounds_toArray, List.set_cons_zero, List.set_cons_succ]
      refine wpAnyH_ready (rs := [3, 9]) (by kernel_rfl) (by simp) ?_
      refine AllReadyH.cons (o := ⟨some 54, _, _, _, _, none⟩) rfl (fun K hK => ?_) (AllReadyH.cons (o := ⟨some 15, _, _, _, _, none⟩) rfl (fun K hK => ?_) AllReadyH.nil)
      · go_simp
        refine (CC1.out _).mono ?_
        rintro e x1 ⟨rfl, hb⟩
        refine hK.out _ _ (SQ.call hHeld hb) (fun hHeld => ?_)
        clear hK K hb
        refine wpAnyH_ready (rs := [7, 9]) (by kernel_rfl) (by simp) ?_
        refine AllReadyH.cons (o := ⟨some 58, _, _, _, _, none⟩) rfl (fun K hK => ?_) (AllReadyH.cons (o := ⟨some 15, _, _, _, _, none⟩) rfl (fun K hK => ?_) AllReadyH.nil)
        · go_simp
          refine (CC2.out _).mono ?_
          rintro e x2 ⟨rfl, hb⟩
          refine hK.out _ _ (SQ.call hHeld hb) (fun hHeld => ?_)
          have HQ2 := hide hHeld
          clear hK K hb
          refine wpAnyH_take (i := 8) (oi := ⟨some 59, _, _, _, _, none⟩) (v := .agg #[.int .i64 s1, .int .i64 s2, .int .i64 t1, .int .i64 t2]) rfl (by kernel_rfl) (by kernel_rfl) (by kernel_rfl) (fun _ _ _ h => h) (Or.inl ⟨by rfl, fun w' hSw => by clear hSw; go_simp⟩) hHeld ?_
          simp only [Act.put, List.setIfInBounds_toArray, List.set_cons_zero, List.set_cons_succ]
          refine wpAnyH_ready (rs := [9]) (by kernel_rfl) (by simp) ?_
          refine AllReadyH.cons (o := ⟨some 15, _, _, _, _, none⟩) rfl (fun K hK => ?_) AllReadyH.nil
          go_simp
          refine hK.out _ _ (SQ.call hHeld ((Below.refl _ _).alloc (Nat.le_refl _) _)) (fun hHeld => ?_)
          clear hK K
          refine wpAnyH_ready (rs := [10]) (by kernel_rfl) (by simp) ?_
          refine AllReadyH.cons (o := ⟨none, _, _, _, _, none⟩) rfl (fun K hK => ?_) AllReadyH.nil
          have HT := hide (Four.new x2 s1 s2 t1 t2 32)
          have HQ := hide (SQ.call HQ2.out (w2 := x2.alloc (.cells #[.int .i64 s1, .int .i64 s2, .int .i64 t1, .int .i64 t2] 32)) ((Below.refl _ _).alloc (Nat.le_refl _) _))
          go_simp
          refine hK.out _ _ HQ.out (fun _ => ?_)
          clear hK K HQ2
          generalize x2.alloc (.cells #[.int .i64 s1, .int .i64 s2, .int .i64 t1, .int .i64 t2] 32) = X at *
          generalize x2.heap.size = B at *
          refine wpAnyH_done (by kernel_rfl) ?_ _
          refine NoPanic.normal ?_
          obtain ⟨u0, u1, u2, u3, _, _, _, _, u8⟩ := HT.out
          clear hHeld
          go_wp2_with fail
          refine (sgb_any s1 s2 t1 t2 _).mono ?_
          rw [HG.out]
          rintro e xx ⟨rfl, hbx⟩
          have HTx := hide (HT.out.below hbx u8)
          have HQx := hide (HQ.out.call hbx)
          clear u0 u1 u2 u3 HT HQ hbx
          obtain ⟨u0, u1, u2, u3, _, _, _, _, u9⟩ := HTx.out
          obtain ⟨_, ⟨z0, z1, z2, z3, y0, y1, y2, y3, z9⟩, hBx⟩ := HQx.out
          go_wp2_with fail
          exact bodyPost_ret (v := bv (s1, s2) (t1, t2) true) (by simp [results, Try.results21, go_sem, bv, *]) rfl ⟨by rw [HPQ.out.1, HPQ.out.2, HST.out.1, HST.out.2], slc_turn hBx⟩
        · have hVB : V < x1.heap.size := hHeld.1.2.2.2.2.2.2.2.2
          have hHB : w.heap.size < x1.heap.size := hHeld.2.1.2.2.2.2.2.2.2.2
          have HZ0 := hide (Four.new x1 0 0 0 0 32)
          go_simp
          refine hK.out _ _ (SQ.call hHeld ((Below.refl _ _).alloc (Nat.le_refl _) _)) (fun hHeld => ?_)
          clear hK K
          generalize x1.alloc (.cells #[.int .i64 0, .int .i64 0, .int .i64 0, .int .i64 0] 32) = X1 at *
          generalize x1.heap.size = B at *
          refine wpAnyH_ready (rs := [7]) (by kernel_rfl) (by simp) ?_
          refine AllReadyH.cons (o := ⟨some 58, _, _, _, _, none⟩) rfl (fun K hK => ?_) AllReadyH.nil
          go_simp
          refine (CC2.out _).mono ?_
          rintro e x2 ⟨rfl, hb⟩
          have HZ := hide (HZ0.out.below hb HZ0.out.2.2.2.2.2.2.2.2)
          refine hK.out _ _ (SQ.call hHeld hb) (fun hHeld => ?_)
          clear hK K hb HZ0
          refine wpAnyH_take (i := 8) (oi := ⟨some 59, _, _, _, _, none⟩) (v := .agg #[.int .i64 s1, .int .i64 s2, .int .i64 t1, .int .i64 t2]) rfl (by kernel_rfl) (by kernel_rfl) (by kernel_rfl) (fun _ _ _ h => h) (Or.inl ⟨by rfl, fun w' hSw => by clear hSw; go_simp⟩) hHeld ?_
          simp only [Act.put, List.setIfInBounds_toArray, List.set_cons_zero, List.set_cons_succ]
          obtain ⟨k0, k1, k2, k3, k4, k5, k6, k7, k8⟩ := HZ.out
          refine wpAnyH_ready (rs := [10]) (by kernel_rfl) (by simp) ?_
          refine AllReadyH.cons (o := ⟨none, _, _, _, _, none⟩) rfl (fun K hK => ?_) AllReadyH.nil
          have HT := hide (HZ.out.set s1 s2 t1 t2)
          have HQ := hide (SQ.far hHeld (four_sets (P1 := s1) (P2 := s2) (Q1 := t1) (Q2 := t2)) hVB hHB)
          go_simp
          refine hK.out _ _ HQ.out (fun _ => ?_)
          clear hK K k0 k1 k2 k3 k4 k5 k6 k7 HZ
          generalize (((x2.setCell ⟨B, 0, none⟩ (.int .i64 s1)).setCell ⟨B, 1, none⟩ (.int .i64 s2)).setCell ⟨B, 2, none⟩ (.int .i64 t1)).setCell ⟨B, 3, none⟩ (.int .i64 t2) = X at *
          refine wpAnyH_done (by kernel_rfl) ?_ _
          refine NoPanic.normal ?_
          obtain ⟨u0, u1, u2, u3, _, _, _, _, u8⟩ := HT.out
          clear hHeld
          go_wp2_with fail
          refine (sgb_any s1 s2 t1 t2 _).mono ?_
          rw [HG.out]
          rintro e xx ⟨rfl, hbx⟩
          have HTx := hide (HT.out.below hbx u8)
          have HQx := hide (HQ.out.call hbx)
          clear u0 u1 u2 u3 HT HQ hbx
          obtain ⟨u0, u1, u2, u3, _, _, _, _, u9⟩ := HTx.out
          obtain ⟨_, ⟨z0, z1, z2, z3, y0, y1, y2, y3, z9⟩, hBx⟩ := HQx.out
          go_wp2_with fail
          exact bodyPost_ret (v := bv (s1, s2) (t1, t2) true) (by simp [results, Try.results21, go_sem, bv, *]) rfl ⟨by rw [HPQ.out.1, HPQ.out.2, HST.out.1, HST.out.2], slc_turn hBx⟩
      · have hVB : V < W1.heap.size := hHeld.1.2.2.2.2.2.2.2.2
        have hHB : w.heap.size < W1.heap.size := hHeld.2.1.2.2.2.2.2.2.2.2
        have HZ0 : Hid (Four (W1.alloc (.cells #[.int .i64 0, .int .i64 0, .int .i64 0, .int .i64 0] 32)).drew W1.heap.size 0 0 0 0) := hide ((Four.new W1 0 0 0 0 32).below (k := W1.heap.size + 1) (Below.refl _ _).drew (Nat.lt_succ_self _))
        go_simp
        refine hK.out _ _ (SQ.call hHeld ((Below.refl _ _).alloc (Nat.le_refl _) _)) (fun hHeld => ?_)
        clear hK K
        generalize (W1.alloc (.cells #[.int .i64 0, .int .i64 0, .int .i64 0, .int .i64 0] 32)).drew = X1 at *
        clear hSQ
        generalize W1.heap.size = B at *
        refine wpAnyH_ready (rs := [3]) (by kernel_rfl) (by simp) ?_
        refine AllReadyH.cons (o := ⟨some 54, _, _, _, _, none⟩) rfl (fun K hK => ?_) AllReadyH.nil
        go_simp
        refine (CC1.out _).mono ?_
        rintro e x1 ⟨rfl, hb⟩
        have HZ1 := hide (HZ0.out.below hb HZ0.out.2.2.2.2.2.2.2.2)
        refine hK.out _ _ (SQ.call hHeld hb) (fun hHeld => ?_)
        clear hK K hb HZ0
        refine wpAnyH_ready (rs := [7]) (by kernel_rfl) (by simp) ?_
        refine AllReadyH.cons (o := ⟨some 58, _, _, _, _, none⟩) rfl (fun K hK => ?_) AllReadyH.nil
        go_simp
        refine (CC2.out _).mono ?_
        rintro e x2 ⟨rfl, hb⟩
        have HZ := hide (HZ1.out.below hb HZ1.out.2.2.2.2.2.2.2.2)
        refine hK.out _ _ (SQ.call hHeld hb) (fun hHeld => ?_)
        clear hK K hb HZ1
        refine wpAnyH_take (i := 8) (oi := ⟨some 59, _, _, _, _, none⟩) (v := .agg #[.int .i64 s1, .int .i64 s2, .int .i64 t1, .int .i64 t2]) rfl (by kernel_rfl) (by kernel_rfl) (by kernel_rfl) (fun _ _ _ h => h) (Or.inl ⟨by rfl, fun w' hSw => by clear hSw; go_simp⟩) hHeld ?_
        simp only [Act.put, List.setIfInBounds_toArray, List.set_cons_zero, List.set_cons_succ]
        obtain ⟨k0, k1, k2, k3, k4, k5, k6, k7, k8⟩ := HZ.out
        refine wpAnyH_ready (rs := [10]) (by kernel_rfl) (by simp) ?_
        refine AllReadyH.cons (o := ⟨none, _, _, _, _, none⟩) rfl (fun K hK => ?_) AllReadyH.nil
        have HT := hide (HZ.out.set s1 s2 t1 t2)
        have HQ := hide (SQ.far hHeld (four_sets (P1 := s1) (P2 := s2) (Q1 := t1) (Q2 := t2)) hVB hHB)
        go_simp
        refine hK.out _ _ HQ.out (fun _ => ?_)
        clear hK K k0 k1 k2 k3 k4 k5 k6 k7 HZ
        generalize (((x2.setCell ⟨B, 0, none⟩ (.int .i64 s1)).setCell ⟨B, 1, none⟩ (.int .i64 s2)).setCell ⟨B, 2, none⟩ (.int .i64 t1)).setCell ⟨B, 3, none⟩ (.int .i64 t2) = X at *
        refine wpAnyH_done (by kernel_rfl) ?_ _
        refine NoPanic.normal ?_
        obtain ⟨u0, u1, u2, u3, _, _, _, _, u8⟩ := HT.out
        clear hHeld
        go_wp2_with fail
        refine (sgb_any s1 s2 t1 t2 _).mono ?_
        rw [HG.out]
        rintro e xx ⟨rfl, hbx⟩
        have HTx := hide (HT.out.below hbx u8)
        have HQx := hide (HQ.out.call hbx)
        clear u0 u1 u2 u3 HT HQ hbx
        obtain ⟨u0, u1, u2, u3, _, _, _, _, u9⟩ := HTx.out
        obtain ⟨_, ⟨z0, z1, z2, z3, y0, y1, y2, y3, z9⟩, hBx⟩ := HQx.out
        go_wp2_with fail
        exact bodyPost_ret (v := bv (s1, s2) (t1, t2) true) (by simp [results, Try.results21, go_sem, bv, *]) rfl ⟨by rw [HPQ.out.1, HPQ.out.2, HST.out.1, HST.out.2], slc_turn hBx⟩
theorem slc_any {a : Option Addr} {n c : Nat} {r f : Int} {fs : List Int} {w : World} (h : Hid (ARow w a fs)) (hn : Hid (fs.length = n)) :
    Calls Try.prog 21 #[.slice a n c, .int .i64 r, .int .i64 f] w fun e w' => e = .returned (bv (leastLo fs r f) (leastHi fs r f) (leastB fs r f)) ∧ Below w.heap.size w w' := by
  unfold leastLo leastHi leastB
  cases h1 : Fd.roomB fs r
  · exact slc_bad1 h hn (hide h1)
  · cases h2 : Pf.inB f 1 100
    · exact slc_bad2 h hn (hide h1) (hide h2)
    · have := Pf.inB_yes h2
      obtain ⟨F, rfl⟩ := Int.eq_ofNat_of_zero_le (show 0 ≤ f by omega)
      exact slc_yes h hn (hide h1) (by omega) (by omega)
end Go.Proofs.Ytmhednkbpniphaa
