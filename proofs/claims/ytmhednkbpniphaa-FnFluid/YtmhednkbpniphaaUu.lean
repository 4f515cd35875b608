/-
  What LeastCost of the program answers.
-/
import Derived.Test.YtmhednkbpniphaaUt
import Derived.Test.YtmhednkbpniphaaSe
namespace Go.Proofs.Ytmhednkbpniphaa
open Go.RowKit

/-- What is told of bounds: four numbers. -/
def bv (p q : Int × Int) (b : Bool) : Value := .tuple #[.agg #[.int .i64 p.1, .int .i64 p.2, .int .i64 q.1, .int .i64 q.2], .bool b]
theorem bv_eq (p q : Int × Int) (b : Bool) : bv p q b = .tuple #[.agg #[.int .i64 p.1, .int .i64 p.2, .int .i64 q.1, .int .i64 q.2], .bool b] := rfl

set_option maxRecDepth 100000 in
set_option maxHeartbeats 4000000 in
theorem sor_any {a : Option Addr} {n c f : Nat} {fs : List Int} {w : World} (h : Hid (ARow w a fs)) (hn : Hid (fs.length = n)) (hf : Hid (Sh.flowB fs = true)) (f0 : 0 < f) (f1 : f ≤ 100) :
    Calls Try.prog 42 #[.int .i64 f, .slice a n c] w fun e w' => e = .returned (bv (Fd.leastP fs f) (Fd.leastQ fs f) true) ∧ Below w.heap.size w w' := by
  obtain ⟨i0, hi, hz0, hz1, hz2⟩ := info_parts infB
  have n1 : 0 < n ∧ n ≤ 8 := by have := Sh.flowB_yes hf.out; have := hn.out; omega
  obtain ⟨n0, n8⟩ := n1
  go_enter Try.func42, Try.ntmps42
  go_wp2_with fail
  go_loopw [5, 6, 8, 9, 10, 13] (fun s5 v _ _ _ s wr => ∃ k : Nat, s5 = .bool false ∧ s = .int .i64 k ∧ k ≤ n ∧ wr.ownsRow (w.heap.size + 1) 32 4 v k (qcells ((bnds f (Fd.los f fs) (Fd.his f fs)).take k)) ∧ Hid (Below (w.heap.size + 1) (w.alloc (.cells #[.int .i64 0, .int .i64 0, .int .i64 0, .int .i64 0] 32)) wr)) (fun _ _ _ _ _ s _ => n - (intOf s).toNat)
  case atStart => exact ⟨0, rfl, rfl, Nat.zero_le _, World.ownsRow_nil _ _ _ _, hide (Below.refl _ _)⟩
  case round =>
    obtain ⟨k, rfl, rfl, hk, hown, HB⟩ := hrel
    have hBw : Below w.heap.size w wr := ((Below.refl _ _).alloc (Nat.le_refl _) _).trans (HB.out.mono (by omega))
    have hsz : w.heap.size + 1 ≤ wr.heap.size := by have := HB.out.size; simpa using this
    by_cases hlt : k < n
    · obtain ⟨ba, oa, rfl, q1⟩ := (h.out.below hBw).at (i := k) (by rw [hn.out]; exact hlt)
      obtain ⟨x0, x1⟩ := Sh.flowB_at hf.out (i := k) (by rw [hn.out]; exact hlt)
      have j0 : (0 : Int) ≤ (k : Int) := by omega
      have j1 : (k : Int) < (n : Int) := by omega
      have HT := hide (bnds_take f fs (k := k) (by rw [hn.out]; exact hlt))
      generalize fs.getD k 0 = x at *
      have hcall := hide (rb_parts (w := wr) x0 x1 f0 f1)
      generalize Sh.mk (Fd.lo f x : Int) f = p at *
      generalize Sh.mk (Fd.hi f x : Int) f = q at *
      obtain ⟨p1, p2⟩ := p
      obtain ⟨q1', q2'⟩ := q
      have HO := hide hown
      clear hown hBw
      go_wp2_with fail
      refine hcall.out.mono ?_
      rintro e w1 ⟨rfl, hb1⟩
      have own1 := own_below HO.out hb1
      have hs1 : w.heap.size + 1 ≤ w1.heap.size := by have := hb1.size; omega
      have HB1 := hide (HB.out.trans (hb1.mono hsz))
      clear HO HB hb1 hcall q1
      go_wp2_with (first
        | (at_builtin; refine wpList_append_own _ rfl _ _ 73 rfl (w.heap.size + 1) 32 i0 (.agg #[.int .i64 0, .int .i64 0, .int .i64 0, .int .i64 0]) 4 32 Try.underlying73 hi hz0 hz1 hz2 rfl (by decide) _ _ _ rfl ((own1.alloc _).alloc _) ⟨w1.heap.size + 1, 0, none⟩ 1 1 [.int .i64 p1, .int .i64 p2, .int .i64 q1', .int .i64 q2'] rfl rfl (new_q _ _ _ _ _ _ (by simp)) (q_cells _ _ _ _) (by unfold maxLen; omega) (by omega) (by simp; omega) ?_))
      intro v' w4 hown' hgrow _
      have hfin := own_grow (own1.alloc _) hgrow (Nat.le_refl _) (by simp; omega)
      rw [← HT.out] at hown'
      have HB4 := hide (HB1.out.trans (((Below.refl _ _).alloc hs1 _).trans hfin))
      clear HB1 hgrow hfin own1
      go_wp2_with fail
      go_roundw
      case rel => exact ⟨k + 1, rfl, by go_num, by omega, hown', HB4⟩
      case measure => simp only [intOf]; omega
    · have hke : k = n := by omega
      subst hke
      have L1 : (bnds f (Fd.los f fs) (Fd.his f fs)).length = k := by rw [bnds_len, Fd.los_len]; exact hn.out
      have T1 : Hid ((bnds f (Fd.los f fs) (Fd.his f fs)).take k = bnds f (Fd.los f fs) (Fd.his f fs)) := hide (by rw [List.take_of_length_le]; rw [L1]; exact Nat.le_refl _)
      rw [T1.out] at hown
      obtain ⟨g1, cap1, rfl, _, gl1, R1⟩ := (qrow_owns L1 hown).resolve_left (fun h => by have := h.2; omega)
      have N1 : Hid ((Fd.los f fs).length = k) := hide (by rw [Fd.los_len]; exact hn.out)
      have N2 : Hid ((Fd.his f fs).length = k) := hide (by rw [Fd.his_len]; exact hn.out)
      have C1 := hide (sumB_any (cap := cap1) (hide R1) N1 N2 gl1 n0 n8 f0 f1 (hide fun j hj => Fd.los_his j (by rw [hn.out]; exact hj)) (hide fun j hj => Fd.his_le hf.out f0 f1 j (by rw [hn.out]; exact hj)))
      have eP : Sh.mk ((Fd.los f fs).sum : Int) f = Fd.leastP fs f := rfl
      have eQ : Sh.mk ((Fd.his f fs).sum : Int) f = Fd.leastQ fs f := rfl
      rw [eP, eQ] at C1
      generalize hp : Fd.leastP fs f = p at *
      generalize hq : Fd.leastQ fs f = q at *
      have HPQ := hide (And.intro hp hq)
      obtain ⟨p1, p2⟩ := p
      obtain ⟨q1, q2⟩ := q
      clear R1 hown L1 T1 eP eQ hp hq
      go_wp2_with fail
      refine C1.out.mono ?_
      rintro e w2 ⟨rfl, hb2⟩
      have HR := hide ((Four.new w 0 0 0 0 32).below (HB.out.trans (hb2.mono hsz)) (Nat.lt_succ_self _))
      have hB3 : Below w.heap.size w w2 := ((Below.refl _ _).alloc (Nat.le_refl _) _).trans ((HB.out.trans (hb2.mono hsz)).mono (Nat.le_succ _))
      obtain ⟨z0, z1, z2, z3, y0, y1, y2, y3, z9⟩ := HR.out
      clear hb2 C1 HB
      go_wp2_with fail
      exact bodyPost_ret (v := bv (p1, p2) (q1, q2) true) (by simp [results, Try.results42, go_sem, bv, *]) rfl ⟨by rw [HPQ.out.1, HPQ.out.2], ((((hB3.setCell (Nat.le_refl _) _).setCell (Nat.le_refl _) _).setCell (Nat.le_refl _) _).setCell (Nat.le_refl _) _)⟩

theorem sq_nums {p1 p2 r : Int} (h0 : 0 ≤ p1) (h1 : p1 ≤ 8000) (h2 : 1 ≤ p2) (h3 : p2 ≤ 100) (r0 : 8 ≤ r) (r1 : r ≤ 1000) : wrap64 (p1 * p1) = p1 * p1 ∧ wrap64 (p2 * p2) = p2 * p2 ∧ wrap64 (p2 * p2 * r) = p2 * p2 * r := by
  obtain ⟨a, b, c⟩ := Fd.sq_bd (p := (p1, p2)) h0 h1 h2 h3 r0 r1
  dsimp only at a b c
  exact ⟨wrap_id _ (by omega) (by omega), wrap_id _ (by omega) (by omega), wrap_id _ (by omega) (by omega)⟩
set_option maxRecDepth 100000 in
set_option maxHeartbeats 1000000 in
theorem so5_any {p : Int × Int} {r : Int} {w : World} (h0 : 0 ≤ p.1) (h1 : p.1 ≤ 8000) (h2 : 1 ≤ p.2) (h3 : p.2 ≤ 100) (r0 : 8 ≤ r) (r1 : r ≤ 1000) :
    Calls Try.prog 43 #[.agg #[.int .i64 p.1, .int .i64 p.2], .int .i64 r] w fun e w' => e = .returned (fb (Fd.sq p r) true) ∧ Below w.heap.size w w' := by
  have HG := hide (Fd.sq_good h0 h1 h2 h3 r0 r1)
  have hbd := Fd.sq_bd h0 h1 h2 h3 r0 r1
  obtain ⟨p1, p2⟩ := p
  dsimp only at h0 h1 h2 h3 hbd
  obtain ⟨m1, m2, m3⟩ := sq_nums h0 h1 h2 h3 r0 r1
  have hcall := hide (fun w => lowest_pos (p1 * p1) (p2 * p2 * r) w (by omega) (by omega) (by omega) (by omega))
  have eN : Fr.mkN (p1 * p1) (p2 * p2 * r) = (Fd.sq (p1, p2) r).1 := rfl
  have eD : Fr.mkD (p1 * p1) (p2 * p2 * r) = (Fd.sq (p1, p2) r).2 := rfl
  rw [eN, eD] at hcall
  generalize Fd.sq (p1, p2) r = s at *
  obtain ⟨s1, s2⟩ := s
  dsimp only at hcall
  clear hbd eN eD
  have hB0 : Below w.heap.size w ((w.alloc (.cells #[.int .i64 p1, .int .i64 p2] 27)).alloc (.cells #[.int .i64 0, .int .i64 0] 27)) := ((Below.refl _ _).alloc (Nat.le_refl _) _).alloc (by simp) _
  go_enter Try.func43, Try.ntmps43
  go_wp2_with fail
  refine (hcall.out _).mono ?_
  rintro e w1 ⟨rfl, hb1⟩
  go_wp2_with fail
  refine (only_yes s1 s2 _ HG.out).mono ?_
  rintro e w2 ⟨rfl, hb2⟩
  have hb3 := hb1.trans (hb2.mono hb1.size)
  obtain ⟨hc3, hf3⟩ := bcell hb3
  have hs3 := hb3.size
  simp only [World.size_alloc] at hs3
  have z0 : w2.cell? ⟨w.heap.size + 1, 0, none⟩ = some (.int .i64 0) := (hc3 _ _ (by simp)).trans (by simp)
  have z1 : w2.cell? ⟨w.heap.size + 1, 1, none⟩ = some (.int .i64 0) := (hc3 _ _ (by simp)).trans (by simp)
  have y0 : w2.frozen? ⟨w.heap.size + 1, 0, none⟩ = false := (hf3 _ _ (by simp)).trans (by simp [go_sem])
  have y1 : w2.frozen? ⟨w.heap.size + 1, 1, none⟩ = false := (hf3 _ _ (by simp)).trans (by simp [go_sem])
  have hB2 := hB0.trans (hb3.mono (by simp; omega))
  clear hc3 hf3 hb1 hb2 hb3 hB0
  go_wp2_with fail
  exact bodyPost_ret (v := fb (s1, s2) true) (by simp [results, Try.results43, go_sem, fb, *]) rfl ⟨rfl, (hB2.setCell (by simp) _).setCell (by simp) _⟩
def leastB (fs : List Int) (r f : Int) : Bool := Fd.roomB fs r && Pf.inB f 1 100
def leastLo (fs : List Int) (r f : Int) : Int × Int := if leastB fs r f = true then Fd.sq (Fd.leastP fs f.toNat) r else (0, 0)
def leastHi (fs : List Int) (r f : Int) : Int × Int := if leastB fs r f = true then Fd.sq (Fd.leastQ fs f.toNat) r else (0, 0)
theorem least_facts {fs : List Int} {f : Nat} (hf : Sh.flowB fs = true) (f0 : 0 < f) (f1 : f ≤ 100) : (0 ≤ (Fd.leastP fs f).1 ∧ (Fd.leastP fs f).1 ≤ 8000 ∧ 1 ≤ (Fd.leastP fs f).2 ∧ (Fd.leastP fs f).2 ≤ 100) ∧ (0 ≤ (Fd.leastQ fs f).1 ∧ (Fd.leastQ fs f).1 ≤ 8000 ∧ 1 ≤ (Fd.leastQ fs f).2 ∧ (Fd.leastQ fs f).2 ≤ 100) := by
  obtain ⟨h1, h2⟩ := Fd.sums_le hf f0 f1
  obtain ⟨a0, a1, a2, a3, _⟩ := Fd.part_facts (m := (Fd.los f fs).sum) f0 f1 (by omega)
  obtain ⟨b0, b1, b2, b3, _⟩ := Fd.part_facts (m := (Fd.his f fs).sum) f0 f1 h2
  exact ⟨⟨a0, a1, a2, a3⟩, ⟨b0, b1, b2, b3⟩⟩
theorem least_good {fs : List Int} {f : Nat} {r : Int} (hf : Sh.flowB fs = true) (f0 : 0 < f) (f1 : f ≤ 100) (r0 : 8 ≤ r) (r1 : r ≤ 1000) : goodBd (Fd.sq (Fd.leastP fs f) r).1 (Fd.sq (Fd.leastP fs f) r).2 (Fd.sq (Fd.leastQ fs f) r).1 (Fd.sq (Fd.leastQ fs f) r).2 = true := by
  obtain ⟨⟨a0, a1, a2, a3⟩, ⟨b0, b1, b2, b3⟩⟩ := least_facts hf f0 f1
  have g1 := Fd.sq_good a0 a1 a2 a3 r0 r1
  have g2 := Fd.sq_good b0 b1 b2 b3 r0 r1
  have hl : Sh.less (Fd.sq (Fd.leastQ fs f) r) (Fd.sq (Fd.leastP fs f) r) = false := Fd.sq_less f0 f1 (Fd.sums_le hf f0 f1).1 (Fd.sums_le hf f0 f1).2 r0 r1
  have hn : 0 ≤ (Fd.sq (Fd.leastP fs f) r).1 := by
    have hb := Fd.sq_bd a0 a1 a2 a3 r0 r1
    have := Fr.mkN_neg_iff ((Fd.leastP fs f).1 * (Fd.leastP fs f).1) ((Fd.leastP fs f).2 * (Fd.leastP fs f).2 * r) (by omega)
    show 0 ≤ Fr.mkN ((Fd.leastP fs f).1 * (Fd.leastP fs f).1) ((Fd.leastP fs f).2 * (Fd.leastP fs f).2 * r)
    omega
  unfold goodBd
  unfold Sh.goodF at g1 g2
  unfold Sh.less at hl
  rw [g1, g2, hl]
  simp [hn]
theorem lc_turn {w w3 : World} {P1 P2 Q1 Q2 : Int} {o : Obj} (hB : Below w.heap.size w w3) (hz : w.heap.size < w3.heap.size) :
    Below w.heap.size w (((((w3.setCell ⟨w.heap.size, 0, none⟩ (.int .i64 P1)).setCell ⟨w.heap.size, 1, none⟩ (.int .i64 P2)).setCell ⟨w.heap.size, 2, none⟩ (.int .i64 Q1)).setCell ⟨w.heap.size, 3, none⟩ (.int .i64 Q2)).alloc o) := by
  have hbs := (((hB.setCell (p := ⟨w.heap.size, 0, none⟩) (Nat.le_refl _) (.int .i64 P1)).setCell (p := ⟨w.heap.size, 1, none⟩) (Nat.le_refl _) (.int .i64 P2)).setCell (p := ⟨w.heap.size, 2, none⟩) (Nat.le_refl _) (.int .i64 Q1)).setCell (p := ⟨w.heap.size, 3, none⟩) (Nat.le_refl _) (.int .i64 Q2)
  exact hbs.alloc (by simp; omega) o

set_option maxRecDepth 100000 in
set_option maxHeartbeats 1000000 in
theorem lc_bad1 {a : Option Addr} {n c : Nat} {r f : Int} {fs : List Int} {w : World} (h : Hid (ARow w a fs)) (hn : Hid (fs.length = n)) (hk : Hid (Fd.roomB fs r = false)) :
    Calls Try.prog 9 #[.slice a n c, .int .i64 r, .int .i64 f] w fun e w' => e = .returned (bv (0, 0) (0, 0) false) ∧ Below w.heap.size w w' := by
  go_enter Try.func9, Try.ntmps9
  go_wp2_with (go_at_call 40; refine (room_eq (hide (h.out.alloc _)) hn hk).mono ?_; rintro e w1 ⟨rfl, rfl⟩)
  exact bodyPost_ret (v := bv (0, 0) (0, 0) false) (by simp [results, Try.results9, go_sem, bv]) rfl ⟨rfl, (Below.refl _ _).alloc (Nat.le_refl _) _⟩
set_option maxRecDepth 100000 in
set_option maxHeartbeats 1000000 in
theorem lc_bad2 {a : Option Addr} {n c : Nat} {r f : Int} {fs : List Int} {w : World} (h : Hid (ARow w a fs)) (hn : Hid (fs.length = n)) (hk : Hid (Fd.roomB fs r = true)) (hf : Hid (Pf.inB f 1 100 = false)) :
    Calls Try.prog 9 #[.slice a n c, .int .i64 r, .int .i64 f] w fun e w' => e = .returned (bv (0, 0) (0, 0) false) ∧ Below w.heap.size w w' := by
  go_enter Try.func9, Try.ntmps9
  go_wp2_with (first
    | (go_at_call 40; refine (room_eq (hide (h.out.alloc _)) hn hk).mono ?_; rintro e w1 ⟨rfl, rfl⟩)
    | (go_at_call 41; refine (between_eq hf.out).mono ?_; rintro e w1 ⟨rfl, rfl⟩))
  exact bodyPost_ret (v := bv (0, 0) (0, 0) false) (by simp [results, Try.results9, go_sem, bv]) rfl ⟨rfl, (Below.refl _ _).alloc (Nat.le_refl _) _⟩
set_option maxRecDepth 100000 in
set_option maxHeartbeats 4000000 in
theorem lc_yes {a : Option Addr} {n c f : Nat} {r : Int} {fs : List Int} {w : World} (h : Hid (ARow w a fs)) (hn : Hid (fs.length = n)) (hk : Hid (Fd.roomB fs r = true)) (f0 : 0 < f) (f1 : f ≤ 100) :
    Calls Try.prog 9 #[.slice a n c, .int .i64 r, .int .i64 f] w fun e w' => e = .returned (bv (Fd.sq (Fd.leastP fs f) r) (Fd.sq (Fd.leastQ fs f) r) true) ∧ Below w.heap.size w w' := by
  have HI : Hid (Pf.inB (f : Int) 1 100 = true) := hide (Pf.inB_of (by omega) (by omega))
  obtain ⟨hf, r0, r1⟩ := Fd.roomB_yes hk.out
  have HF := hide hf
  obtain ⟨⟨a0, a1, a2, a3⟩, ⟨b0, b1, b2, b3⟩⟩ := least_facts hf f0 f1
  have C1 := hide (fun w => so5_any (p := Fd.leastP fs f) (r := r) (w := w) a0 a1 a2 a3 r0 r1)
  have C2 := hide (fun w => so5_any (p := Fd.leastQ fs f) (r := r) (w := w) b0 b1 b2 b3 r0 r1)
  have C0 := hide (fun (o : Obj) => sor_any (w := w.alloc o) (c := c) (hide (h.out.alloc o)) hn HF f0 f1)
  generalize Fd.sq (Fd.leastP fs f) r = s at *
  generalize Fd.sq (Fd.leastQ fs f) r = t at *
  generalize Fd.leastP fs f = p at *
  generalize Fd.leastQ fs f = q at *
  obtain ⟨p1, p2⟩ := p
  obtain ⟨q1, q2⟩ := q
  obtain ⟨s1, s2⟩ := s
  obtain ⟨t1, t2⟩ := t
  rw [bv_eq] at C0
  rw [fb_eq] at C1 C2
  dsimp only at C0 C1 C2
  clear hf a0 a1 a2 a3 b0 b1 b2 b3
  go_enter Try.func9, Try.ntmps9
  go_wp2_with (first
    | (go_at_call 40; refine (room_eq (hide (h.out.alloc _)) hn hk).mono ?_; rintro e w1 ⟨rfl, rfl⟩)
    | (go_at_call 41; refine (between_eq HI.out).mono ?_; rintro e w1 ⟨rfl, rfl⟩))
  refine (C0.out _).mono ?_
  rintro e w1 ⟨rfl, hb1⟩
  have HR1 := hide ((Four.new w 0 0 0 0 32).below hb1 (by simp))
  have hB1 : Below w.heap.size w w1 := ((Below.refl _ _).alloc (Nat.le_refl _) _).trans (hb1.mono (by simp))
  have HV1 := hide (Four.new w1 p1 p2 q1 q2 32)
  have hba : Below w1.heap.size w1 (w1.alloc (.cells #[.int .i64 p1, .int .i64 p2, .int .i64 q1, .int .i64 q2] 32)) := (Below.refl _ _).alloc (Nat.le_refl _) _
  have HR2 := hide (HR1.out.below hba HR1.out.2.2.2.2.2.2.2.2)
  have hz1 : w.heap.size < w1.heap.size := HR1.out.2.2.2.2.2.2.2.2
  have hB2 := hB1.trans (hba.mono (by omega))
  clear hb1 HR1 hB1 hba C0
  go_wp2_with fail
  generalize w1.alloc (.cells #[.int .i64 p1, .int .i64 p2, .int .i64 q1, .int .i64 q2] 32) = W1 at *
  generalize w1.heap.size = V at *
  refine (C1.out _).mono ?_
  rintro e w2 ⟨rfl, hb2⟩
  have HV2 := hide (HV1.out.below hb2 HV1.out.2.2.2.2.2.2.2.2)
  have HR3 := hide (HR2.out.below hb2 HR2.out.2.2.2.2.2.2.2.2)
  have hB3 := hB2.trans (hb2.mono (Nat.le_of_lt HR2.out.2.2.2.2.2.2.2.2))
  clear HV1 HR2 hB2 hb2 C1
  obtain ⟨v0, v1, v2, v3, _, _, _, _, v8⟩ := HV2.out
  go_wp2_with fail
  refine (C2.out _).mono ?_
  rintro e w3 ⟨rfl, hb3⟩
  obtain ⟨hc3, _⟩ := bcell hb3
  have hs3 := hb3.size
  simp only [World.size_alloc] at hs3
  have e0 : w3.cell? ⟨w2.heap.size, 0, none⟩ = some (.int .i64 s1) := (hc3 _ _ (by simp)).trans (by simp)
  have e1 : w3.cell? ⟨w2.heap.size, 1, none⟩ = some (.int .i64 s2) := (hc3 _ _ (by simp)).trans (by simp)
  have hb3' : Below w2.heap.size w2 w3 := ((Below.refl _ _).alloc (Nat.le_refl _) _).trans (hb3.mono (by simp))
  have HR4 := hide (HR3.out.below hb3' HR3.out.2.2.2.2.2.2.2.2)
  have hB4 := hB3.trans (hb3'.mono (Nat.le_of_lt HR3.out.2.2.2.2.2.2.2.2))
  have l3 : w2.heap.size < w3.heap.size := by omega
  clear v0 v1 v2 v3 HV2 HR3 hB3 hb3 hb3' hc3 C2
  obtain ⟨z0, z1, z2, z3, y0, y1, y2, y3, z9⟩ := HR4.out
  go_wp2_with fail
  have hfin := lc_turn (P1 := s1) (P2 := s2) (Q1 := t1) (Q2 := t2) (o := .cells #[.int .i64 t1, .int .i64 t2] 27) hB4 z9
  exact bodyPost_ret (v := bv (s1, s2) (t1, t2) true) (by simp [results, Try.results9, go_sem, bv, *]) rfl ⟨rfl, hfin⟩
theorem lc_any {a : Option Addr} {n c : Nat} {r f : Int} {fs : List Int} {w : World} (h : Hid (ARow w a fs)) (hn : Hid (fs.length = n)) :
    Calls Try.prog 9 #[.slice a n c, .int .i64 r, .int .i64 f] w fun e w' => e = .returned (bv (leastLo fs r f) (leastHi fs r f) (leastB fs r f)) ∧ Below w.heap.size w w' := by
  unfold leastLo leastHi leastB
  cases h1 : Fd.roomB fs r
  · exact lc_bad1 h hn (hide h1)
  · cases h2 : Pf.inB f 1 100
    · exact lc_bad2 h hn (hide h1) (hide h2)
    · have := Pf.inB_yes h2
      obtain ⟨F, rfl⟩ := Int.eq_ofNat_of_zero_le (show 0 ≤ f by omega)
      exact lc_yes h hn (hide h1) (by omega) (by omega)
end Go.Proofs.Ytmhednkbpniphaa
