/-
  What SumBounds of the model answers of bounds that are parts of one number.
-/
import Derived.Test.YtmhednkbpniphaaUr
import Derived.Test.YtmhednkbpniphaaBase
import Derived.Test.YtmhednkbpniphaaMath2
namespace Go.Proofs.Ytmhednkbpniphaa
open Go.RowKit

/-- Parts of one number add up. -/
theorem add_parts {f a b : Nat} (f0 : 0 < f) (f1 : f ≤ 100) (ha : a ≤ 8000) (hb : b ≤ 1000) : Fr.addN (Sh.mk (a : Int) f).1 (Sh.mk (a : Int) f).2 (Sh.mk (b : Int) f).1 (Sh.mk (b : Int) f).2 = (Sh.mk ((a + b : Nat) : Int) f).1 ∧ Fr.addD (Sh.mk (a : Int) f).1 (Sh.mk (a : Int) f).2 (Sh.mk (b : Int) f).1 (Sh.mk (b : Int) f).2 = (Sh.mk ((a + b : Nat) : Int) f).2 ∧ Fr.addB (Sh.mk (a : Int) f).1 (Sh.mk (a : Int) f).2 (Sh.mk (b : Int) f).1 (Sh.mk (b : Int) f).2 = true := by
  have g1 : Sh.goodF (Sh.mk (a : Int) f) = true := Sh.mk_good (by omega) (by omega) (by omega) (by omega)
  have g2 : Sh.goodF (Sh.mk (b : Int) f) = true := Sh.mk_good (by omega) (by omega) (by omega) (by omega)
  have g3 : Sh.goodF (Sh.mk ((a + b : Nat) : Int) f) = true := Sh.mk_good (by omega) (by omega) (by omega) (by omega)
  obtain ⟨p1, p2, e1, h1, hp2, _⟩ := Lg.mk_nat (m := a) f0
  obtain ⟨q1, q2, e2, h2, hq2, _⟩ := Lg.mk_nat (m := b) f0
  obtain ⟨r1, r2, e3, h3, hr2, _⟩ := Lg.mk_nat (m := a + b) f0
  rw [e1] at g1
  rw [e2] at g2
  rw [e3] at g3
  unfold Sh.goodF at g1 g2 g3
  rw [e1, e2, e3]
  have hc : (p1 * q2 + q1 * p2) * r2 = r1 * (p2 * q2) := by
    apply Nat.eq_of_mul_eq_mul_right f0
    have x1 : (p1 * q2 + q1 * p2) * f = (a + b) * (p2 * q2) := by
      have y1 : p1 * q2 * f = p1 * f * q2 := by ac_rfl
      have y2 : q1 * p2 * f = q1 * f * p2 := by ac_rfl
      rw [Nat.add_mul, y1, y2, h1, h2, Nat.add_mul]; ac_rfl
    have x2 : (p1 * q2 + q1 * p2) * r2 * f = (p1 * q2 + q1 * p2) * f * r2 := by ac_rfl
    have x3 : r1 * (p2 * q2) * f = r1 * f * (p2 * q2) := by ac_rfl
    rw [x2, x3, x1, h3]; ac_rfl
  have hy : ((p2 : Int) * (q2 : Int)) ≠ 0 := by
    have := Int.mul_pos (show (0 : Int) < (p2 : Int) by omega) (show (0 : Int) < (q2 : Int) by omega)
    omega
  obtain ⟨m1, m2⟩ := Fr.mk_eq (r1 : Int) (r2 : Int) ((p1 : Int) * (q2 : Int) + (q1 : Int) * (p2 : Int)) ((p2 : Int) * (q2 : Int)) g3 hy (by exact_mod_cast hc)
  dsimp only at g1 g2 g3 ⊢
  unfold Fr.addN Fr.addD Fr.addB Fr.fitN Fr.fitD
  rw [m1, m2, g1, g2, g3]
  simp
/-- Bounds in a variable that may be written. -/
def Four (w : World) (x : Nat) (a b c d : Int) : Prop := w.cell? ⟨x, 0, none⟩ = some (.int .i64 a) ∧ w.cell? ⟨x, 1, none⟩ = some (.int .i64 b) ∧ w.cell? ⟨x, 2, none⟩ = some (.int .i64 c) ∧ w.cell? ⟨x, 3, none⟩ = some (.int .i64 d) ∧ w.frozen? ⟨x, 0, none⟩ = false ∧ w.frozen? ⟨x, 1, none⟩ = false ∧ w.frozen? ⟨x, 2, none⟩ = false ∧ w.frozen? ⟨x, 3, none⟩ = false ∧ x < w.heap.size
theorem Four.below {w w' : World} {x k : Nat} {a b c d : Int} (h : Four w x a b c d) (hb : Below k w w') (hk : x < k) : Four w' x a b c d := by
  obtain ⟨h0, h1, h2, h3, h4, h5, h6, h7, h8⟩ := h
  exact ⟨(hb.cell (p := ⟨x, 0, none⟩) hk).trans h0, (hb.cell (p := ⟨x, 1, none⟩) hk).trans h1, (hb.cell (p := ⟨x, 2, none⟩) hk).trans h2, (hb.cell (p := ⟨x, 3, none⟩) hk).trans h3, (hb.frozen (p := ⟨x, 0, none⟩) hk).trans h4, (hb.frozen (p := ⟨x, 1, none⟩) hk).trans h5, (hb.frozen (p := ⟨x, 2, none⟩) hk).trans h6, (hb.frozen (p := ⟨x, 3, none⟩) hk).trans h7, Nat.lt_of_lt_of_le h8 hb.size⟩
theorem Four.new (w : World) (a b c d : Int) (t : TypeId) : Four (w.alloc (.cells #[.int .i64 a, .int .i64 b, .int .i64 c, .int .i64 d] t)) w.heap.size a b c d := by
  refine ⟨?_, ?_, ?_, ?_, ?_, ?_, ?_, ?_, ?_⟩ <;> simp [go_sem]
theorem Four.set {w : World} {x : Nat} {a b c d : Int} (h : Four w x a b c d) (a' b' c' d' : Int) : Four ((((w.setCell ⟨x, 0, none⟩ (.int .i64 a')).setCell ⟨x, 1, none⟩ (.int .i64 b')).setCell ⟨x, 2, none⟩ (.int .i64 c')).setCell ⟨x, 3, none⟩ (.int .i64 d')) x a' b' c' d' := by
  obtain ⟨h0, h1, h2, h3, h4, h5, h6, h7, h8⟩ := h
  refine ⟨?_, ?_, ?_, ?_, ?_, ?_, ?_, ?_, ?_⟩ <;> simp [go_sem, *]
theorem mk_zero {f : Nat} (f0 : 0 < f) : Sh.mk ((0 : Nat) : Int) f = (0, 1) := by
  obtain ⟨a, b, e, h1, h2, _, _, hg⟩ := Lg.mk_nat (m := 0) f0
  rw [e]
  have ha : a = 0 := by
    rw [Nat.zero_mul] at h1
    rcases Nat.mul_eq_zero.1 h1 with h | h
    · exact h
    · omega
  subst ha
  rw [Nat.gcd_zero_left] at hg
  subst hg
  rfl
theorem take_sum_nat (xs : List Nat) (k : Nat) (h : k < xs.length) : (xs.take (k + 1)).sum = (xs.take k).sum + xs.getD k 0 := by
  rw [List.take_succ_eq_append_getElem h, List.sum_append, Pf.getD_lt _ _ h]; simp
theorem take_sum_le (xs : List Nat) (h : ∀ k, k < xs.length → xs.getD k 0 ≤ 1000) : ∀ k, k ≤ xs.length → (xs.take k).sum ≤ 1000 * k
  | 0, _ => by simp
  | k + 1, hk => by
    have := take_sum_le xs h k (by omega)
    have := h k (by omega)
    rw [take_sum_nat xs k (by omega)]
    omega
theorem sum_turn {w w3 : World} {a b c d P1 P2 Q1 Q2 : Int} {o : Obj} (hF : Four w3 (w.heap.size + 1) a b c d) (hR : Four w3 w.heap.size 0 0 0 0) (hB : Below w.heap.size w w3) :
    Four (((((w3.setCell ⟨w.heap.size + 1, 0, none⟩ (.int .i64 P1)).setCell ⟨w.heap.size + 1, 1, none⟩ (.int .i64 P2)).setCell ⟨w.heap.size + 1, 2, none⟩ (.int .i64 Q1)).setCell ⟨w.heap.size + 1, 3, none⟩ (.int .i64 Q2)).alloc o) (w.heap.size + 1) P1 P2 Q1 Q2 ∧
    Four (((((w3.setCell ⟨w.heap.size + 1, 0, none⟩ (.int .i64 P1)).setCell ⟨w.heap.size + 1, 1, none⟩ (.int .i64 P2)).setCell ⟨w.heap.size + 1, 2, none⟩ (.int .i64 Q1)).setCell ⟨w.heap.size + 1, 3, none⟩ (.int .i64 Q2)).alloc o) w.heap.size 0 0 0 0 ∧
    Below w.heap.size w (((((w3.setCell ⟨w.heap.size + 1, 0, none⟩ (.int .i64 P1)).setCell ⟨w.heap.size + 1, 1, none⟩ (.int .i64 P2)).setCell ⟨w.heap.size + 1, 2, none⟩ (.int .i64 Q1)).setCell ⟨w.heap.size + 1, 3, none⟩ (.int .i64 Q2)).alloc o) := by
  have hS := hF.set P1 P2 Q1 Q2
  have hbs : Below (w.heap.size + 1) w3 ((((w3.setCell ⟨w.heap.size + 1, 0, none⟩ (.int .i64 P1)).setCell ⟨w.heap.size + 1, 1, none⟩ (.int .i64 P2)).setCell ⟨w.heap.size + 1, 2, none⟩ (.int .i64 Q1)).setCell ⟨w.heap.size + 1, 3, none⟩ (.int .i64 Q2)) :=
    ((((Below.refl (w.heap.size + 1) w3).setCell (p := ⟨w.heap.size + 1, 0, none⟩) (Nat.le_refl _) (.int .i64 P1)).setCell (p := ⟨w.heap.size + 1, 1, none⟩) (Nat.le_refl _) (.int .i64 P2)).setCell (p := ⟨w.heap.size + 1, 2, none⟩) (Nat.le_refl _) (.int .i64 Q1)).setCell (p := ⟨w.heap.size + 1, 3, none⟩) (Nat.le_refl _) (.int .i64 Q2)
  have hz := hS.2.2.2.2.2.2.2.2
  generalize (((w3.setCell ⟨w.heap.size + 1, 0, none⟩ (.int .i64 P1)).setCell ⟨w.heap.size + 1, 1, none⟩ (.int .i64 P2)).setCell ⟨w.heap.size + 1, 2, none⟩ (.int .i64 Q1)).setCell ⟨w.heap.size + 1, 3, none⟩ (.int .i64 Q2) = W at *
  have hba : Below W.heap.size W (W.alloc o) := (Below.refl _ _).alloc (Nat.le_refl _) _
  exact ⟨hS.below hba hz, (hR.below hbs (Nat.lt_succ_self _)).below hba (by omega), (hB.trans (hbs.mono (Nat.le_succ _))).trans (hba.mono (by omega))⟩

set_option maxRecDepth 100000 in
set_option maxHeartbeats 4000000 in
theorem ssumB_any {g n cap f : Nat} {ms hs : List Nat} {w : World} (hr : Hid (Row4 w g (bnds f ms hs))) (hn : Hid (ms.length = n)) (hn' : Hid (hs.length = n)) (hg : g < w.heap.size) (n8 : n ≤ 8) (f0 : 0 < f) (f1 : f ≤ 100) (hm : Hid (∀ k, k < n → ms.getD k 0 ≤ hs.getD k 0)) (hh : Hid (∀ k, k < n → hs.getD k 0 ≤ 1000)) :
    Calls Try.prog 55 #[.slice (some ⟨g, 0, none⟩) n cap] w fun e w' => e = .returned (.tuple #[.agg #[.int .i64 (Sh.mk (ms.sum : Int) f).1, .int .i64 (Sh.mk (ms.sum : Int) f).2, .int .i64 (Sh.mk (hs.sum : Int) f).1, .int .i64 (Sh.mk (hs.sum : Int) f).2], .bool true]) ∧ Below w.heap.size w w' := by
  have h20 : ¬ (20 : Int) < (n : Int) := by omega
  have HZ := hide (mk_zero f0)
  go_enter Try.func55, Try.ntmps55
  go_wp2_with fail
  go_loopw [3, 6, 7, 8, 9, 10, 20] (fun s3 _ _ _ _ _ s wr => ∃ k : Nat, s3 = .bool false ∧ s = .int .i64 k ∧ k ≤ n ∧ Hid (Four wr (w.heap.size + 1) (Sh.mk ((ms.take k).sum : Int) f).1 (Sh.mk ((ms.take k).sum : Int) f).2 (Sh.mk ((hs.take k).sum : Int) f).1 (Sh.mk ((hs.take k).sum : Int) f).2) ∧ Hid (Four wr w.heap.size 0 0 0 0) ∧ Below w.heap.size w wr) (fun _ _ _ _ _ _ s _ => n - (intOf s).toNat)
  case atStart =>
    refine ⟨0, rfl, rfl, Nat.zero_le _, hide ?_, hide ?_, ((Below.refl _ _).alloc (Nat.le_refl _) _).alloc (by simp) _⟩
    · have h := Four.new (w.alloc (.cells #[.int .i64 0, .int .i64 0, .int .i64 0, .int .i64 0] 32)) 0 1 0 1 32
      simp only [List.take_zero, List.sum_nil, HZ.out]
      simpa using h
    · exact (Four.new w 0 0 0 0 32).below ((Below.refl _ _).alloc (Nat.le_refl _) _) (by simp)
  case round =>
    obtain ⟨k, rfl, rfl, hk, HF, HR, hB⟩ := hrel
    by_cases hlt : k < n
    · obtain ⟨r0, r1, r2, r3⟩ := (hr.out.below hB hg) k (by rw [bnds_len, hn.out]; exact hlt)
      rw [bnds_at f ms hs (by rw [hn.out]; exact hlt)] at r0 r1 r2 r3
      have j0 : (0 : Int) ≤ (k : Int) := by omega
      have j1 : (k : Int) < (n : Int) := by omega
      have HG := hide (bnds_good f0 f1 (hm.out k hlt) (hh.out k hlt))
      have q1 := take_sum_le ms (fun j hj => Nat.le_trans (hm.out j (by rw [← hn.out]; exact hj)) (hh.out j (by rw [← hn.out]; exact hj))) k (by rw [hn.out]; omega)
      have q2 := take_sum_le hs (fun j hj => hh.out j (by rw [← hn'.out]; exact hj)) k (by rw [hn'.out]; omega)
      have A1 := hide (add_parts f0 f1 (a := (ms.take k).sum) (b := ms.getD k 0) (by omega) (Nat.le_trans (hm.out k hlt) (hh.out k hlt)))
      have A2 := hide (add_parts f0 f1 (a := (hs.take k).sum) (b := hs.getD k 0) (by omega) (hh.out k hlt))
      rw [← take_sum_nat ms k (by rw [hn.out]; exact hlt)] at A1
      rw [← take_sum_nat hs k (by rw [hn'.out]; exact hlt)] at A2
      generalize Sh.mk (ms.getD k 0 : Int) f = p at *
      generalize Sh.mk (hs.getD k 0 : Int) f = q at *
      generalize Sh.mk ((ms.take k).sum : Int) f = P at *
      generalize Sh.mk ((hs.take k).sum : Int) f = Q at *
      generalize hP' : Sh.mk ((ms.take (k + 1)).sum : Int) f = P' at *
      generalize hQ' : Sh.mk ((hs.take (k + 1)).sum : Int) f = Q' at *
      have HPQ := hide (And.intro hP' hQ')
      obtain ⟨a, b⟩ := p
      obtain ⟨c, d⟩ := q
      obtain ⟨P1, P2⟩ := P
      obtain ⟨Q1, Q2⟩ := Q
      obtain ⟨P1', P2'⟩ := P'
      obtain ⟨Q1', Q2'⟩ := Q'
      have C1 := hide (fun w => sAddF_any P1 P2 a b w)
      have C2 := hide (fun w => sAddF_any Q1 Q2 c d w)
      dsimp only at A1 A2 HF r0 r1 r2 r3 HG
      rw [A1.out.1, A1.out.2.1, A1.out.2.2] at C1
      rw [A2.out.1, A2.out.2.1, A2.out.2.2] at C2
      clear hP' hQ' A1 A2 q1 q2
      have hzz : w.heap.size + 1 < wr.heap.size := HF.out.2.2.2.2.2.2.2.2
      go_wp2_with fail
      refine (sgb_any a b c d _).mono ?_
      rw [HG.out]
      rintro e w1 ⟨rfl, hb1⟩
      obtain ⟨c0, c1, c2, c3, hA⟩ := mk_two wr w1 32 hb1
      have hb1' : Below wr.heap.size wr w1 := ((Below.refl _ _).alloc (Nat.le_refl _) _).trans (hb1.mono (by simp))
      have HF1 := hide (HF.out.below hb1' hzz)
      have HR1 := hide (HR.out.below hb1' (by omega))
      have hB1 := hB.trans (hb1'.mono (by omega))
      obtain ⟨s0, s1, s2, s3, s4, s5, s6, s7, s8⟩ := HF1.out
      clear HF HR hB hb1 hb1' r0 r1 r2 r3 HG
      go_wp2_with fail
      refine (C1.out _).mono ?_
      rintro e w2 ⟨rfl, hb2⟩
      have hs2 := hb2.size
      have HF2 := hide (HF1.out.below hb2 s8)
      have HR2 := hide (HR1.out.below hb2 (by omega))
      have hB2 := hB1.trans (hb2.mono (by omega))
      obtain ⟨hc2, _⟩ := bcell hb2
      have d2 := (hc2 wr.heap.size 2 hA).trans c2
      have d3 := (hc2 wr.heap.size 3 hA).trans c3
      have hA2 : wr.heap.size < w2.heap.size := by omega
      clear s0 s1 s2 s3 s4 s5 s6 s7 c0 c1 c2 c3 HF1 HR1 hB1 hb2 hc2
      obtain ⟨s0, s1, s2, s3, _, _, _, _, t8⟩ := HF2.out
      go_wp2_with fail
      refine (C2.out _).mono ?_
      rintro e w3 ⟨rfl, hb3⟩
      obtain ⟨hc3, hf3⟩ := bcell hb3
      have hs3 := hb3.size
      simp only [World.size_alloc] at hs3
      have hb3' : Below w2.heap.size w2 w3 := ((Below.refl _ _).alloc (Nat.le_refl _) _).trans (hb3.mono (by simp))
      have e0 : w3.cell? ⟨w2.heap.size, 0, none⟩ = some (.int .i64 P1') := (hc3 _ _ (by simp)).trans (by simp)
      have e1 : w3.cell? ⟨w2.heap.size, 1, none⟩ = some (.int .i64 P2') := (hc3 _ _ (by simp)).trans (by simp)
      have HF3 := hide (HF2.out.below hb3' t8)
      have HR3 := hide (HR2.out.below hb3' (by omega))
      have hB3 := hB2.trans (hb3'.mono (by omega))
      clear s0 s1 s2 s3 d2 d3 HF2 HR2 hB2 hb3 hb3' hc3 hf3
      obtain ⟨s0, s1, s2, s3, s4, s5, s6, s7, s9⟩ := HF3.out
      have l3 : w2.heap.size < w3.heap.size := by omega
      go_wp2_with fail
      go_roundw
      case rel =>
        obtain ⟨R1, R2, R3⟩ := sum_turn (P1 := P1') (P2 := P2') (Q1 := Q1') (Q2 := Q2') (o := .cells #[.int .i64 Q1', .int .i64 Q2'] 27) HF3.out HR3.out hB3
        refine ⟨k + 1, rfl, by go_num, hlt, ?_, hide R2, R3⟩
        rw [HPQ.out.1, HPQ.out.2]
        exact hide R1
      case measure => simp only [intOf]; omega
    · have hke : k = n := by omega
      subst hke
      have T1 : Hid (ms.take k = ms) := hide (by rw [List.take_of_length_le]; rw [hn.out]; exact Nat.le_refl _)
      have T2 : Hid (hs.take k = hs) := hide (by rw [List.take_of_length_le]; rw [hn'.out]; exact Nat.le_refl _)
      rw [T1.out, T2.out] at HF
      generalize hp : Sh.mk (ms.sum : Int) f = p at *
      generalize hq : Sh.mk (hs.sum : Int) f = q at *
      obtain ⟨a, b⟩ := p
      obtain ⟨c, d⟩ := q
      have HPQ := hide (And.intro hp hq)
      clear hp hq T1 T2
      obtain ⟨s0, s1, s2, s3, _, _, _, _, s9⟩ := HF.out
      obtain ⟨z0, z1, z2, z3, y0, y1, y2, y3, z9⟩ := HR.out
      go_wp2_with fail
      exact bodyPost_ret (v := .tuple #[.agg #[.int .i64 a, .int .i64 b, .int .i64 c, .int .i64 d], .bool true]) (by simp [results, Try.results55, go_sem, *]) rfl ⟨by rw [HPQ.out.1, HPQ.out.2], ((((hB.setCell (Nat.le_refl _) _).setCell (Nat.le_refl _) _).setCell (Nat.le_refl _) _).setCell (Nat.le_refl _) _)⟩
end Go.Proofs.Ytmhednkbpniphaa
