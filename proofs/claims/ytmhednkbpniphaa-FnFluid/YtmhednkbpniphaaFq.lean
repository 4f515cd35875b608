/-
  Plain facts: no parting of a room costs less than the sum of roots, squared, for the room (Cauchy and Schwarz).
-/
import Derived.Test.YtmhednkbpniphaaFp
import Derived.Test.YtmhednkbpniphaaUb
namespace Go.Proofs.Ytmhednkbpniphaa.Fd

theorem amgm {x y z : Int} (hx : 0 ≤ x) (hy : 0 ≤ y) (h : z * z ≤ x * y) : 2 * z ≤ x + y := by
  rcases Int.lt_or_le (x + y) (2 * z) with q | q
  · exfalso
    have h1 : (x + y) * (x + y) < 2 * z * (2 * z) := Int.lt_of_le_of_lt (Int.mul_le_mul_of_nonneg_left (Int.le_of_lt q) (by omega)) (Int.mul_lt_mul_of_pos_right q (by omega))
    have e1 : 2 * z * (2 * z) = 4 * (z * z) := by
      have : 2 * z * (2 * z) = 2 * 2 * (z * z) := by ac_rfl
      omega
    have e2 : (x + y) * (x + y) = (x - y) * (x - y) + 4 * (x * y) := by grind
    have h2 : 0 ≤ (x - y) * (x - y) := by
      rcases Int.le_total 0 (x - y) with g | g
      · exact Int.mul_nonneg g g
      · exact Int.mul_nonneg_of_nonpos_of_nonpos g g
    omega
  · exact q
/-- One part more. -/
theorem cauchy_step {F M R N Q a f p : Int} (hF : 0 ≤ F) (hQ : 0 < Q) (hN : 0 ≤ N) (hR : 0 ≤ R) (ha : 0 ≤ a) (hf : 0 ≤ f) (hp : 0 < p) (h : M * M * Q ≤ F * F * R * N) (h2 : a * a ≤ f * (F * F)) :
    (M + a) * (M + a) * (Q * p) ≤ F * F * (R + p) * (N * p + f * Q) := by
  have hFF : 0 ≤ F * F := Int.mul_nonneg hF hF
  have x0 : 0 ≤ F * F * (p * p * N) := Int.mul_nonneg hFF (Int.mul_nonneg (Int.mul_nonneg (by omega) (by omega)) hN)
  have y0 : 0 ≤ F * F * (R * f * Q) := Int.mul_nonneg hFF (Int.mul_nonneg (Int.mul_nonneg hR hf) (by omega))
  have k1 : M * M * Q * (a * a) ≤ F * F * R * N * (f * (F * F)) := Int.mul_le_mul h h2 (Int.mul_nonneg ha ha) (Int.mul_nonneg (Int.mul_nonneg hFF hR) hN)
  have k2 : M * M * Q * (a * a) * (p * p * Q) ≤ F * F * R * N * (f * (F * F)) * (p * p * Q) := Int.mul_le_mul_of_nonneg_right k1 (Int.mul_nonneg (Int.mul_nonneg (by omega) (by omega)) (by omega))
  have hz : a * M * p * Q * (a * M * p * Q) ≤ F * F * (p * p * N) * (F * F * (R * f * Q)) := by
    have e1 : a * M * p * Q * (a * M * p * Q) = M * M * Q * (a * a) * (p * p * Q) := by ac_rfl
    have e2 : F * F * (p * p * N) * (F * F * (R * f * Q)) = F * F * R * N * (f * (F * F)) * (p * p * Q) := by ac_rfl
    rw [e1, e2]; exact k2
  have hm := amgm x0 y0 hz
  have k3 : M * M * Q * p ≤ F * F * R * N * p := Int.mul_le_mul_of_nonneg_right h (by omega)
  have k4 : a * a * (Q * p) ≤ f * (F * F) * (Q * p) := Int.mul_le_mul_of_nonneg_right h2 (Int.mul_nonneg (by omega) (by omega))
  have e3 : (M + a) * (M + a) * (Q * p) = M * M * Q * p + 2 * (a * M * p * Q) + a * a * (Q * p) := by grind
  have e4 : F * F * (R + p) * (N * p + f * Q) = F * F * R * N * p + F * F * (R * f * Q) + F * F * (p * p * N) + f * (F * F) * (Q * p) := by grind
  rw [e3, e4]
  omega
/-- One fraction more. -/
theorem value_step {n d N Q f p : Int} (h : n * Q = N * d) (hd : 1 ≤ d) (hp : 0 < p) (hb : Fr.addB n d (Sh.cost f p).1 (Sh.cost f p).2 = true) : Fr.addN n d (Sh.cost f p).1 (Sh.cost f p).2 * (Q * p) = (N * p + f * Q) * Fr.addD n d (Sh.cost f p).1 (Sh.cost f p).2 ∧ 1 ≤ Fr.addD n d (Sh.cost f p).1 (Sh.cost f p).2 := by
  obtain ⟨G, hG, e1, e2, _⟩ := Sh.mk_facts f p hp
  unfold Sh.cost at *
  generalize Sh.mk f p = s at *
  obtain ⟨s1, s2⟩ := s
  dsimp only at *
  unfold Fr.addB at hb
  simp only [Bool.and_eq_true] at hb
  obtain ⟨⟨g1, g2⟩, g3⟩ := hb
  have b2 := Fr.good_bd _ _ g2
  have b3 := Fr.good_bd _ _ g3
  have hdd : 0 < d * s2 := Int.mul_pos (by omega) (by omega)
  have hc := Fr.mk_cross (n * s2 + s1 * d) (d * s2) (by omega)
  have eN : Fr.addN n d s1 s2 = Fr.mkN (n * s2 + s1 * d) (d * s2) := by unfold Fr.addN Fr.fitN; rw [g1, g2, g3]; simp
  have eD : Fr.addD n d s1 s2 = Fr.mkD (n * s2 + s1 * d) (d * s2) := by unfold Fr.addD Fr.fitD; rw [g1, g2, g3]; simp
  rw [eN, eD]
  refine ⟨?_, b3.2.2.1⟩
  generalize Fr.mkN (n * s2 + s1 * d) (d * s2) = u at *
  generalize Fr.mkD (n * s2 + s1 * d) (d * s2) = v at *
  apply Int.eq_of_mul_eq_mul_right (a := d * s2) (by omega)
  have x1 : u * (Q * p) * (d * s2) = u * (d * s2) * (Q * p) := by ac_rfl
  rw [x1, hc]
  have x2 : (n * s2 + s1 * d) * v * (Q * p) = (n * Q * s2 * p + s1 * p * (d * Q)) * v := by grind
  have x3 : s1 * p = f * s2 := by rw [e1, e2]; ac_rfl
  rw [x2, h, x3]
  grind
theorem cauchy_fold {F : Nat} (f0 : 0 < F) (f1 : F ≤ 100) : ∀ (l : List (Int × Int)) (n d N Q M R n' d' : Int), (∀ x ∈ l, (1 ≤ x.1 ∧ x.1 ≤ 30) ∧ 1 ≤ x.2) → n * Q = N * d → 1 ≤ d → 0 < Q → 0 ≤ N → 0 ≤ M → 0 ≤ R → M * M * Q ≤ F * F * R * N → Fr.sumL (l.map fun x => Sh.cost x.1 x.2) n d = some (n', d') →
    ∃ N' Q', n' * Q' = N' * d' ∧ 0 < Q' ∧ 0 ≤ N' ∧ (M + ((l.map fun x => (lo F x.1 : Nat)).sum : Nat)) * (M + ((l.map fun x => (lo F x.1 : Nat)).sum : Nat)) * Q' ≤ F * F * (R + (l.map fun x => x.2).sum) * N'
  | [], n, d, N, Q, M, R, n', d', _, h1, _, h3, h4, _, _, h7, hs => by
    simp only [List.map_nil, Fr.sumL, Option.some.injEq, Prod.mk.injEq] at hs
    obtain ⟨rfl, rfl⟩ := hs
    exact ⟨N, Q, h1, h3, h4, by simpa using h7⟩
  | (f, p) :: l, n, d, N, Q, M, R, n', d', hl, h1, h2, h3, h4, h5, h6, h7, hs => by
    obtain ⟨⟨fa, fb⟩, pa⟩ := hl (f, p) (by simp)
    dsimp only at fa fb pa
    simp only [List.map_cons, Fr.sumL] at hs
    split at hs
    · rename_i hb
      obtain ⟨v1, v2⟩ := value_step h1 h2 (by omega) hb
      have hlo := lo_facts fa fb f0 f1
      have hxf := xff_bd fa fb f0 f1
      obtain ⟨r0, r1, _⟩ := Rt.rt_spec (f * F * F) (by omega)
      rw [← hlo.1] at r1
      have hsq : (lo F f : Int) * (lo F f : Int) ≤ f * ((F : Int) * F) := by rw [← Int.mul_assoc]; exact r1
      have st := cauchy_step (F := (F : Int)) (a := (lo F f : Int)) (f := f) (p := p) (by omega) h3 h4 h6 (by omega) (by omega) (by omega) h7 hsq
      have q0 : 0 < Q * p := Int.mul_pos h3 (by omega)
      have n0 : 0 ≤ N * p + f * Q := Int.add_nonneg (Int.mul_nonneg h4 (by omega)) (Int.mul_nonneg (by omega) (by omega))
      obtain ⟨N', Q', w1, w2, w3, w4⟩ := cauchy_fold f0 f1 l _ _ (N * p + f * Q) (Q * p) (M + (lo F f : Int)) (R + p) n' d' (fun x hx => hl x (by simp [hx])) v1 v2 q0 n0 (by omega) (by omega) st hs
      refine ⟨N', Q', w1, w2, w3, ?_⟩
      simp only [List.map_cons, List.sum_cons, Int.natCast_add]
      rw [← Int.add_assoc, ← Int.add_assoc]
      exact w4
    · cases hs
theorem sumL_good : ∀ (l : List (Int × Int)) (n d n' d' : Int), Fr.sumL l n d = some (n', d') → Fr.goodB n d = true → Fr.goodB n' d' = true
  | [], n, d, n', d', h, hg => by
    simp only [Fr.sumL, Option.some.injEq, Prod.mk.injEq] at h
    obtain ⟨rfl, rfl⟩ := h
    exact hg
  | x :: l, n, d, n', d', h, _ => by
    simp only [Fr.sumL] at h
    split at h
    · rename_i hb
      refine sumL_good l _ _ _ _ h ?_
      unfold Fr.addB at hb
      simp only [Bool.and_eq_true] at hb
      obtain ⟨⟨g1, g2⟩, g3⟩ := hb
      unfold Fr.addN Fr.addD Fr.fitN Fr.fitD
      rw [g1, g2, g3]
      simpa using g3
    · cases h
theorem each_pairs (fs cs : List Int) (hl : cs.length = fs.length) : Sh.each Sh.cost fs cs = (fs.zip cs).map fun x => Sh.cost x.1 x.2 := by
  apply List.ext_getElem
  · rw [Sh.each_len]; simp [hl]
  · intro i h1 h2
    have h3 : i < fs.length := by rwa [Sh.each_len] at h1
    have e := Sh.each_at Sh.cost fs cs h3
    rw [Pf.getD_lt _ _ h1] at e
    rw [e, Pf.getD_lt _ _ h3, Pf.getD_lt _ _ (by omega)]
    simp
theorem zip_los (F : Nat) : ∀ (fs cs : List Int), cs.length = fs.length → ((fs.zip cs).map fun x => (lo F x.1 : Nat)) = los F fs ∧ ((fs.zip cs).map fun x => x.2) = cs
  | [], [], _ => by simp [los]
  | f :: fs, c :: cs, h => by
    have := zip_los F fs cs (by simpa using h)
    simp only [List.zip_cons_cons, List.map_cons, los] at *
    exact ⟨by rw [this.1], by rw [this.2]⟩
end Go.Proofs.Ytmhednkbpniphaa.Fd
namespace Go.Proofs.Ytmhednkbpniphaa
/-- No parting costs less than the least. -/
theorem flu_least {fs ps : List Int} {f : Int} (h : fluB fs ps = true) (h2 : leastB fs ps.sum f = true) : Fr.goodB (fluF fs ps).1 (fluF fs ps).2 = true ∧ Fr.lessB (fluF fs ps).1 (fluF fs ps).2 (leastLo fs ps.sum f).1 (leastLo fs ps.sum f).2 = false := by
  unfold fluB at h
  simp only [Bool.and_eq_true] at h
  obtain ⟨h0, hs⟩ := h
  obtain ⟨hfl, hlen, hall⟩ := Fd.fluidB_yes h0
  obtain ⟨F, rfl, F0, F1, _, r0, r1⟩ := leastB_yes h2
  obtain ⟨e1, _⟩ := least_is h2
  rw [e1]
  have hl8 := (Sh.flowB_yes hfl).2.1
  have hso : ∃ n d, Fr.sumL (Sh.each Sh.cost fs ps) 0 1 = some (n, d) := by
    unfold Fr.sumB at hs
    simp only [Bool.and_eq_true] at hs
    obtain ⟨x, hx⟩ := Option.isSome_iff_exists.1 hs.2
    exact ⟨x.1, x.2, hx⟩
  obtain ⟨n, d, hnd⟩ := hso
  obtain ⟨en, ed, _⟩ := Fr.sum_some _ (by rw [Sh.each_len]; omega) n d hnd
  have eF : fluF fs ps = (n, d) := by unfold fluF; rw [if_pos h0, en, ed]
  rw [eF]
  have hgood : Fr.goodB n d = true := Fd.sumL_good _ _ _ _ _ hnd (by decide)
  refine ⟨hgood, ?_⟩
  rw [Fd.each_pairs fs ps hlen] at hnd
  obtain ⟨N, Q, w1, w2, w3, w4⟩ := Fd.cauchy_fold F0 F1 (fs.zip ps) 0 1 0 1 0 0 n d (fun x hx => by
    obtain ⟨x1, x2⟩ := x
    have hx' := List.of_mem_zip hx
    refine ⟨Fd.flow_mem hfl x1 hx'.1, ?_⟩
    obtain ⟨i, hi, rfl⟩ := List.getElem_of_mem hx'.2
    have := Pf.inB_yes (Pf.allB_get hall hi)
    rw [Pf.getD_lt _ _ hi] at this
    exact this.1) (by omega) (by omega) (by omega) (by omega) (by omega) (by omega) (by omega) hnd
  obtain ⟨z1, z2⟩ := Fd.zip_los F fs ps hlen
  rw [z1, z2, Int.zero_add, Int.zero_add] at w4
  obtain ⟨⟨a0, a1, a2, a3⟩, _⟩ := least_facts hfl F0 F1
  have a4 := (Fd.part_facts (m := (Fd.los F fs).sum) F0 F1 (Nat.le_trans (Fd.sums_le hfl F0 F1).1 (Fd.sums_le hfl F0 F1).2)).2.2.2.2
  have eP : Sh.mk ((Fd.los F fs).sum : Int) F = Fd.leastP fs F := rfl
  rw [eP] at a4
  obtain ⟨_, _, c1, c2⟩ := Fd.sq_bd a0 a1 a2 a3 r0 r1
  generalize Fd.leastP fs F = p at *
  have hc := Fr.mk_cross (p.1 * p.1) (p.2 * p.2 * ps.sum) (by omega)
  have hg : Sh.goodF (Fd.sq p ps.sum) = true := Fd.sq_good a0 a1 a2 a3 r0 r1
  have hgd := Fr.good_bd _ _ hg
  have hdd := Fr.good_bd _ _ hgood
  have eS1 : (Fd.sq p ps.sum).1 = Fr.mkN (p.1 * p.1) (p.2 * p.2 * ps.sum) := rfl
  have eS2 : (Fd.sq p ps.sum).2 = Fr.mkD (p.1 * p.1) (p.2 * p.2 * ps.sum) := rfl
  rw [← eS1, ← eS2] at hc
  generalize Fd.sq p ps.sum = s at *
  obtain ⟨s1, s2⟩ := s
  dsimp only at *
  generalize ps.sum = R at *
  generalize ((Fd.los F fs).sum : Int) = M at *
  unfold Fr.lessB
  simp only [decide_eq_false_iff_not, Int.not_lt]
  have hpos : 0 < p.2 * p.2 * R * (Q * (F * F)) := Int.mul_pos (by omega) (Int.mul_pos w2 (Int.mul_pos (by omega) (by omega)))
  apply Int.le_of_mul_le_mul_right (a := p.2 * p.2 * R * (Q * (F * F))) _ hpos
  have l1 : s1 * d * (p.2 * p.2 * R * (Q * (F * F))) = M * M * Q * (p.2 * p.2 * s2 * d) := by
    have t1 : s1 * d * (p.2 * p.2 * R * (Q * (F * F))) = s1 * (p.2 * p.2 * R) * (d * (Q * (F * F))) := by ac_rfl
    have t2 : p.1 * p.1 * s2 * (d * (Q * (F * F))) = p.1 * F * (p.1 * F) * (s2 * d * Q) := by ac_rfl
    rw [t1, hc, t2, a4]; ac_rfl
  have l2 : n * s2 * (p.2 * p.2 * R * (Q * (F * F))) = F * F * R * N * (p.2 * p.2 * s2 * d) := by
    have t1 : n * s2 * (p.2 * p.2 * R * (Q * (F * F))) = n * Q * (s2 * (p.2 * p.2 * R) * (F * F)) := by ac_rfl
    rw [t1, w1]; ac_rfl
  rw [l1, l2]
  exact Int.mul_le_mul_of_nonneg_right w4 (Int.mul_nonneg (Int.mul_nonneg (Int.mul_nonneg (by omega) (by omega)) (by omega)) (by omega))
end Go.Proofs.Ytmhednkbpniphaa
