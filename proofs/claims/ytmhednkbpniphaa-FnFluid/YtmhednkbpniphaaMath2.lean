/-
  Plain facts on good fractions, of no program: what one operation does, another undoes.
-/
import Derived.Test.YtmhednkbpniphaaBase
namespace Go.Proofs.Ytmhednkbpniphaa.Fr

theorem g_scale (n d k : Int) (h : g n d = 1) : g (n * k) (d * k) = k.natAbs := by
  unfold g at h ⊢
  rw [Int.gcd_mul_right]
  have : Int.gcd n d = 1 := by omega
  rw [this]; simp
theorem mk_scale (n d k : Int) (h : g n d = 1) (hd : 1 ≤ d) (hk : k ≠ 0) : mkN (n * k) (d * k) = n ∧ mkD (n * k) (d * k) = d := by
  unfold mkN mkD
  rw [g_scale n d k h]
  rcases Int.lt_or_le k 0 with h0 | h0
  · have hneg : d * k < 0 := Int.mul_neg_of_pos_of_neg (by omega) h0
    have e : ((k.natAbs : Nat) : Int) = -k := by omega
    rw [if_pos hneg, if_pos hneg, e, ← Int.mul_neg, ← Int.mul_neg]
    exact ⟨Int.mul_tdiv_cancel _ (by omega), Int.mul_tdiv_cancel _ (by omega)⟩
  · have hpos : ¬ d * k < 0 := by have := Int.mul_nonneg (by omega : 0 ≤ d) h0; omega
    have e : ((k.natAbs : Nat) : Int) = k := by omega
    rw [if_neg hpos, if_neg hpos, e]
    exact ⟨Int.mul_tdiv_cancel _ (by omega), Int.mul_tdiv_cancel _ (by omega)⟩
/-- What is alike to a good fraction has it for its lowest terms. -/
theorem mk_eq (n d x y : Int) (h : goodB n d = true) (hy : y ≠ 0) (e : x * d = n * y) : mkN x y = n ∧ mkD x y = d := by
  rw [goodB_iff] at h
  obtain ⟨_, _, hd, _, hg⟩ := h
  have c : Int.gcd d n = 1 := by unfold g at hg; rw [Int.gcd_comm]; omega
  have hdv : d ∣ n * y := by rw [← e]; exact Int.dvd_mul_left _ _
  obtain ⟨k, rfl⟩ := cop_dvd d n y c hdv
  have hk : k ≠ 0 := by intro z; subst z; simp at hy
  have ex : x = n * k := Int.eq_of_mul_eq_mul_right (a := d) (by omega) (by rw [e]; grind)
  subst ex
  exact mk_scale n d k hg hd hk
theorem mk_cross (n d : Int) (h : d ≠ 0) : mkN n d * d = n * mkD n d := by
  obtain ⟨a, ha⟩ := g_dvdl n d
  obtain ⟨b, hb⟩ := g_dvdr n d
  have hg := g_pos n d h
  unfold mkN mkD
  generalize g n d = G at *
  subst ha hb
  split
  · rw [← Int.mul_neg, ← Int.mul_neg, Int.mul_tdiv_cancel_left _ (by omega), Int.mul_tdiv_cancel_left _ (by omega)]; grind
  · rw [Int.mul_tdiv_cancel_left _ (by omega), Int.mul_tdiv_cancel_left _ (by omega)]; grind
theorem add_comm (n1 d1 n2 d2 : Int) : addN n1 d1 n2 d2 = addN n2 d2 n1 d1 ∧ addD n1 d1 n2 d2 = addD n2 d2 n1 d1 ∧ addB n1 d1 n2 d2 = addB n2 d2 n1 d1 := by
  unfold addN addD addB
  rw [Int.add_comm (n1 * d2), Int.mul_comm d1 d2, Bool.and_comm (goodB n1 d1)]
  exact ⟨rfl, rfl, rfl⟩
theorem mul_comm (n1 d1 n2 d2 : Int) : mulN n1 d1 n2 d2 = mulN n2 d2 n1 d1 ∧ mulD n1 d1 n2 d2 = mulD n2 d2 n1 d1 ∧ mulB n1 d1 n2 d2 = mulB n2 d2 n1 d1 := by
  unfold mulN mulD mulB
  rw [Int.mul_comm n1 n2, Int.mul_comm d1 d2, Bool.and_comm (goodB n1 d1)]
  exact ⟨rfl, rfl, rfl⟩
/-- Sub undoes Add. -/
theorem add_sub (n1 d1 n2 d2 : Int) (h : addB n1 d1 n2 d2 = true) :
    goodB (addN n1 d1 n2 d2) (addD n1 d1 n2 d2) = true ∧ subB (addN n1 d1 n2 d2) (addD n1 d1 n2 d2) n2 d2 = true ∧ subN (addN n1 d1 n2 d2) (addD n1 d1 n2 d2) n2 d2 = n1 ∧ subD (addN n1 d1 n2 d2) (addD n1 d1 n2 d2) n2 d2 = d1 := by
  unfold addB at h
  simp only [Bool.and_eq_true] at h
  obtain ⟨⟨h1, h2⟩, h3⟩ := h
  have eN : addN n1 d1 n2 d2 = mkN (n1 * d2 + n2 * d1) (d1 * d2) := by unfold addN fitN; simp [h1, h2, h3]
  have eD : addD n1 d1 n2 d2 = mkD (n1 * d2 + n2 * d1) (d1 * d2) := by unfold addD fitD; simp [h1, h2, h3]
  rw [eN, eD]
  have p1 := good_bd n1 d1 h1
  have p2 := good_bd n2 d2 h2
  have p3 := good_bd _ _ h3
  have hc := mk_cross (n1 * d2 + n2 * d1) (d1 * d2) (by have := den_pos d1 d2 p1.2.2.1 p2.2.2.1; omega)
  generalize mkN (n1 * d2 + n2 * d1) (d1 * d2) = a at *
  generalize mkD (n1 * d2 + n2 * d1) (d1 * d2) = b at *
  have hb := den_pos b d2 p3.2.2.1 p2.2.2.1
  obtain ⟨k1, k2⟩ := mk_eq n1 d1 (a * d2 - n2 * b) (b * d2) h1 (by omega) (by grind)
  unfold subB subN subD fitN fitD
  rw [k1, k2, h1, h2, h3]
  exact ⟨rfl, rfl, rfl, rfl⟩
/-- Div undoes Mul. -/
theorem mul_div (n1 d1 n2 d2 : Int) (h : mulB n1 d1 n2 d2 = true) (hz : n2 ≠ 0) :
    goodB (mulN n1 d1 n2 d2) (mulD n1 d1 n2 d2) = true ∧ divB (mulN n1 d1 n2 d2) (mulD n1 d1 n2 d2) n2 d2 = true ∧ divN (mulN n1 d1 n2 d2) (mulD n1 d1 n2 d2) n2 d2 = n1 ∧ divD (mulN n1 d1 n2 d2) (mulD n1 d1 n2 d2) n2 d2 = d1 := by
  unfold mulB at h
  simp only [Bool.and_eq_true] at h
  obtain ⟨⟨h1, h2⟩, h3⟩ := h
  have eN : mulN n1 d1 n2 d2 = mkN (n1 * n2) (d1 * d2) := by unfold mulN fitN; simp [h1, h2, h3]
  have eD : mulD n1 d1 n2 d2 = mkD (n1 * n2) (d1 * d2) := by unfold mulD fitD; simp [h1, h2, h3]
  rw [eN, eD]
  have p1 := good_bd n1 d1 h1
  have p2 := good_bd n2 d2 h2
  have p3 := good_bd _ _ h3
  have hc := mk_cross (n1 * n2) (d1 * d2) (by have := den_pos d1 d2 p1.2.2.1 p2.2.2.1; omega)
  generalize mkN (n1 * n2) (d1 * d2) = a at *
  generalize mkD (n1 * n2) (d1 * d2) = b at *
  have hb : b * n2 ≠ 0 := Int.mul_ne_zero (by omega) hz
  obtain ⟨k1, k2⟩ := mk_eq n1 d1 (a * d2) (b * n2) h1 hb (by grind)
  have hz' : (n2 != 0) = true := by simpa using hz
  unfold divB divN divD fitN fitD
  rw [k1, k2, h1, h2, h3, hz']
  exact ⟨rfl, rfl, rfl, rfl⟩
end Go.Proofs.Ytmhednkbpniphaa.Fr
