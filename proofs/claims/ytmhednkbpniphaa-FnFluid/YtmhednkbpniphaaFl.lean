import GoSem.Core.Float
import Ieee.Arith
namespace Go.Proofs.Ytmhednkbpniphaa.Fl
open Ieee

theorem lt_log2 (n : Nat) : n < 2 ^ (n.log2 + 1) := Nat.lt_log2_self

theorem lp : double.leastPlace = -1074 := by decide
theorem fb : double.fractionBits = 52 := rfl
theorem bin : double.binade = 4503599627370496 := by decide
theorem inf : double.infRung = 9218868437227405312 := by decide
theorem sw : double.signWeight = 9223372036854775808 := by decide

theorem cut_le (n d : Nat) (h : n.log2 ≤ d + 52) : Toward.even.cut false n d ≤ 2 ^ 53 := by
  unfold Toward.cut
  simp only
  have hg : n / (1 <<< min d (n.log2 + 2)) < 2 ^ 53 := by
    rw [Nat.shiftLeft_eq, Nat.one_mul, Nat.div_lt_iff_lt_mul (Nat.two_pow_pos _), ← Nat.pow_add]
    refine Nat.lt_of_lt_of_le (lt_log2 n) (Nat.pow_le_pow_right (by decide) ?_)
    omega
  have hb : ∀ b : Bool, b.toNat ≤ 1 := by decide
  exact Nat.le_trans (Nat.add_le_add_left (hb _) _) hg

theorem log2_shift (n k : Nat) (h : n ≠ 0) : (n <<< k).log2 = n.log2 + k := by
  rw [Nat.log2_eq_iff (by rw [Nat.shiftLeft_eq]; have := Nat.two_pow_pos k; exact Nat.mul_ne_zero h (by omega))]
  have h1 := Nat.log2_self_le h
  have h2 := lt_log2 n
  rw [Nat.shiftLeft_eq]
  constructor
  · rw [Nat.pow_add]; exact Nat.mul_le_mul_right _ h1
  · rw [show n.log2 + k + 1 = (n.log2 + 1) + k by omega, Nat.pow_add]
    exact Nat.mul_lt_mul_of_pos_right h2 (Nat.two_pow_pos k)

theorem read_lt (x : Nat) (k : Nat) (hk : k ≤ 2047) (hk1 : 1 ≤ k) (hx : x < k * 4503599627370496) :
    ∃ m e, double.read x = .number false m e ∧ m < 2 ^ 53 ∧ -1074 ≤ e ∧ (e : Int) ≤ -1074 + (k - 2 : Nat) := by
  unfold Format.read
  rw [sw, bin, inf, lp]
  have h0 : x / 9223372036854775808 = 0 := Nat.div_eq_of_lt (by omega)
  have h1 : x % 9223372036854775808 = x := Nat.mod_eq_of_lt (by omega)
  simp only [h0, h1]
  by_cases hs : x < 4503599627370496
  · rw [if_pos hs]; exact ⟨_, _, rfl, by omega, by omega, by omega⟩
  · rw [if_neg hs, if_pos (by omega)]
    exact ⟨_, _, rfl, by have := Nat.mod_lt x (show 4503599627370496 > 0 by decide); omega, by omega, by omega⟩

theorem near_read (mag : Nat) (place B : Int) (h0 : mag ≠ 0) (hB : place + mag.log2 ≤ B) (hl : -1000 ≤ B) (hu : B ≤ 900) :
    ∃ m e, double.read (double.nearest false mag place) = .number false m e ∧ m < 2 ^ 53 ∧ -1074 ≤ e ∧ e ≤ B - 51 := by
  unfold Format.nearest
  rw [if_neg h0, lp, fb, bin, inf]
  simp only [Format.word]
  generalize hlast : max (place + (mag.log2 : Int) - ((52 : Nat) : Int)) (-1074) = last
  have hla : last ≤ B - 52 := by omega
  have hlb : -1074 ≤ last := by omega
  have hlc : place + (mag.log2 : Int) - 52 ≤ last := by omega
  have hk : Toward.even.cut false (mag <<< (place - last).toNat) (last - place).toNat ≤ 2 ^ 53 := by
    refine cut_le _ _ ?_
    rw [log2_shift _ _ h0]
    omega
  generalize Toward.even.cut false (mag <<< (place - last).toNat) (last - place).toNat = kept at hk
  obtain ⟨m, e, h1, h2, h3, h4⟩ := read_lt (min ((last - -1074).toNat * 4503599627370496 + kept) 9218868437227405312) ((last - -1074).toNat + 3) (by omega) (by omega) (by omega)
  exact ⟨m, e, by simpa using h1, h2, h3, by omega⟩

theorem near_zero (place : Int) : double.read (double.nearest false 0 place) = .number false 0 (-1074) := by
  unfold Format.nearest; rw [if_pos rfl]; decide

theorem rootFrom_lt (n : Nat) : ∀ todo root : Nat, Datum.rootFrom n todo root < root + 2 ^ todo := by
  intro todo
  induction todo with
  | zero => intro root; simp [Datum.rootFrom]
  | succ t ih =>
    intro root
    simp only [Datum.rootFrom, Nat.shiftLeft_eq, Nat.one_mul]
    have h2 : 2 ^ (t + 1) = 2 ^ t + 2 ^ t := by rw [Nat.pow_succ]; omega
    by_cases h : (root + 2 ^ t) * (root + 2 ^ t) ≤ n
    · rw [if_pos h]; have := ih (root + 2 ^ t); omega
    · rw [if_neg h]; have := ih root; have := Nat.two_pow_pos t; omega

/-- what math.Sqrt and int make of a number is small and not below nought -/
theorem root_some (n : Int) (h0 : 0 ≤ n) (h1 : n ≤ 1000000000000) :
    ∃ s r, FloatKind.f64.format.sqrt (FloatKind.f64.nearest n) = some s ∧ (FloatKind.f64.decode s).toInt .zero = some r ∧ 0 ≤ r ∧ r ≤ 16777216 := by
  have hneg : decide (n < 0) = false := by simp; omega
  show ∃ s r, double.sqrt (double.nearest (decide (n < 0)) n.natAbs 0) = some s ∧ (double.read s).toInt .zero = some r ∧ 0 ≤ r ∧ r ≤ 16777216
  rw [hneg]
  have hr : ∃ m i, double.read (double.nearest false n.natAbs 0) = .number false m i ∧ m < 2 ^ 53 ∧ -1074 ≤ i ∧ i ≤ -11 := by
    by_cases hz : n.natAbs = 0
    · rw [hz, near_zero]; exact ⟨_, _, rfl, by decide, by decide, by decide⟩
    · have : n.natAbs.log2 ≤ 40 := by
        have := (Nat.log2_lt hz (k := 40)).mpr (by omega)
        omega
      exact near_read _ 0 40 hz (by omega) (by decide) (by decide)
  obtain ⟨m, i, hr, hm, hi0, hi1⟩ := hr
  unfold Format.sqrt
  rw [hr, fb]
  have fin : ∀ m e, double.read m = e → True := fun _ _ _ => trivial
  clear fin
  have key : ∀ mag place, mag < 2 ^ 56 → (place : Int) ≤ -34 → ∃ r, (double.read (double.nearest false mag place)).toInt .zero = some r ∧ 0 ≤ r ∧ r ≤ 16777216 := by
    intro mag place hmag hp
    have : ∃ m e, double.read (double.nearest false mag place) = .number false m e ∧ m < 2 ^ 53 ∧ -1074 ≤ e ∧ e ≤ -29 := by
      by_cases hz : mag = 0
      · rw [hz, near_zero]; exact ⟨_, _, rfl, by decide, by decide, by decide⟩
      · have : mag.log2 < 56 := (Nat.log2_lt hz).mpr hmag
        exact near_read _ _ 22 hz (by omega) (by decide) (by decide)
    obtain ⟨m, e, h, hm, he0, he1⟩ := this
    rw [h]
    unfold Datum.toInt Datum.integral Toward.cut
    simp only [signed, Bool.toNat_false, Nat.add_zero]
    have he : e.toNat = 0 := by omega
    rw [if_neg (by decide)]
    simp only [Nat.shiftLeft_zero]
    refine ⟨_, rfl, Int.natCast_nonneg _, ?_⟩
    simp only [he, Nat.shiftLeft_zero]
    rw [Nat.shiftLeft_eq, Nat.one_mul]
    by_cases hd : (-e).toNat ≤ m.log2 + 2
    · rw [Nat.min_eq_left hd]
      have h1 : (2 : Nat) ^ 29 ≤ 2 ^ (-e).toNat := Nat.pow_le_pow_right (by decide) (by omega)
      have h2 : m / 2 ^ (-e).toNat ≤ m / 2 ^ 29 := Nat.div_le_div_left h1 (by decide)
      have h3 : m / 2 ^ 29 ≤ 16777216 := by omega
      exact Int.ofNat_le.mpr (Nat.le_trans h2 h3)
    · rw [Nat.min_eq_right (by omega)]
      have : m / 2 ^ (m.log2 + 2) = 0 := Nat.div_eq_of_lt (Nat.lt_of_lt_of_le (lt_log2 m) (Nat.pow_le_pow_right (by decide) (by omega)))
      rw [this]; decide
  unfold Datum.root
  by_cases hz : m = 0
  · simp only [if_pos hz, Option.map]
    obtain ⟨r, hr, hr0, hr1⟩ := key 0 (-34) (by decide) (by decide)
    refine ⟨_, r, rfl, ?_, hr0, hr1⟩
    rw [near_zero] at hr
    show (double.read (double.nearest false m i)).toInt .zero = some r
    rw [hz, near_zero]; exact hr
  · have hlog : m.log2 < 53 := (Nat.log2_lt hz).mpr hm
    simp only [if_neg hz, Bool.false_eq_true, if_false, Option.map]
    generalize hmore : (2 * (52 + 2) - m.log2 + ((i - ((2 * (52 + 2) - m.log2 : Nat) : Int)) % 2).toNat) = more
    have hm1 : 56 ≤ more := by omega
    have hm2 : m.log2 + more ≤ 109 := by omega
    have hlt := rootFrom_lt (m <<< more) ((m <<< more).log2 / 2 + 1) 0
    rw [log2_shift _ _ hz] at hlt ⊢
    generalize hw : Datum.rootFrom (m <<< more) ((m.log2 + more) / 2 + 1) 0 = whole at hlt
    have h55 : (2 : Nat) ^ ((m.log2 + more) / 2 + 1) ≤ 2 ^ 55 := Nat.pow_le_pow_right (by decide) (by omega)
    have hb : ∀ b : Bool, b.toNat ≤ 1 := by decide
    have hbb := hb (whole * whole != m <<< more)
    obtain ⟨r, hr, hr0, hr1⟩ := key (2 * whole + (whole * whole != m <<< more).toNat) ((i - (more : Int)) / 2 - 1) (by omega) (by omega)
    exact ⟨_, r, rfl, hr, hr0, hr1⟩
end Go.Proofs.Ytmhednkbpniphaa.Fl
