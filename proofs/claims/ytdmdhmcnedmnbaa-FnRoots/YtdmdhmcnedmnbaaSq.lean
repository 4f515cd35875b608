import GoSem.Core.Float
namespace Go.Proofs.Ytdmdhmcnedmnbaa.Sq
/-- the sign of √a + √b against √c + √d, by squares -/
def sign (n : Int) : Int := if 0 < n then 1 else if n < 0 then -1 else 0
def mixed (n sq : Int) : Int := if 0 ≤ n then (if n = 0 ∧ sq = 0 then 0 else 1) else sign (sq - n * n)
def two (a b c d : Int) : Int :=
  if a + b - c - d = 0 then sign (4 * a * b - 4 * c * d)
  else if 0 < a + b - c - d then mixed ((a + b - c - d) * (a + b - c - d) + 4 * a * b - 4 * c * d) (4 * (a + b - c - d) * (a + b - c - d) * (4 * a * b))
  else - mixed ((a + b - c - d) * (a + b - c - d) + 4 * c * d - 4 * a * b) (4 * (a + b - c - d) * (a + b - c - d) * (4 * c * d))

theorem sign_neg (n : Int) : sign (-n) = - sign n := by unfold sign; split <;> split <;> (try split) <;> omega
theorem two_anti (a b c d : Int) : two c d a b = - two a b c d := by
  unfold two
  have e : c + d - a - b = -(a + b - c - d) := by omega
  rw [e]
  generalize a + b - c - d = l
  by_cases h0 : l = 0
  · subst h0
    simp only [Int.neg_zero, if_true]
    rw [← sign_neg]; congr 1; omega
  · rw [if_neg (by omega), if_neg h0]
    have e1 : (-l) * (-l) = l * l := by rw [Int.neg_mul_neg]
    have e2 : 4 * (-l) * (-l) = 4 * l * l := by rw [Int.mul_assoc, Int.neg_mul_neg, ← Int.mul_assoc]
    rw [e1, e2]
    by_cases h1 : 0 < l
    · rw [if_neg (by omega), if_pos h1]
    · rw [if_pos (by omega), if_neg h1, Int.neg_neg]

theorem sq_le {a b : Int} (h0 : 0 ≤ a) (h : a ≤ b) : a * a ≤ b * b := Int.mul_le_mul h h h0 (by omega)
theorem sq_lt {a b : Int} (h0 : 0 ≤ a) (h : a < b) : a * a < b * b := by
  have h1 : a * a ≤ a * b := Int.mul_le_mul_of_nonneg_left (by omega) h0
  have h2 : a * b < b * b := Int.mul_lt_mul_of_pos_right h (by omega)
  omega
theorem lt_of_sq {a b : Int} (hb : 0 ≤ b) (h : a * a < b * b) : a < b := by
  by_cases hc : a < b
  · exact hc
  · have := sq_le hb (show b ≤ a by omega); omega
theorem mul_cancel {a b t : Int} (ht : 0 < t) (h : a * t < b * t) : a < b := Int.lt_of_mul_lt_mul_right h (by omega)

/-- P·T + U > Q·T + V with U² ≤ X·T², V² ≥ Y·T²: then P + √X > Q + √Y, and the sign by squares is 1 -/
theorem two_pos (P Q X Y T U V : Int) (hT : 0 < T) (hU0 : 0 ≤ U) (hV0 : 0 ≤ V) (hX : 0 ≤ X) (hY : 0 ≤ Y) (hU : U * U ≤ X * (T * T)) (hV : Y * (T * T) ≤ V * V) (h : Q * T + V < P * T + U) :
    (P - Q = 0 → 0 < X - Y) ∧ (0 < P - Q → 0 ≤ (P - Q) * (P - Q) + X - Y → ¬ ((P - Q) * (P - Q) + X - Y = 0 ∧ 4 * (P - Q) * (P - Q) * X = 0)) ∧
    (0 < P - Q → (P - Q) * (P - Q) + X - Y < 0 → ((P - Q) * (P - Q) + X - Y) * ((P - Q) * (P - Q) + X - Y) < 4 * (P - Q) * (P - Q) * X) ∧
    (P - Q < 0 → (P - Q) * (P - Q) + Y - X < 0 ∧ 4 * (P - Q) * (P - Q) * Y < ((P - Q) * (P - Q) + Y - X) * ((P - Q) * (P - Q) + Y - X)) := by
  have hTT : 0 < T * T := Int.mul_pos hT hT
  have hd : V < (P - Q) * T + U := by rw [Int.sub_mul]; omega
  generalize P - Q = L at *
  refine ⟨?_, ?_, ?_, ?_⟩
  · intro h0
    subst h0
    have h1 := sq_lt hV0 (show V < U by simpa using hd)
    have := mul_cancel (a := Y) (b := X) hTT (by omega)
    omega
  · rintro h1 h2 ⟨h3, h4⟩
    have hXz : X = 0 := by
      rcases Int.mul_eq_zero.1 h4 with h5 | h5
      · rcases Int.mul_eq_zero.1 h5 with h6 | h6 <;> omega
      · exact h5
    subst hXz
    have hUz : U = 0 := by
      by_cases hc : U = 0
      · exact hc
      · have := Int.mul_pos (show 0 < U by omega) (show 0 < U by omega)
        simp at hU; omega
    subst hUz
    have hYL : Y = L * L := by omega
    subst hYL
    have e : (L * T) * (L * T) = L * L * (T * T) := by
      rw [Int.mul_assoc, Int.mul_assoc]; congr 1; rw [← Int.mul_assoc, Int.mul_comm T L, Int.mul_assoc]
    rw [← e] at hV
    have h5 := sq_lt hV0 (show V < L * T by simpa using hd)
    omega
  · intro h1 h2
    generalize hn : L * L + X - Y = n at *
    -- (L T + U)² > V² ≥ Y T²
    have k1 := sq_lt hV0 hd
    have k2 : (L * T + U) * (L * T + U) = L * L * (T * T) + 2 * L * U * T + U * U := by
      rw [Int.add_mul, Int.mul_add, Int.mul_add]
      have e1 : L * T * (L * T) = L * L * (T * T) := by rw [Int.mul_assoc, Int.mul_assoc]; congr 1; rw [← Int.mul_assoc, Int.mul_comm T L, Int.mul_assoc]
      have e2 : L * T * U = L * U * T := by rw [Int.mul_assoc, Int.mul_comm T U, ← Int.mul_assoc]
      have e3 : U * (L * T) = L * U * T := by rw [← Int.mul_assoc, Int.mul_comm U L]
      have e4 : 2 * L * U * T = L * U * T + L * U * T := by rw [Int.mul_assoc 2 L U, Int.mul_assoc 2]; omega
      rw [e1, e2, e3, e4]; omega
    have k3 : (-n) * (T * T) < 2 * L * U * T := by
      have e1 : (-n) * (T * T) = Y * (T * T) - L * L * (T * T) - X * (T * T) := by rw [← hn, ← Int.sub_mul, ← Int.sub_mul]; congr 1; omega
      rw [e1]; omega
    have k4 : (-n) * T < 2 * L * U := mul_cancel hT (by rw [Int.mul_assoc]; exact k3)
    have k5 := sq_lt (Int.mul_nonneg (show 0 ≤ -n by omega) (by omega)) k4
    have k6 : (-n * T) * (-n * T) = n * n * (T * T) := by
      rw [show -n * T = -(n * T) by rw [Int.neg_mul], Int.neg_mul_neg]
      rw [Int.mul_assoc, Int.mul_assoc]; congr 1; rw [← Int.mul_assoc, Int.mul_comm T n, Int.mul_assoc]
    have k7 : (2 * L * U) * (2 * L * U) = 4 * L * L * (U * U) := by
      have e1 : (2 * L * U) * (2 * L * U) = (2 * L) * (2 * L) * (U * U) := by
        rw [Int.mul_assoc (2 * L) U, Int.mul_assoc (2 * L) (2 * L)]; congr 1
        rw [← Int.mul_assoc, Int.mul_comm U (2 * L), Int.mul_assoc]
      have e2 : (2 * L) * (2 * L) = 4 * L * L := by
        rw [Int.mul_assoc 2 L, Int.mul_comm L (2 * L), Int.mul_assoc 2 L L, Int.mul_assoc 4 L L]; omega
      rw [e1, e2]
    have hLL : 0 ≤ 4 * L * L := Int.mul_nonneg (by omega) (by omega)
    have k8 : 4 * L * L * (U * U) ≤ 4 * L * L * (X * (T * T)) := Int.mul_le_mul_of_nonneg_left hU hLL
    rw [← Int.mul_assoc (4 * L * L) X] at k8
    exact mul_cancel hTT (by omega)
  · intro h1
    obtain ⟨K, hK⟩ : ∃ K, -L = K := ⟨_, rfl⟩
    have hKp : 0 < K := by omega
    have hLK : L = -K := by omega
    subst hLK
    have eKK : (-K) * (-K) = K * K := Int.neg_mul_neg K K
    have e4K : 4 * -K * -K = 4 * K * K := by rw [Int.mul_assoc, Int.neg_mul_neg, ← Int.mul_assoc]
    rw [eKK, e4K]
    have hd2 : K * T + V < U := by rw [Int.neg_mul] at hd; omega
    have hKT : 0 < K * T := Int.mul_pos hKp hT
    have k1 := sq_lt (show 0 ≤ K * T + V by omega) hd2
    have k2 : (K * T + V) * (K * T + V) = K * K * (T * T) + 2 * K * V * T + V * V := by
      rw [Int.add_mul, Int.mul_add, Int.mul_add]
      have e1 : K * T * (K * T) = K * K * (T * T) := by rw [Int.mul_assoc, Int.mul_assoc]; congr 1; rw [← Int.mul_assoc, Int.mul_comm T K, Int.mul_assoc]
      have e2 : K * T * V = K * V * T := by rw [Int.mul_assoc, Int.mul_comm T V, ← Int.mul_assoc]
      have e3 : V * (K * T) = K * V * T := by rw [← Int.mul_assoc, Int.mul_comm V K]
      have e4 : 2 * K * V * T = K * V * T + K * V * T := by rw [Int.mul_assoc 2 K V, Int.mul_assoc 2]; omega
      rw [e1, e2, e3, e4]; omega
    generalize hn : K * K + Y - X = n at *
    have k3 : 2 * K * V * T < (-n) * (T * T) := by
      have e1 : (-n) * (T * T) = X * (T * T) - K * K * (T * T) - Y * (T * T) := by rw [← hn, ← Int.sub_mul, ← Int.sub_mul]; congr 1; omega
      rw [e1]; omega
    have k4 : 2 * K * V < (-n) * T := mul_cancel hT (by rw [Int.mul_assoc (-n)]; exact k3)
    have hKV : 0 ≤ 2 * K * V := Int.mul_nonneg (by omega) hV0
    have hn0 : n < 0 := by
      have : 0 < (-n) * T := by omega
      have := mul_cancel (a := 0) (b := -n) hT (by simpa using this)
      omega
    refine ⟨hn0, ?_⟩
    have k5 := sq_lt hKV k4
    have k6 : (-n * T) * (-n * T) = n * n * (T * T) := by
      rw [show -n * T = -(n * T) by rw [Int.neg_mul], Int.neg_mul_neg]
      rw [Int.mul_assoc, Int.mul_assoc]; congr 1; rw [← Int.mul_assoc, Int.mul_comm T n, Int.mul_assoc]
    have k7 : (2 * K * V) * (2 * K * V) = 4 * K * K * (V * V) := by
      have e1 : (2 * K * V) * (2 * K * V) = (2 * K) * (2 * K) * (V * V) := by
        rw [Int.mul_assoc (2 * K) V, Int.mul_assoc (2 * K) (2 * K)]; congr 1
        rw [← Int.mul_assoc, Int.mul_comm V (2 * K), Int.mul_assoc]
      have e2 : (2 * K) * (2 * K) = 4 * K * K := by
        rw [Int.mul_assoc 2 K, Int.mul_comm K (2 * K), Int.mul_assoc 2 K K, Int.mul_assoc 4 K K]; omega
      rw [e1, e2]
    have hKK : 0 ≤ 4 * K * K := Int.mul_nonneg (by omega) (by omega)
    have k8 : 4 * K * K * (Y * (T * T)) ≤ 4 * K * K * (V * V) := Int.mul_le_mul_of_nonneg_left hV hKK
    rw [← Int.mul_assoc (4 * K * K) Y] at k8
    exact mul_cancel hTT (by omega)

theorem sq2 (a b : Int) : (2 * a * b) * (2 * a * b) = 4 * (a * a) * (b * b) := by
  have e1 : (2 * a * b) * (2 * a * b) = (2 * a) * (2 * a) * (b * b) := by
    rw [Int.mul_assoc (2 * a) b, Int.mul_assoc (2 * a) (2 * a)]; congr 1
    rw [← Int.mul_assoc, Int.mul_comm b (2 * a), Int.mul_assoc]
  have e2 : (2 * a) * (2 * a) = 4 * (a * a) := by
    rw [Int.mul_assoc 2 a, Int.mul_comm a (2 * a), Int.mul_assoc 2 a a]; omega
  rw [e1, e2]
theorem sqsum (a b : Int) : (a + b) * (a + b) = a * a + 2 * a * b + b * b := by
  rw [Int.add_mul, Int.mul_add, Int.mul_add, Int.mul_comm b a, Int.mul_assoc 2]; omega
theorem xtt (a b T : Int) : 4 * (a * T) * (b * T) = 4 * a * b * (T * T) := by
  rw [← Int.mul_assoc 4 a T, Int.mul_assoc (4 * a) T, Int.mul_assoc (4 * a) b]; congr 1
  rw [← Int.mul_assoc, Int.mul_comm T b, Int.mul_assoc]

/-- Where roots that are a little too low are together more than others that are a little too high, the sign is 1. -/
theorem two_one (a b c d T p q r s : Int) (ha : 0 ≤ a) (hb : 0 ≤ b) (hc : 0 ≤ c) (hd : 0 ≤ d) (hT : 0 < T) (hp : 0 ≤ p) (hq : 0 ≤ q) (hr : 0 ≤ r) (hs : 0 ≤ s)
    (h1 : p * p ≤ a * T) (h2 : q * q ≤ b * T) (h3 : c * T < (r + 1) * (r + 1)) (h4 : d * T < (s + 1) * (s + 1)) (h : r + s + 4 ≤ p + q) : two a b c d = 1 := by
  have hU : (2 * p * q) * (2 * p * q) ≤ 4 * a * b * (T * T) := by
    rw [sq2, ← xtt]
    have k1 : 4 * (p * p) ≤ 4 * (a * T) := by omega
    exact Int.mul_le_mul k1 h2 (Int.mul_nonneg hq hq) (by have := Int.mul_nonneg ha (show 0 ≤ T by omega); omega)
  have hV : 4 * c * d * (T * T) ≤ (2 * (r + 1) * (s + 1)) * (2 * (r + 1) * (s + 1)) := by
    rw [sq2, ← xtt]
    have k1 : 4 * (c * T) ≤ 4 * ((r + 1) * (r + 1)) := by omega
    exact Int.mul_le_mul k1 (by omega) (Int.mul_nonneg hd (by omega)) (by have := Int.mul_nonneg (show 0 ≤ r + 1 by omega) (show 0 ≤ r + 1 by omega); omega)
  have hm : (c + d) * T + 2 * (r + 1) * (s + 1) < (a + b) * T + 2 * p * q := by
    have e1 := sqsum p q
    have e2 := sqsum (r + 1) (s + 1)
    have e3 := sq_le (show 0 ≤ (r + 1) + (s + 1) by omega) (show (r + 1) + (s + 1) ≤ p + q by omega)
    rw [Int.add_mul, Int.add_mul]; omega
  have hX : 0 ≤ 4 * a * b := Int.mul_nonneg (by omega) hb
  have hY : 0 ≤ 4 * c * d := Int.mul_nonneg (by omega) hd
  obtain ⟨t1, t2, t3, t4⟩ := two_pos (a + b) (c + d) (4 * a * b) (4 * c * d) T (2 * p * q) (2 * (r + 1) * (s + 1)) hT (Int.mul_nonneg (by omega) hq) (Int.mul_nonneg (by omega) (by omega)) hX hY hU hV hm
  have el : a + b - (c + d) = a + b - c - d := by omega
  rw [el] at t1 t2 t3 t4
  unfold two
  by_cases l0 : a + b - c - d = 0
  · rw [if_pos l0]
    have := t1 l0
    unfold sign; rw [if_pos this]
  · rw [if_neg l0]
    by_cases l1 : 0 < a + b - c - d
    · rw [if_pos l1]
      unfold mixed
      have t2 := t2 l1
      have t3 := t3 l1
      generalize hn : (a + b - c - d) * (a + b - c - d) + 4 * a * b - 4 * c * d = n at *
      by_cases n0 : 0 ≤ n
      · rw [if_pos n0, if_neg (t2 n0)]
      · rw [if_neg n0]
        have := t3 (by omega)
        unfold sign; rw [if_pos (by omega)]
    · rw [if_neg l1]
      have t4 := t4 (by omega)
      unfold mixed
      rw [if_neg (by omega)]
      unfold sign
      rw [if_neg (by omega), if_pos (by omega)]; rfl

/-- the program's way by squares -/
def cmp3 (x y : Int) : Int := if x < y then -1 else if y < x then 1 else 0
def half (P X Q Y : Int) : Int := if Y - X - (P - Q) * (P - Q) < 0 then 1 else cmp3 (4 * (P - Q) * (P - Q) * X) ((Y - X - (P - Q) * (P - Q)) * (Y - X - (P - Q) * (P - Q)))
def sq (P X Q Y : Int) : Int := if P < Q then - half Q Y P X else half P X Q Y

theorem half_two (a b c d : Int) (ha : 0 ≤ a) (hb : 0 ≤ b) (h : 0 ≤ a + b - c - d) : half (a + b) (4 * a * b) (c + d) (4 * c * d) = two a b c d := by
  have hX : 0 ≤ 4 * a * b := Int.mul_nonneg (by omega) hb
  unfold half two
  have el : a + b - (c + d) = a + b - c - d := by omega
  rw [el]
  generalize 4 * a * b = X at *
  generalize 4 * c * d = Y at *
  generalize a + b - c - d = l at *
  by_cases l0 : l = 0
  · subst l0
    simp only [Int.mul_zero, Int.zero_mul, Int.sub_zero, if_true]
    unfold sign cmp3
    have z0 : Y - X = 0 → (Y - X) * (Y - X) = 0 := fun e => by rw [e]; rfl
    have z1 : 0 < Y - X → 0 < (Y - X) * (Y - X) := fun e => Int.mul_pos e e
    generalize (Y - X) * (Y - X) = Z at *
    by_cases g1 : Y - X < 0
    · have : 0 < X - Y := by omega
      simp only [g1, this, if_true]
    · by_cases g2 : Y - X = 0
      · have := z0 g2
        have k1 : ¬ 0 < X - Y := by omega
        have k2 : ¬ X - Y < 0 := by omega
        simp only [g1, this, k1, k2, if_false, Int.lt_irrefl]
      · have := z1 (by omega)
        have k1 : ¬ 0 < X - Y := by omega
        have k2 : X - Y < 0 := by omega
        simp only [g1, this, k1, k2, if_true, if_false]
  · have l1 : 0 < l := by omega
    have e : Y - X - l * l = -(l * l + X - Y) := by omega
    have hs : 0 ≤ 4 * l * l * X := Int.mul_nonneg (Int.mul_nonneg (by omega) (by omega)) hX
    rw [e, Int.neg_mul_neg]
    simp only [l0, l1, if_true, if_false]
    unfold mixed sign cmp3
    generalize l * l + X - Y = n at *
    generalize 4 * l * l * X = S at *
    have z0 : n = 0 → n * n = 0 := fun e => by rw [e]; rfl
    generalize n * n = N at *
    by_cases n0 : 0 < n
    · have k1 : -n < 0 := by omega
      have k2 : 0 ≤ n := by omega
      have k3 : ¬ n = 0 := by omega
      simp only [k1, k2, k3, if_true, if_false, false_and]
    · have k1 : ¬ -n < 0 := by omega
      by_cases n1 : n = 0
      · have := z0 n1
        subst n1
        by_cases s0 : S = 0
        · simp only [this, s0, if_true, if_false, and_self, Int.neg_zero, Int.lt_irrefl, Int.le_refl]
        · have k2 : ¬ S < 0 := by omega
          have k3 : 0 < S := by omega
          simp only [this, s0, k2, k3, if_true, if_false, true_and, Int.neg_zero, Int.lt_irrefl, Int.le_refl]
      · have k2 : ¬ 0 ≤ n := by omega
        by_cases c1 : S < N
        · have k3 : ¬ 0 < S - N := by omega
          have k4 : S - N < 0 := by omega
          simp only [k1, k2, c1, k3, k4, if_true, if_false]
        · by_cases c2 : N < S
          · have k3 : 0 < S - N := by omega
            simp only [k1, k2, c1, c2, k3, if_true, if_false]
          · have k3 : ¬ 0 < S - N := by omega
            have k4 : ¬ S - N < 0 := by omega
            simp only [k1, k2, c1, c2, k3, k4, if_false]
theorem sq_two (a b c d : Int) (ha : 0 ≤ a) (hb : 0 ≤ b) (hc : 0 ≤ c) (hd : 0 ≤ d) : sq (a + b) (4 * a * b) (c + d) (4 * c * d) = two a b c d := by
  unfold sq
  by_cases h : a + b < c + d
  · rw [if_pos h, half_two c d a b hc hd (by omega), two_anti a b c d, Int.neg_neg]
  · rw [if_neg h, half_two a b c d ha hb (by omega)]
end Go.Proofs.Ytdmdhmcnedmnbaa.Sq
