import GoSem.Core.Float
import Ieee.Arith
namespace Go.Proofs.Ytdmdhmcnedmnbaa.Fz
open Ieee

theorem lp : double.leastPlace = -1074 := by decide
theorem fb : double.fractionBits = 52 := rfl
theorem bin : double.binade = 4503599627370496 := by decide
theorem inf : double.infRung = 9218868437227405312 := by decide
theorem sw : double.signWeight = 9223372036854775808 := by decide

/-- the number that a word stands for, in units of 2^-1074 -/
def sgn (s : Bool) (m : Nat) (e : Int) : Int := signed s m (e + 1074).toNat

/-- n / 2^d made whole, to the nearest: off by less than one -/
theorem cut_err (s : Bool) (n d : Nat) (h : d ≤ n.log2 + 2) : (n : Int) - 2 ^ d ≤ (Toward.even.cut s n d : Int) * 2 ^ d ∧ (Toward.even.cut s n d : Int) * 2 ^ d ≤ n + 2 ^ d := by
  unfold Toward.cut
  simp only [Nat.min_eq_left h, Nat.shiftLeft_eq, Nat.one_mul]
  have hb : ∀ b : Bool, b.toNat ≤ 1 := by decide
  generalize ((decide (2 ^ d < 2 * (n % 2 ^ d)) || 2 ^ d == 2 * (n % 2 ^ d) && n / 2 ^ d % 2 == 1)) = b
  have hbb := hb b
  have h1 := Nat.div_add_mod n (2 ^ d)
  have h2 := Nat.mod_lt n (Nat.two_pow_pos d)
  generalize hq : n / 2 ^ d = q at *
  generalize hr : n % 2 ^ d = r at *
  have h3 : (2 ^ d * q : Int) + r = n := by exact_mod_cast h1
  have h4 : (r : Int) < 2 ^ d := by exact_mod_cast h2
  have h5 : (((q + b.toNat : Nat) : Int)) * 2 ^ d = 2 ^ d * q + b.toNat * 2 ^ d := by
    rw [Int.natCast_add, Int.add_mul, Int.mul_comm]
  rw [h5]
  have h6 : (b.toNat : Int) = 0 ∨ (b.toNat : Int) = 1 := by omega
  rcases h6 with h6 | h6 <;> rw [h6] <;> simp <;> omega

theorem lt_log2 (n : Nat) : n < 2 ^ (n.log2 + 1) := Nat.lt_log2_self

theorem read_word (s : Bool) (l k : Nat) (hl : l ≤ 1500) (hk : k ≤ 2 ^ 53) (hn : 2 ^ 52 ≤ k ∨ l = 0) :
    ∃ m e, double.read (double.word s (l * 4503599627370496 + k)) = .number s m e ∧ -1074 ≤ e ∧ e ≤ l - 1074 + 1 ∧ m * 2 ^ (e + 1074).toNat = k * 2 ^ l := by
  unfold Format.read Format.word
  rw [sw, bin, inf, lp]
  have hw : ∀ x, x < 9223372036854775808 → ((if s = true then 9223372036854775808 + x else x) / 9223372036854775808 % 2 == 1) = s ∧ (if s = true then 9223372036854775808 + x else x) % 9223372036854775808 = x := by
    intro x hx
    cases s
    · simp; omega
    · simp; omega
  obtain ⟨w1, w2⟩ := hw (l * 4503599627370496 + k) (by omega)
  simp only [w1, w2]
  by_cases c1 : l * 4503599627370496 + k < 4503599627370496
  · rw [if_pos c1]
    have : l = 0 := by omega
    subst this
    exact ⟨_, _, rfl, by omega, by omega, by simp⟩
  · rw [if_neg c1, if_pos (by omega)]
    by_cases c2 : k = 2 ^ 53
    · subst c2
      refine ⟨_, _, rfl, by omega, by omega, ?_⟩
      have e1 : (l * 4503599627370496 + 2 ^ 53) % 4503599627370496 = 0 := by omega
      have e2 : (l * 4503599627370496 + 2 ^ 53) / 4503599627370496 = l + 2 := by omega
      rw [e1, e2]
      have e3 : (-1074 + (((l + 2 - 1 : Nat)) : Int) + 1074).toNat = l + 1 := by omega
      rw [e3, Nat.pow_succ]; omega
    · have hk2 : k < 2 ^ 53 := by omega
      have hk3 : 2 ^ 52 ≤ k := by
        rcases hn with h | h
        · exact h
        · subst h; omega
      refine ⟨_, _, rfl, by omega, by omega, ?_⟩
      have e1 : (l * 4503599627370496 + k) % 4503599627370496 = k - 4503599627370496 := by omega
      have e2 : (l * 4503599627370496 + k) / 4503599627370496 = l + 1 := by omega
      rw [e1, e2]
      have e3 : (-1074 + (((l + 1 - 1 : Nat)) : Int) + 1074).toNat = l := by omega
      rw [e3]
      have : 4503599627370496 + (k - 4503599627370496) = k := by omega
      rw [this]

def pw (k : Nat) : Nat := 2 ^ k
theorem pw_le {l k : Nat} (h : l ≤ k) : 2 ^ l ≤ pw k := Nat.pow_le_pow_right (by decide) h
theorem pw_lt {l k : Nat} (h : 2 ^ l < pw k) : l < k := (Nat.pow_lt_pow_iff_right (a := 2) (by decide)).1 h
theorem pw_pos (k : Nat) : 0 < pw k := Nat.two_pow_pos k
theorem pw_add (a b : Nat) : pw (a + b) = pw a * pw b := Nat.pow_add 2 a b
/-- 2^-32, in units of 2^-1074 -/
def big : Nat := pw 1042
def huge : Nat := pw 1095
theorem pow_big {l : Nat} (h : l ≤ 1042) : 2 ^ l ≤ big := pw_le h
theorem pow_huge {l : Nat} (h : 2 ^ l < huge) : l < 1095 := pw_lt h
theorem big_pos : 0 < big := pw_pos _
theorem huge_big : huge = 9007199254740992 * big := by
  have h2 : pw 53 = 9007199254740992 := by decide
  unfold huge big
  rw [show (1095 : Nat) = 53 + 1042 from rfl, pw_add, h2]
theorem cut_le (s : Bool) (n d : Nat) (h : n.log2 ≤ d + 52) : Toward.even.cut s n d ≤ 2 ^ 53 := by
  unfold Toward.cut
  simp only
  have hg : n / (1 <<< min d (n.log2 + 2)) < 2 ^ 53 := by
    rw [Nat.shiftLeft_eq, Nat.one_mul, Nat.div_lt_iff_lt_mul (Nat.two_pow_pos _), ← Nat.pow_add]
    refine Nat.lt_of_lt_of_le (lt_log2 n) (Nat.pow_le_pow_right (by decide) ?_)
    omega
  have hb : ∀ b : Bool, b.toNat ≤ 1 := by decide
  exact Nat.le_trans (Nat.add_le_add_left (hb _) _) hg
theorem cut_ge (s : Bool) (n d : Nat) (h : d ≤ n.log2 + 2) (hn : 2 ^ (52 + d) ≤ n) : 2 ^ 52 ≤ Toward.even.cut s n d := by
  unfold Toward.cut
  simp only [Nat.min_eq_left h, Nat.shiftLeft_eq, Nat.one_mul]
  have : 2 ^ 52 ≤ n / 2 ^ d := by
    rw [Nat.le_div_iff_mul_le (Nat.two_pow_pos d), ← Nat.pow_add]; exact hn
  omega
theorem log2_shift (n k : Nat) (h : n ≠ 0) : (n <<< k).log2 = n.log2 + k := by
  rw [Nat.log2_eq_iff (by rw [Nat.shiftLeft_eq]; have := Nat.two_pow_pos k; exact Nat.mul_ne_zero h (by omega))]
  have h1 := Nat.log2_self_le h
  have h2 := lt_log2 n
  rw [Nat.shiftLeft_eq]
  constructor
  · rw [Nat.pow_add]; exact Nat.mul_le_mul_right _ h1
  · rw [show n.log2 + k + 1 = (n.log2 + 1) + k by omega, Nat.pow_add]
    exact Nat.mul_lt_mul_of_pos_right h2 (Nat.two_pow_pos k)

/-- what is written is off by 2^-32 at most -/
theorem near_err (s : Bool) (mag : Nat) (place : Int) (hp : -1074 ≤ place) (hB : mag = 0 ∨ place + mag.log2 ≤ 20) :
    ∃ m e, double.read (double.nearest s mag place) = .number s m e ∧ -1074 ≤ e ∧ e ≤ 0 ∧
      mag * 2 ^ (place + 1074).toNat ≤ m * 2 ^ (e + 1074).toNat + big ∧ m * 2 ^ (e + 1074).toNat ≤ mag * 2 ^ (place + 1074).toNat + big := by
  by_cases h0 : mag = 0
  · subst h0
    unfold Format.nearest
    rw [if_pos rfl]
    obtain ⟨m, e, h1, h2, h3, h4⟩ := read_word s 0 0 (by omega) (by omega) (Or.inr rfl)
    refine ⟨m, e, by simpa using h1, h2, by omega, ?_, ?_⟩
    · simp
    · rw [h4]; simp
  · have hB : place + mag.log2 ≤ 20 := by
      rcases hB with h | h
      · exact absurd h h0
      · exact h
    unfold Format.nearest
    rw [if_neg h0, lp, fb, bin, inf]
    generalize hlast : max (place + (mag.log2 : Int) - ((52 : Nat) : Int)) (-1074) = last
    dsimp only
    have hl0 : -1074 ≤ last := by omega
    have hl1 : last ≤ -32 := by omega
    obtain ⟨l, hl⟩ : ∃ l : Nat, (last - -1074).toNat = l := ⟨_, rfl⟩
    have hl2 : l ≤ 1042 := by omega
    have hself := Nat.log2_self_le h0
    have hk1 : Toward.even.cut s (mag <<< (place - last).toNat) (last - place).toNat ≤ 2 ^ 53 := by
      refine cut_le _ _ _ ?_
      rw [log2_shift _ _ h0]; omega
    have hd : (last - place).toNat ≤ (mag <<< (place - last).toNat).log2 + 2 := by rw [log2_shift _ _ h0]; omega
    have hk2 : 2 ^ 52 ≤ Toward.even.cut s (mag <<< (place - last).toNat) (last - place).toNat ∨ l = 0 := by
      by_cases hc : last = -1074
      · right; omega
      · left
        refine cut_ge _ _ _ hd ?_
        rw [Nat.shiftLeft_eq]
        have : 52 + (last - place).toNat = mag.log2 + (place - last).toNat := by omega
        rw [this, Nat.pow_add]
        exact Nat.mul_le_mul_right _ hself
    have herr := cut_err s _ _ hd
    generalize Toward.even.cut s (mag <<< (place - last).toNat) (last - place).toNat = k at *
    rw [hl, Nat.min_eq_left (by omega)]
    obtain ⟨m, e, h1, h2, h3, h4⟩ := read_word s l k (by omega) hk1 hk2
    refine ⟨m, e, h1, h2, by omega, ?_⟩
    rw [h4]
    have hpw := pow_big hl2
    -- k * 2^l against mag * 2^(place+1074), up to 2^l
    have key : mag * 2 ^ (place + 1074).toNat ≤ k * 2 ^ l + 2 ^ l ∧ k * 2 ^ l ≤ mag * 2 ^ (place + 1074).toNat + 2 ^ l := by
      by_cases hc : last ≤ place
      · have e0 : (last - place).toNat = 0 := by omega
        rw [e0, Nat.shiftLeft_eq] at herr
        have e1 : (place + 1074).toNat = (place - last).toNat + l := by omega
        rw [e1, Nat.pow_add, ← Nat.mul_assoc]
        generalize mag * 2 ^ (place - last).toNat = q at *
        simp only [Int.pow_zero, Int.mul_one] at herr
        have a1 : q ≤ k + 1 := by omega
        have a2 : k ≤ q + 1 := by omega
        have b1 := Nat.mul_le_mul_right (2 ^ l) a1
        have b2 := Nat.mul_le_mul_right (2 ^ l) a2
        rw [Nat.add_mul, Nat.one_mul] at b1 b2
        exact ⟨b1, b2⟩
      · have e0 : (place - last).toNat = 0 := by omega
        rw [e0, Nat.shiftLeft_zero] at herr
        have e1 : l = (last - place).toNat + (place + 1074).toNat := by omega
        generalize hdd : (last - place).toNat = d at *
        generalize (place + 1074).toNat = c at *
        have a1 : mag ≤ k * 2 ^ d + 2 ^ d := by
          have := herr.1
          have h2 : ((2 ^ d : Nat) : Int) = (2 : Int) ^ d := by simp
          have h3 : ((k * 2 ^ d : Nat) : Int) = (k : Int) * (2 : Int) ^ d := by simp
          omega
        have a2 : k * 2 ^ d ≤ mag + 2 ^ d := by
          have := herr.2
          have h2 : ((2 ^ d : Nat) : Int) = (2 : Int) ^ d := by simp
          have h3 : ((k * 2 ^ d : Nat) : Int) = (k : Int) * (2 : Int) ^ d := by simp
          omega
        rw [e1, Nat.pow_add, ← Nat.mul_assoc]
        have b1 := Nat.mul_le_mul_right (2 ^ c) a1
        have b2 := Nat.mul_le_mul_right (2 ^ c) a2
        rw [Nat.add_mul] at b1 b2
        exact ⟨b1, b2⟩
    omega

/-- the word x stands for z units of 2^-1074 -/
def Num (x : Nat) (z : Int) : Prop := ∃ s m e, double.read x = .number s m e ∧ -1074 ≤ e ∧ e ≤ 0 ∧ z = sgn s m e

theorem sgn_eq (s : Bool) (m : Nat) (e : Int) : sgn s m e = if s then -((m * 2 ^ (e + 1074).toNat : Nat) : Int) else ((m * 2 ^ (e + 1074).toNat : Nat) : Int) := by
  unfold sgn signed; rw [Nat.shiftLeft_eq]
theorem sgn_opp (s : Bool) (m : Nat) (e : Int) : sgn (!s) m e = - sgn s m e := by
  rw [sgn_eq, sgn_eq]; cases s <;> simp
theorem signed_up (s : Bool) (m : Nat) (i base : Int) (hb : -1074 ≤ base) (h : base ≤ i) : signed s m (i - base).toNat * 2 ^ (base + 1074).toNat = sgn s m i := by
  unfold sgn signed
  have e1 : (i + 1074).toNat = (i - base).toNat + (base + 1074).toNat := by omega
  rw [Nat.shiftLeft_eq, Nat.shiftLeft_eq, e1, Nat.pow_add, ← Nat.mul_assoc]
  cases s
  · simp
  · simp [Int.neg_mul]

theorem sum_num {s t : Bool} {m n : Nat} {i j : Int} (hi : -1074 ≤ i) (hi' : i ≤ 0) (hj : -1074 ≤ j) (hj' : j ≤ 0) (hz : (sgn s m i + sgn t n j).natAbs < huge) :
    ∃ r, (Datum.sum (.number s m i) (.number t n j)).map double.write = some r ∧ ∃ z, Num r z ∧ (z - (sgn s m i + sgn t n j)).natAbs ≤ big := by
  unfold Datum.sum
  simp only [Option.map]
  refine ⟨_, rfl, ?_⟩
  generalize hb : min i j = base
  have hb0 : -1074 ≤ base := by omega
  have hb1 : base ≤ 0 := by omega
  generalize htot : signed s m (i - base).toNat + signed t n (j - base).toNat = total
  have hsum : total * 2 ^ (base + 1074).toNat = sgn s m i + sgn t n j := by
    rw [← htot, Int.add_mul, signed_up s m i base hb0 (by omega), signed_up t n j base hb0 (by omega)]
  rw [← hsum] at hz ⊢
  have habs : total.natAbs * 2 ^ (base + 1074).toNat < huge := by
    have : (total * 2 ^ (base + 1074).toNat).natAbs = total.natAbs * 2 ^ (base + 1074).toNat := by
      rw [Int.natAbs_mul]; congr 1
    rwa [this] at hz
  have hlog : total.natAbs = 0 ∨ base + total.natAbs.log2 ≤ 20 := by
    by_cases h0 : total.natAbs = 0
    · exact Or.inl h0
    · right
      have h1 := Nat.log2_self_le h0
      have h2 : 2 ^ (total.natAbs.log2 + (base + 1074).toNat) < huge := by
        rw [Nat.pow_add]; exact Nat.lt_of_le_of_lt (Nat.mul_le_mul_right _ h1) habs
      have h3 := pow_huge h2
      omega
  obtain ⟨m', e', h1, h2, h3, h4, h5⟩ := near_err (if total = 0 then s && t else decide (total < 0)) total.natAbs base hb0 hlog
  refine ⟨_, ⟨_, m', e', h1, h2, h3, rfl⟩, ?_⟩
  rw [sgn_eq]
  have hm : (total * 2 ^ (base + 1074).toNat).natAbs = total.natAbs * 2 ^ (base + 1074).toNat := by
    rw [Int.natAbs_mul]; congr 1
  have hpos : (0 : Int) < 2 ^ (base + 1074).toNat := Int.pow_pos (by decide)
  generalize total.natAbs * 2 ^ (base + 1074).toNat = A at *
  generalize m' * 2 ^ (e' + 1074).toNat = B at *
  clear hz habs hsum h1 hlog
  rcases Int.lt_trichotomy total 0 with hlt | heq | hgt
  · have hneg : total * 2 ^ (base + 1074).toNat < 0 := Int.mul_neg_of_neg_of_pos hlt hpos
    have hs : (if total = 0 then s && t else decide (total < 0)) = true := by rw [if_neg (by omega)]; simpa using hlt
    rw [hs]
    generalize total * 2 ^ (base + 1074).toNat = T at *
    simp only [if_true]
    omega
  · subst heq
    have hT : (0 : Int) * 2 ^ (base + 1074).toNat = 0 := Int.zero_mul _
    rw [hT] at hm ⊢
    generalize (if (0 : Int) = 0 then s && t else decide ((0 : Int) < 0)) = sg
    have : A = 0 := by simpa using hm.symm
    cases sg
    · simp only [Bool.false_eq_true, if_false]; omega
    · simp only [if_true]; omega
  · have hp2 : 0 < total * 2 ^ (base + 1074).toNat := Int.mul_pos hgt hpos
    have hs : (if total = 0 then s && t else decide (total < 0)) = false := by rw [if_neg (by omega)]; simp; omega
    rw [hs]
    generalize total * 2 ^ (base + 1074).toNat = T at *
    simp only [Bool.false_eq_true, if_false]
    omega

theorem add_num {x y : Nat} {a b : Int} (hx : Num x a) (hy : Num y b) (hz : (a + b).natAbs < huge) : ∃ r z, double.add x y = some r ∧ Num r z ∧ (z - (a + b)).natAbs ≤ big := by
  obtain ⟨s, m, i, h1, h2, h3, rfl⟩ := hx
  obtain ⟨t, n, j, k1, k2, k3, rfl⟩ := hy
  unfold Format.add
  rw [h1, k1]
  obtain ⟨r, hr, z, h4, h5⟩ := sum_num h2 h3 k2 k3 hz
  exact ⟨r, z, hr, h4, h5⟩
theorem sub_num {x y : Nat} {a b : Int} (hx : Num x a) (hy : Num y b) (hz : (a - b).natAbs < huge) : ∃ r z, double.sub x y = some r ∧ Num r z ∧ (z - (a - b)).natAbs ≤ big := by
  obtain ⟨s, m, i, h1, h2, h3, rfl⟩ := hx
  obtain ⟨t, n, j, k1, k2, k3, rfl⟩ := hy
  unfold Format.sub
  rw [h1, k1]
  have e : sgn s m i - sgn t n j = sgn s m i + sgn (!t) n j := by rw [sgn_opp]; omega
  rw [e] at hz ⊢
  obtain ⟨r, hr, z, h4, h5⟩ := sum_num h2 h3 k2 k3 hz
  exact ⟨r, z, hr, h4, h5⟩
theorem order_num {x y : Nat} {a b : Int} (hx : Num x a) (hy : Num y b) : double.order x y = some (compare a b) := by
  obtain ⟨s, m, i, h1, h2, h3, rfl⟩ := hx
  obtain ⟨t, n, j, k1, k2, k3, rfl⟩ := hy
  unfold Format.order
  rw [h1, k1]
  unfold Datum.order
  generalize hb : min i j = base
  simp only [hb, Option.some.injEq]
  have e1 := signed_up s m i base (by omega) (by omega)
  have e2 := signed_up t n j base (by omega) (by omega)
  rw [← e1, ← e2]
  have hpos : (0 : Int) < 2 ^ (base + 1074).toNat := Int.pow_pos (by decide)
  generalize signed s m (i - base).toNat = u
  generalize signed t n (j - base).toNat = v
  generalize (2 : Int) ^ (base + 1074).toNat = c at *
  simp only [compare, compareOfLessAndEq]
  have l1 : u * c < v * c ↔ u < v := ⟨fun h => Int.lt_of_mul_lt_mul_right h (by omega), fun h => Int.mul_lt_mul_of_pos_right h hpos⟩
  have l2 : u * c = v * c ↔ u = v := ⟨fun h => Int.eq_of_mul_eq_mul_right (by omega) h, fun h => by rw [h]⟩
  simp only [l1, l2]

def chk (n : Nat) : Bool :=
  match double.sqrt (double.nearest false n 0) with
  | some s => match double.read s with
    | .number false m e => decide (-1074 ≤ e) && decide (e ≤ 0) && (decide (m * 2 ^ (e + 1074).toNat / big * (m * 2 ^ (e + 1074).toNat / big) ≤ n * 18446744073709551616) && decide (n * 18446744073709551616 < (m * 2 ^ (e + 1074).toNat / big + 1) * (m * 2 ^ (e + 1074).toNat / big + 1)))
    | _ => false
  | none => false
theorem chk_all : ((List.range 1001).all chk) = true := by decide +kernel

/-- r is the whole part of n's root times 2^32 -/
def R32 (n r : Nat) : Prop := r * r ≤ n * 18446744073709551616 ∧ n * 18446744073709551616 < (r + 1) * (r + 1)
theorem sqrt_R (n : Nat) (h : n ≤ 1000) : ∃ s z r, double.sqrt (double.nearest false n 0) = some s ∧ Num s ((z : Nat) : Int) ∧ r * big ≤ z ∧ z ≤ (r + 1) * big ∧ R32 n r := by
  have hc : chk n = true := List.all_eq_true.1 chk_all n (by simp; omega)
  unfold chk at hc
  split at hc
  · rename_i s hs
    split at hc
    · rename_i m e hr
      simp only [Bool.and_eq_true, decide_eq_true_eq] at hc
      obtain ⟨⟨h1, h2⟩, h3, h4⟩ := hc
      refine ⟨s, m * 2 ^ (e + 1074).toNat, m * 2 ^ (e + 1074).toNat / big, hs, ⟨false, m, e, hr, h1, h2, ?_⟩, ?_, ?_, h3, h4⟩
      · rw [sgn_eq]; rfl
      · exact Nat.div_mul_le_self _ _
      · have := Nat.lt_mul_div_succ (m * 2 ^ (e + 1074).toNat) big_pos
        rw [Nat.mul_comm big] at this
        exact Nat.le_of_lt this
    · cases hc
  · cases hc
theorem R32_le {n r : Nat} (h : n ≤ 1000) (hr : R32 n r) : r ≤ 137438953472 := by
  by_cases hc : r ≤ 137438953472
  · exact hc
  · have h1 : 137438953473 ≤ r := by omega
    have h2 := Nat.mul_le_mul h1 h1
    have h3 := hr.1
    omega

theorem cst_num : ∃ z : Nat, Num 4562254508917369340 (z : Int) ∧ Num 13785626545772145148 (-(z : Int)) ∧ 4294967 * big ≤ z := by
  refine ⟨4611686018427388 * 2 ^ ((-62 : Int) + 1074).toNat, ⟨false, 4611686018427388, -62, by decide +kernel, by decide, by decide, ?_⟩, ⟨true, 4611686018427388, -62, by decide +kernel, by decide, by decide, ?_⟩, by decide +kernel⟩
  · rw [sgn_eq]; rfl
  · rw [sgn_eq]; rfl

theorem cmp_lt {a b : Int} (h : (some (compare a b) == some Ordering.lt) = true) : a < b := by
  by_cases h1 : a < b
  · exact h1
  · by_cases h2 : a = b
    · subst h2; simp [compare, compareOfLessAndEq] at h
    · simp [compare, compareOfLessAndEq, h1, h2] at h
theorem cmp_gt {a b : Int} (h : (some (compare a b) == some Ordering.gt) = true) : b < a := by
  by_cases h1 : a < b
  · simp [compare, compareOfLessAndEq, h1] at h
  · by_cases h2 : a = b
    · subst h2; simp [compare, compareOfLessAndEq] at h
    · omega
theorem mul_lt {a b c : Int} (hc : 0 < c) (h : a * c < b * c) : a < b := Int.lt_of_mul_lt_mul_right h (by omega)

theorem gap_num (a0 a1 b0 b1 : Nat) (ha0 : a0 ≤ 1000) (ha1 : a1 ≤ 1000) (hb0 : b0 ≤ 1000) (hb1 : b1 ≤ 1000) :
    ∃ sa0 sa1 sb0 sb1 d1 d2 g, double.sqrt (double.nearest false a0 0) = some sa0 ∧ double.sqrt (double.nearest false a1 0) = some sa1 ∧ double.sqrt (double.nearest false b0 0) = some sb0 ∧ double.sqrt (double.nearest false b1 0) = some sb1 ∧
      double.sub sa0 sb0 = some d1 ∧ double.sub sa1 sb1 = some d2 ∧ double.add d1 d2 = some g ∧
      ∃ ra0 ra1 rb0 rb1 : Nat, R32 a0 ra0 ∧ R32 a1 ra1 ∧ R32 b0 rb0 ∧ R32 b1 rb1 ∧
        ((double.order g 13785626545772145148 == some .lt) = true → ra0 + ra1 + 4 ≤ rb0 + rb1) ∧ ((double.order g 4562254508917369340 == some .gt) = true → rb0 + rb1 + 4 ≤ ra0 + ra1) := by
  obtain ⟨sa0, za0, ra0, p1, p2, p3, p4, p5⟩ := sqrt_R a0 ha0
  obtain ⟨sa1, za1, ra1, q1, q2, q3, q4, q5⟩ := sqrt_R a1 ha1
  obtain ⟨sb0, zb0, rb0, r1, r2, r3, r4, r5⟩ := sqrt_R b0 hb0
  obtain ⟨sb1, zb1, rb1, t1, t2, t3, t4, t5⟩ := sqrt_R b1 hb1
  obtain ⟨c, c1, c2, c3⟩ := cst_num
  have l1 := R32_le ha0 p5
  have l2 := R32_le ha1 q5
  have l3 := R32_le hb0 r5
  have l4 := R32_le hb1 t5
  have hbig := big_pos
  have m1 := Nat.mul_le_mul_right big l1
  have m2 := Nat.mul_le_mul_right big l2
  have m3 := Nat.mul_le_mul_right big l3
  have m4 := Nat.mul_le_mul_right big l4
  rw [Nat.add_mul, Nat.one_mul] at p4 q4 r4 t4
  obtain ⟨d1, z1, e1, e2, e3⟩ := sub_num p2 r2 (by rw [huge_big]; omega)
  obtain ⟨d2, z2, f1, f2, f3⟩ := sub_num q2 t2 (by rw [huge_big]; omega)
  obtain ⟨g, zg, g1, g2, g3⟩ := add_num e2 f2 (by rw [huge_big]; omega)
  refine ⟨sa0, sa1, sb0, sb1, d1, d2, g, p1, q1, r1, t1, e1, f1, g1, ra0, ra1, rb0, rb1, p5, q5, r5, t5, ?_, ?_⟩
  · intro h
    rw [order_num g2 c2] at h
    have hlt := cmp_lt h
    have key : ((ra0 : Int) + ra1 + 4) * big < (rb0 + rb1 + 1) * big := by
      have k1 : ((ra0 : Int) + ra1 + 4) * big = (ra0 * big : Nat) + (ra1 * big : Nat) + 4 * big := by
        rw [Int.add_mul, Int.add_mul, Int.natCast_mul, Int.natCast_mul]
      have k2 : ((rb0 : Int) + rb1 + 1) * big = (rb0 * big : Nat) + (rb1 * big : Nat) + big := by
        rw [Int.add_mul, Int.add_mul, Int.natCast_mul, Int.natCast_mul, Int.one_mul]
      rw [k1, k2]; omega
    have := mul_lt (by omega) key
    omega
  · intro h
    rw [order_num g2 c1] at h
    have hlt := cmp_gt h
    have key : ((rb0 : Int) + rb1 + 4) * big < (ra0 + ra1 + 1) * big := by
      have k1 : ((rb0 : Int) + rb1 + 4) * big = (rb0 * big : Nat) + (rb1 * big : Nat) + 4 * big := by
        rw [Int.add_mul, Int.add_mul, Int.natCast_mul, Int.natCast_mul]
      have k2 : ((ra0 : Int) + ra1 + 1) * big = (ra0 * big : Nat) + (ra1 * big : Nat) + big := by
        rw [Int.add_mul, Int.add_mul, Int.natCast_mul, Int.natCast_mul, Int.one_mul]
      rw [k1, k2]; omega
    have := mul_lt (by omega) key
    omega
end Go.Proofs.Ytdmdhmcnedmnbaa.Fz
