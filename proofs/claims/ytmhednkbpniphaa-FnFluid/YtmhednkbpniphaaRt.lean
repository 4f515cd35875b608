namespace Go.Proofs.Ytmhednkbpniphaa.Rt
def isRt (n r : Int) : Prop := 0 ≤ r ∧ r * r ≤ n ∧ n < (r + 1) * (r + 1)
def rtN : Nat → Nat
  | 0 => 0
  | n + 1 => if (rtN n + 1) * (rtN n + 1) ≤ n + 1 then rtN n + 1 else rtN n
def rt (n : Int) : Int := (rtN n.toNat : Int)

theorem rtN_spec : ∀ n : Nat, rtN n * rtN n ≤ n ∧ n < (rtN n + 1) * (rtN n + 1)
  | 0 => by decide
  | n + 1 => by
    obtain ⟨h1, h2⟩ := rtN_spec n
    unfold rtN
    by_cases h : (rtN n + 1) * (rtN n + 1) ≤ n + 1
    · rw [if_pos h]
      refine ⟨h, ?_⟩
      have : (rtN n + 1 + 1) * (rtN n + 1 + 1) = (rtN n + 1) * (rtN n + 1) + 2 * (rtN n + 1) + 1 := by
        simp only [Nat.add_mul, Nat.mul_add, Nat.one_mul, Nat.mul_one]; omega
      omega
    · rw [if_neg h]; omega

theorem rt_spec (n : Int) (h : 0 ≤ n) : isRt n (rt n) := by
  obtain ⟨h1, h2⟩ := rtN_spec n.toNat
  unfold isRt rt
  refine ⟨by omega, ?_, ?_⟩
  · have : ((rtN n.toNat * rtN n.toNat : Nat) : Int) ≤ (n.toNat : Int) := Int.ofNat_le.mpr h1
    rw [Int.natCast_mul] at this; omega
  · have : (n.toNat : Int) < (((rtN n.toNat + 1) * (rtN n.toNat + 1) : Nat) : Int) := Int.ofNat_lt.mpr h2
    rw [Int.natCast_mul] at this
    simp only [Int.natCast_add, Int.natCast_one] at this
    omega

theorem sq_le {a b : Int} (h0 : 0 ≤ a) (h : a ≤ b) : a * a ≤ b * b := Int.mul_le_mul h h h0 (by omega)
theorem lt_of_sq {a b : Int} (hb : 0 ≤ b) (h : a * a < b * b) : a < b := by
  by_cases hc : a < b
  · exact hc
  · have := sq_le hb (show b ≤ a by omega); omega
theorem rt_uniq {n r : Int} (h0 : 0 ≤ r) (h1 : r * r ≤ n) (h2 : n < (r + 1) * (r + 1)) : r = rt n := by
  have h3 : 0 ≤ r * r := Int.mul_nonneg h0 h0
  obtain ⟨a0, a1, a2⟩ := rt_spec n (by omega)
  have b1 := lt_of_sq (a := r) (b := rt n + 1) (by omega) (by omega)
  have b2 := lt_of_sq (a := rt n) (b := r + 1) (by omega) (by omega)
  omega
theorem le_root {n r : Int} (hn : n ≤ 1000000000000) (h1 : r * r ≤ n) : r ≤ 1000000 := by
  have := lt_of_sq (a := r) (b := 1000001) (by decide) (by omega)
  omega
theorem rt_bd {n : Int} (h0 : 0 ≤ n) (h1 : n ≤ 1000000000000) : 0 ≤ rt n ∧ rt n ≤ 1000000 := by
  obtain ⟨a0, a1, a2⟩ := rt_spec n h0
  exact ⟨a0, le_root h1 a1⟩
theorem sq_bd {r b : Int} (h0 : 0 ≤ r) (h1 : r ≤ b) : 0 ≤ r * r ∧ r * r ≤ b * b := ⟨Int.mul_nonneg h0 h0, sq_le h0 h1⟩
def sqB (n : Int) : Bool := decide (0 ≤ n ∧ n ≤ 1000000000000)

/-- Heron's steps from x on, with room for so many of them -/
def next (n x : Int) : Int := (x + n / x) / 2
def heron (n : Int) : Nat → Int → List Int
  | 0, x => [x]
  | k + 1, x => if next n x < x then x :: heron n k (next n x) else [x]

theorem next_pos {n x : Int} (hn : 1 ≤ n) (hx : 1 ≤ x) : 1 ≤ next n x := by
  unfold next
  by_cases h : x = 1
  · subst h; rw [Int.ediv_one]; omega
  · have := Int.ediv_nonneg (show 0 ≤ n by omega) (show 0 ≤ x by omega); omega
theorem div_bd {n x : Int} (hn : 0 ≤ n) (hx : 1 ≤ x) : 0 ≤ n / x ∧ n / x ≤ n := ⟨Int.ediv_nonneg hn (by omega), Int.ediv_le_self _ hn⟩

theorem heron_fuel (n : Int) (hn : 1 ≤ n) : ∀ (k j : Nat) (x : Int), 1 ≤ x → x ≤ k → x ≤ j → heron n k x = heron n j x
  | 0, _, x, h1, hk, _ => by omega
  | _ + 1, 0, x, h1, _, hj => by omega
  | k + 1, j + 1, x, h1, hk, hj => by
    simp only [heron]
    by_cases h : next n x < x
    · rw [if_pos h, if_pos h]
      have := next_pos hn h1
      rw [heron_fuel n hn k j (next n x) this (by omega) (by omega)]
    · rw [if_neg h, if_neg h]

def from_ (n x : Int) : List Int := heron n x.toNat x
theorem from_step {n x : Int} (hn : 1 ≤ n) (hx : 1 ≤ x) (h : next n x < x) : from_ n x = x :: from_ n (next n x) := by
  have h1 := next_pos hn hx
  unfold from_
  obtain ⟨k, hk⟩ : ∃ k, x.toNat = k + 1 := ⟨x.toNat - 1, by omega⟩
  rw [hk]
  simp only [heron, if_pos h]
  rw [heron_fuel n hn k (next n x).toNat (next n x) h1 (by omega) (by omega)]
theorem from_last {n x : Int} (hx : 1 ≤ x) (h : ¬ next n x < x) : from_ n x = [x] := by
  unfold from_
  obtain ⟨k, hk⟩ : ∃ k, x.toNat = k + 1 := ⟨x.toNat - 1, by omega⟩
  rw [hk]
  simp only [heron, if_neg h]
theorem heron_len (n : Int) : ∀ (k : Nat) (x : Int), 1 ≤ (heron n k x).length ∧ (heron n k x).length ≤ k + 1
  | 0, x => by simp [heron]
  | k + 1, x => by
    simp only [heron]
    by_cases h : next n x < x
    · rw [if_pos h]
      have := heron_len n k (next n x)
      simp only [List.length_cons]; omega
    · rw [if_neg h]; simp
theorem from_len {n x : Int} (h0 : 0 ≤ x) (h : x ≤ 1000000000000) : 1 ≤ (from_ n x).length ∧ (from_ n x).length ≤ 1000000000001 := by
  have := heron_len n x.toNat x
  unfold from_; omega
end Go.Proofs.Ytmhednkbpniphaa.Rt
