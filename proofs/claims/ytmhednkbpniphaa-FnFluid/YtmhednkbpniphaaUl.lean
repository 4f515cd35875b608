/-
  Plain facts, of no program: numbers by digits of a great base, lowest terms by what divides both.
-/
import Derived.Test.YtmhednkbpniphaaSa
namespace Go.Proofs.Ytmhednkbpniphaa.Lg

def B : Nat := 1000000001
theorem B_pos : 0 < B := by decide
theorem pw_pos (i : Nat) : 0 < B ^ i := Nat.pow_pos B_pos
def dig (n i : Nat) : Nat := n / B ^ i % B
theorem dig_lt (n i : Nat) : dig n i < B := Nat.mod_lt _ B_pos
theorem dig_eq (n i : Nat) : dig n i = n % B ^ (i + 1) / B ^ i := by
  unfold dig; rw [Nat.pow_succ, Nat.mod_mul_right_div_self]
theorem mod_succ (n i : Nat) : n % B ^ (i + 1) = n % B ^ i + B ^ i * dig n i := Nat.mod_pow_succ
def lng (n : Nat) : List Int := (List.range 21).map fun i => (dig n i : Int)
theorem lng_len (n : Nat) : (lng n).length = 21 := by simp [lng]
theorem lng_at (n : Nat) {i : Nat} (hi : i < 21) : (lng n).getD i 0 = (dig n i : Int) := by simp [lng, hi]
theorem lng_ext {xs : List Int} {n : Nat} (hl : xs.length = 21) (h : ∀ i, i < 21 → xs.getD i 0 = (dig n i : Int)) : xs = lng n := by
  apply List.ext_getElem (by rw [hl, lng_len])
  intro i h1 h2
  have := h i (by omega)
  rw [Pf.getD_lt xs 0 h1] at this
  rw [this, ← lng_at n (by omega), Pf.getD_lt _ 0 h2]

/-- What is carried on when digit i is reached. -/
def tc (n b i : Nat) : Nat := n % B ^ i * b / B ^ i
def tx (n b i : Nat) : Nat := n % B ^ (i + 1) * b / B ^ i
theorem tc_zero (n b : Nat) : tc n b 0 = 0 := by simp [tc, Nat.mod_one]
theorem t_step (n b i : Nat) : tc n b i + dig n i * b = tx n b i := by
  unfold tc tx
  rw [mod_succ, Nat.add_mul, Nat.mul_assoc, Nat.add_mul_div_left _ _ (pw_pos i)]
theorem t_dig (n b i : Nat) : tx n b i % B = dig (n * b) i := by
  unfold tx
  have h1 : dig (n % B ^ (i + 1) * b) i = dig (n * b) i := by
    rw [dig_eq, dig_eq, Nat.mul_mod, Nat.mod_mod, ← Nat.mul_mod]
  rw [← h1]; rfl
theorem t_carry (n b i : Nat) : tx n b i / B = tc n b (i + 1) := by
  unfold tx tc; rw [Nat.div_div_eq_div_mul, ← Nat.pow_succ]
theorem tc_le (n b i : Nat) : tc n b i ≤ b := by
  unfold tc
  have h := Nat.le_of_lt (Nat.mod_lt n (pw_pos i))
  have := Nat.mul_le_mul_right b h
  exact Nat.div_le_of_le_mul this

def pc (n m i : Nat) : Nat := (n % B ^ i + m % B ^ i) / B ^ i
def px (n m i : Nat) : Nat := (n % B ^ (i + 1) + m % B ^ (i + 1)) / B ^ i
theorem pc_zero (n m : Nat) : pc n m 0 = 0 := by simp [pc, Nat.mod_one]
theorem p_step (n m i : Nat) : pc n m i + (dig n i + dig m i) = px n m i := by
  unfold pc px
  rw [mod_succ, mod_succ, show n % B ^ i + B ^ i * dig n i + (m % B ^ i + B ^ i * dig m i) = n % B ^ i + m % B ^ i + B ^ i * (dig n i + dig m i) by rw [Nat.mul_add]; omega, Nat.add_mul_div_left _ _ (pw_pos i)]
theorem p_dig (n m i : Nat) : px n m i % B = dig (n + m) i := by
  unfold px
  have h1 : dig (n % B ^ (i + 1) + m % B ^ (i + 1)) i = dig (n + m) i := by
    rw [dig_eq, dig_eq, Nat.add_mod, Nat.mod_mod, Nat.mod_mod, ← Nat.add_mod]
  rw [← h1]; rfl
theorem p_carry (n m i : Nat) : px n m i / B = pc n m (i + 1) := by
  unfold px pc; rw [Nat.div_div_eq_div_mul, ← Nat.pow_succ]
theorem pc_le (n m i : Nat) : pc n m i ≤ 1 := by
  unfold pc
  have h1 := Nat.mod_lt n (pw_pos i)
  have h2 := Nat.mod_lt m (pw_pos i)
  have : (n % B ^ i + m % B ^ i) / B ^ i < 2 := Nat.div_lt_of_lt_mul (by omega)
  omega

/-- What is left over above digit i. -/
def oc (n b i : Nat) : Nat := n / B ^ i % b
theorem up (n i : Nat) : n / B ^ i = n / B ^ (i + 1) * B + dig n i := by
  unfold dig
  rw [Nat.pow_succ, ← Nat.div_div_eq_div_mul]
  have := Nat.div_add_mod (n / B ^ i) B
  rw [Nat.mul_comm] at this
  exact this.symm
theorem oc_top {n : Nat} (b : Nat) (h : n < B ^ 21) : oc n b 21 = 0 := by unfold oc; rw [Nat.div_eq_of_lt h]; simp
theorem oc_lt (n : Nat) {b : Nat} (i : Nat) (hb : 0 < b) : oc n b i < b := Nat.mod_lt _ hb
theorem o_rest (n b i : Nat) : (oc n b (i + 1) * B + dig n i) % b = oc n b i := by
  unfold oc
  conv => rhs; rw [up n i]
  rw [Nat.add_mod, Nat.mul_mod, Nat.mod_mod, ← Nat.mul_mod, ← Nat.add_mod]
theorem o_dig (n : Nat) {b : Nat} (i : Nat) (hb : 0 < b) : (oc n b (i + 1) * B + dig n i) / b = dig (n / b) i := by
  have hlt : (oc n b (i + 1) * B + dig n i) / b < B := by
    apply Nat.div_lt_of_lt_mul
    have h1 := oc_lt n (i + 1) hb
    have h2 := dig_lt n i
    have h3 : (oc n b (i + 1) + 1) * B ≤ b * B := Nat.mul_le_mul_right B h1
    rw [Nat.add_mul, Nat.one_mul] at h3
    omega
  have hN : n / B ^ i = b * (n / B ^ (i + 1) / b * B) + (oc n b (i + 1) * B + dig n i) := by
    rw [up n i]
    have h := Nat.div_add_mod (n / B ^ (i + 1)) b
    unfold oc
    generalize n / B ^ (i + 1) / b = q at *
    generalize n / B ^ (i + 1) % b = r at *
    rw [← h, Nat.add_mul, Nat.mul_assoc]
    omega
  have hd : dig (n / b) i = n / B ^ i / b % B := by unfold dig; rw [Nat.div_div_eq_div_mul, Nat.mul_comm b, ← Nat.div_div_eq_div_mul]
  rw [hd, hN]
  generalize oc n b (i + 1) * B + dig n i = x at *
  generalize n / B ^ (i + 1) / b = q
  rw [Nat.mul_add_div hb, Nat.mul_comm q B, Nat.mul_add_mod, Nat.mod_eq_of_lt hlt]
theorem o_bd (n : Nat) {b : Nat} (i : Nat) (hb : 0 < b) (h : b ≤ 1000000000) : oc n b (i + 1) * B + dig n i ≤ 1000000001000000000 := by
  have h1 := oc_lt n (i + 1) hb
  have h2 := dig_lt n i
  have h3 : oc n b (i + 1) * B ≤ 999999999 * B := Nat.mul_le_mul_right B (by omega)
  have h4 : B = 1000000001 := rfl
  generalize oc n b (i + 1) * B = y at *
  generalize dig n i = d at *
  rw [h4] at h2 h3
  omega

/-- What withoutCommon makes of two numbers. -/
theorem common_step {n b m x C : Nat} (h1 : n = m * C) (h2 : b = x * C) (hx : 0 < x) : let c := Nat.gcd x (m % x); n = m / c * (C * c) ∧ b = x / c * (C * c) ∧ 0 < c ∧ 0 < x / c := by
  intro c
  have e : c = Nat.gcd m x := by
    show Nat.gcd x (m % x) = _
    rw [Nat.gcd_comm m x, Nat.gcd_rec x m, Nat.gcd_comm]
  have c0 : 0 < c := Nat.gcd_pos_of_pos_left _ hx
  have d1 : c ∣ m := e ▸ Nat.gcd_dvd_left m x
  have d2 : c ∣ x := e ▸ Nat.gcd_dvd_right m x
  refine ⟨?_, ?_, c0, Nat.div_pos (Nat.le_of_dvd hx d2) c0⟩
  · rw [h1, Nat.mul_comm C c, ← Nat.mul_assoc, Nat.div_mul_cancel d1]
  · rw [h2, Nat.mul_comm C c, ← Nat.mul_assoc, Nat.div_mul_cancel d2]
theorem common_end {m x : Nat} (h : Nat.gcd x (m % x) = 1) : Nat.gcd m x = 1 := by
  rw [Nat.gcd_comm m x, Nat.gcd_rec x m, Nat.gcd_comm]; exact h
theorem common_less {m x : Nat} (hx : 0 < x) (h : Nat.gcd x (m % x) ≠ 1) : x / Nat.gcd x (m % x) < x := by
  have : 0 < Nat.gcd x (m % x) := Nat.gcd_pos_of_pos_left _ hx
  exact Nat.div_lt_self hx (by omega)
/-- The two numbers without what divides both. -/
def fewN (n b : Nat) : Nat := n / Nat.gcd n b
def fewD (n b : Nat) : Nat := b / Nat.gcd n b
theorem few_uniq {n b m x C : Nat} (h1 : n = m * C) (h2 : b = x * C) (hx : 0 < b) (hg : Nat.gcd m x = 1) : m = fewN n b ∧ x = fewD n b := by
  have hC : 0 < C := by
    rcases Nat.eq_zero_or_pos C with h | h
    · subst h; omega
    · exact h
  have e : Nat.gcd n b = C := by rw [h1, h2, Nat.gcd_mul_right, hg, Nat.one_mul]
  unfold fewN fewD
  rw [e, h1, h2, Nat.mul_div_cancel _ hC, Nat.mul_div_cancel _ hC]
  exact ⟨rfl, rfl⟩
theorem few_facts {n b : Nat} (hb : 0 < b) : ∃ C, n = fewN n b * C ∧ b = fewD n b * C ∧ Nat.gcd (fewN n b) (fewD n b) = 1 ∧ 0 < C := by
  have hg : 0 < Nat.gcd n b := Nat.gcd_pos_of_pos_right _ hb
  have e1 : n = fewN n b * Nat.gcd n b := (Nat.div_mul_cancel (Nat.gcd_dvd_left n b)).symm
  have e2 : b = fewD n b * Nat.gcd n b := (Nat.div_mul_cancel (Nat.gcd_dvd_right n b)).symm
  refine ⟨Nat.gcd n b, e1, e2, ?_, hg⟩
  have h := Nat.gcd_mul_right (fewN n b) (Nat.gcd n b) (fewD n b)
  rw [← e1, ← e2] at h
  have h' : 1 * Nat.gcd n b = Nat.gcd (fewN n b) (fewD n b) * Nat.gcd n b := by rw [Nat.one_mul]; exact h
  exact (Nat.eq_of_mul_eq_mul_right hg h').symm

/-- The sum of some fractions over one denominator, not yet in lowest terms; what is left when the first k are gone through. -/
def sumN : List (Int × Int) → Nat × Nat
  | l => l.foldl (fun s p => (s.1 * p.2.toNat + s.2 * p.1.toNat, s.2 * p.2.toNat)) (0, 1)
def low : List (Int × Int) → Nat × Nat → Nat × Nat
  | l, s => l.foldl (fun s p => (fewN s.1 p.2.toNat, s.2 * fewD s.1 p.2.toNat)) s
theorem sumN_snoc (l : List (Int × Int)) (p : Int × Int) : sumN (l ++ [p]) = ((sumN l).1 * p.2.toNat + (sumN l).2 * p.1.toNat, (sumN l).2 * p.2.toNat) := by
  simp [sumN, List.foldl_append]
theorem low_snoc (l : List (Int × Int)) (s : Nat × Nat) (p : Int × Int) : low (l ++ [p]) s = (fewN (low l s).1 p.2.toNat, (low l s).2 * fewD (low l s).1 p.2.toNat) := by
  simp [low, List.foldl_append]
/-- All of them are parts of f: m of them each. -/
def frs (f : Nat) (ms : List Nat) : List (Int × Int) := ms.map fun (m : Nat) => Sh.mk (m : Int) (f : Int)
theorem mk_nat {m f : Nat} (hf : 0 < f) : ∃ a b : Nat, Sh.mk (m : Int) (f : Int) = ((a : Int), (b : Int)) ∧ a * f = m * b ∧ 0 < b ∧ b ≤ f ∧ a ≤ m ∧ Nat.gcd a b = 1 := by
  obtain ⟨G, hG, e1, e2, eg⟩ := Sh.mk_facts (m : Int) (f : Int) (by omega)
  generalize Sh.mk (m : Int) (f : Int) = p at *
  obtain ⟨p1, p2⟩ := p
  dsimp only at e1 e2 eg
  have hp2 : 0 < p2 := by
    rcases Int.lt_or_le 0 p2 with h | h
    · exact h
    · have : G * p2 ≤ 0 := Int.mul_nonpos_of_nonneg_of_nonpos (by omega) h
      omega
  have hp1 : 0 ≤ p1 := by
    rcases Int.lt_or_le p1 0 with h | h
    · have : G * p1 < 0 := Int.mul_neg_of_pos_of_neg hG h
      omega
    · exact h
  obtain ⟨a, rfl⟩ := Int.eq_ofNat_of_zero_le hp1
  obtain ⟨b, rfl⟩ := Int.eq_ofNat_of_zero_le (show 0 ≤ p2 by omega)
  obtain ⟨g, rfl⟩ := Int.eq_ofNat_of_zero_le (show 0 ≤ G by omega)
  have f1 : m = g * a := by exact_mod_cast e1
  have f2 : f = g * b := by exact_mod_cast e2
  have g0 : 0 < g := by omega
  have eg' : Nat.gcd a b = 1 := by
    unfold Fr.g at eg
    have : ((Nat.gcd a b : Nat) : Int) = 1 := eg
    omega
  refine ⟨a, b, rfl, ?_, by omega, ?_, ?_, eg'⟩
  · rw [f1, f2]; ac_rfl
  · rw [f2]; exact Nat.le_mul_of_pos_left b g0
  · rw [f1]; exact Nat.le_mul_of_pos_left a g0
def prod : List (Int × Int) → Nat
  | [] => 1
  | p :: r => p.2.toNat * prod r
theorem prod_snoc (l : List (Int × Int)) (p : Int × Int) : prod (l ++ [p]) = prod l * p.2.toNat := by
  induction l with
  | nil => simp [prod]
  | cons x r ih => simp only [List.cons_append, prod, ih]; ac_rfl
theorem sumN_den (l : List (Int × Int)) : (sumN l).2 = prod l := by
  suffices h : ∀ (l : List (Int × Int)) (s : Nat × Nat), (l.foldl (fun s p => (s.1 * p.2.toNat + s.2 * p.1.toNat, s.2 * p.2.toNat)) s).2 = s.2 * prod l by
    have := h l (0, 1)
    simpa [sumN] using this
  intro l
  induction l with
  | nil => intro s; simp [prod]
  | cons x r ih => intro s; rw [List.foldl_cons, ih]; simp only [prod]; ac_rfl
theorem sumN_num {f : Nat} (hf : 0 < f) : ∀ (ms : List Nat) (s : Nat × Nat) (M : Nat), s.1 * f = M * s.2 → let r := (ms.map fun (m : Nat) => Sh.mk (m : Int) (f : Int)).foldl (fun s p => (s.1 * p.2.toNat + s.2 * p.1.toNat, s.2 * p.2.toNat)) s; r.1 * f = (M + ms.sum) * r.2
  | [], s, M, h => by simpa using h
  | m :: ms, s, M, h => by
    obtain ⟨a, b, e, h1, h2, h3, h4, _⟩ := mk_nat (m := m) hf
    simp only [List.map_cons, List.foldl_cons, List.sum_cons]
    rw [e]
    have := sumN_num hf ms (s.1 * b + s.2 * a, s.2 * b) (M + m) (by
      show (s.1 * b + s.2 * a) * f = (M + m) * (s.2 * b)
      have e1 : s.1 * b * f = s.1 * f * b := by ac_rfl
      have e2 : s.2 * a * f = s.2 * (a * f) := by ac_rfl
      rw [Nat.add_mul, e1, e2, h, h1, Nat.add_mul]; ac_rfl)
    simp only [Int.toNat_natCast] at this ⊢
    rw [this, Nat.add_assoc]
/-- Behind the first k: what is left over the rest, and no number divides both. -/
theorem low_inv {f : Nat} (hf : 0 < f) : ∀ (ms : List Nat) (s : Nat × Nat) (M R : Nat), s.1 * f = M * (s.2 * prod (ms.map fun (m : Nat) => Sh.mk (m : Int) (f : Int)) * R) → Nat.gcd s.1 s.2 = 1 →
    let r := low (ms.map fun (m : Nat) => Sh.mk (m : Int) (f : Int)) s; r.1 * f = M * (r.2 * R) ∧ Nat.gcd r.1 r.2 = 1
  | [], s, M, R, h, hg => by simp only [List.map_nil, prod, Nat.mul_one] at h; exact ⟨h, hg⟩
  | m :: ms, s, M, R, h, hg => by
    obtain ⟨a, b, e, h1, h2, h3, h4, _⟩ := mk_nat (m := m) hf
    obtain ⟨C, c1, c2, c3, c4⟩ := few_facts (n := s.1) h2
    simp only [List.map_cons, prod, e, Int.toNat_natCast] at h
    have hrec := low_inv hf ms (fewN s.1 b, s.2 * fewD s.1 b) M R (by
      show fewN s.1 b * f = M * (s.2 * fewD s.1 b * prod (ms.map fun (m : Nat) => Sh.mk (m : Int) (f : Int)) * R)
      apply Nat.eq_of_mul_eq_mul_right c4
      have e1 : fewN s.1 b * f * C = fewN s.1 b * C * f := by ac_rfl
      rw [e1, ← c1, h]
      conv => lhs; rw [c2]
      ac_rfl) (by
      show Nat.gcd (fewN s.1 b) (s.2 * fewD s.1 b) = 1
      have q1 : Nat.gcd (fewN s.1 b) s.2 = 1 := by
        have : fewN s.1 b ∣ s.1 := ⟨C, c1⟩
        exact Nat.eq_one_of_dvd_one (hg ▸ Nat.gcd_dvd_gcd_of_dvd_left s.2 this)
      exact Nat.Coprime.mul_right q1 c3)
    simp only [List.map_cons, low, List.foldl_cons, e, Int.toNat_natCast] at hrec ⊢
    exact hrec
theorem low_end {f M x y : Nat} (hf : 0 < f) (h : x * f = M * y) (hg : Nat.gcd x y = 1) : Sh.mk (M : Int) (f : Int) = ((x : Int), (y : Int)) ∧ x ≤ M ∧ y ≤ f := by
  obtain ⟨a, b, e, h1, h2, h3, h4, hab⟩ := mk_nat (m := M) hf
  have hx : x * b = a * y := by
    apply Nat.eq_of_mul_eq_mul_right hf
    have e1 : x * b * f = x * f * b := by ac_rfl
    have e2 : a * y * f = a * f * y := by ac_rfl
    rw [e1, e2, h, h1]; ac_rfl
  have d1 : x ∣ a := Nat.Coprime.dvd_of_dvd_mul_right hg (hx ▸ Nat.dvd_mul_right x b)
  have d2 : a ∣ x := Nat.Coprime.dvd_of_dvd_mul_right hab (hx ▸ Nat.dvd_mul_right a y)
  have d3 : y ∣ b := Nat.Coprime.dvd_of_dvd_mul_left (by rw [Nat.Coprime, Nat.gcd_comm]; exact hg) (hx ▸ Nat.dvd_mul_left y a)
  have d4 : b ∣ y := Nat.Coprime.dvd_of_dvd_mul_left (by rw [Nat.Coprime, Nat.gcd_comm]; exact hab) (hx ▸ Nat.dvd_mul_left b x)
  have exa := Nat.dvd_antisymm d1 d2
  have eyb := Nat.dvd_antisymm d3 d4
  subst exa eyb
  exact ⟨e, h4, h3⟩
theorem frs_take (f : Nat) (ms : List Nat) (k : Nat) : (frs f ms).take k = frs f (ms.take k) := by simp [frs, List.map_take]
theorem prod_append (l r : List (Int × Int)) : prod (l ++ r) = prod l * prod r := by
  induction l with
  | nil => simp [prod]
  | cons x l ih => simp only [List.cons_append, prod, ih]; ac_rfl
/-- What stands in lowest on the way divides the parts. -/
theorem low_way {f M x y R : Nat} (hf : 0 < f) (h : x * f = M * (y * R)) (hg : Nat.gcd x y = 1) : y ≤ f := by
  have d : y ∣ x * f := ⟨M * R, by rw [h]; ac_rfl⟩
  exact Nat.le_of_dvd hf (Nat.Coprime.dvd_of_dvd_mul_left (by rw [Nat.Coprime, Nat.gcd_comm]; exact hg) d)
/-- The first loop's outcome, and what the second one makes of it, all the way. -/
theorem low_all {f : Nat} (hf : 0 < f) (ms : List Nat) (k : Nat) : ∃ R, (low ((frs f ms).take k) ((sumN (frs f ms)).1, 1)).1 * f = ms.sum * ((low ((frs f ms).take k) ((sumN (frs f ms)).1, 1)).2 * R) ∧ Nat.gcd (low ((frs f ms).take k) ((sumN (frs f ms)).1, 1)).1 (low ((frs f ms).take k) ((sumN (frs f ms)).1, 1)).2 = 1 ∧ (k = ms.length → R = 1) := by
  have h1 := sumN_num hf ms (0, 1) 0 (by simp)
  have h2 : (sumN (frs f ms)).1 * f = ms.sum * (sumN (frs f ms)).2 := by simpa [sumN, frs] using h1
  rw [sumN_den] at h2
  have hs : frs f ms = frs f (ms.take k) ++ frs f (ms.drop k) := by
    unfold frs; rw [← List.map_append, List.take_append_drop]
  have h3 := low_inv hf (ms.take k) ((sumN (frs f ms)).1, 1) ms.sum (prod (frs f (ms.drop k))) (by
    show (sumN (frs f ms)).1 * f = ms.sum * (1 * prod (frs f (ms.take k)) * prod (frs f (ms.drop k)))
    rw [h2, Nat.one_mul, ← prod_append, ← hs]) (by simp)
  refine ⟨prod (frs f (ms.drop k)), ?_, ?_, fun e => ?_⟩
  · rw [frs_take]; exact h3.1
  · rw [frs_take]; exact h3.2
  · rw [e, List.drop_length]; rfl
theorem low_start {f : Nat} (hf : 0 < f) (ms : List Nat) (k : Nat) : (low ((frs f ms).take k) ((sumN (frs f ms)).1, 1)).2 ≤ f ∧ (low ((frs f ms).take k) ((sumN (frs f ms)).1, 1)).1 ≤ (sumN (frs f ms)).1 := by
  obtain ⟨R, h1, h2, _⟩ := low_all hf ms k
  refine ⟨low_way hf h1 h2, ?_⟩
  have : ∀ (l : List (Int × Int)) (s : Nat × Nat), (low l s).1 ≤ s.1 := by
    intro l
    induction l with
    | nil => intro s; exact Nat.le_refl _
    | cons x l ih => intro s; exact Nat.le_trans (ih _) (Nat.div_le_self _ _)
  exact this _ _
theorem low_final {f : Nat} (hf : 0 < f) (ms : List Nat) : Sh.mk (ms.sum : Int) (f : Int) = (((low (frs f ms) ((sumN (frs f ms)).1, 1)).1 : Int), ((low (frs f ms) ((sumN (frs f ms)).1, 1)).2 : Int)) ∧ (low (frs f ms) ((sumN (frs f ms)).1, 1)).1 ≤ ms.sum := by
  obtain ⟨R, h1, h2, h3⟩ := low_all hf ms ms.length
  have ht : (frs f ms).take ms.length = frs f ms := by rw [List.take_of_length_le]; simp [frs]
  rw [ht] at h1 h2
  rw [h3 rfl, Nat.mul_one] at h1
  have := low_end hf h1 h2
  exact ⟨this.1, this.2.1⟩
theorem sumN_le : ∀ (l : List (Int × Int)) (s : Nat × Nat) (K M : Nat), (∀ p ∈ l, p.1.toNat ≤ 1000 ∧ p.2.toNat ≤ 100) → s.2 ≤ K → s.1 ≤ M * K → (l.foldl (fun s p => (s.1 * p.2.toNat + s.2 * p.1.toNat, s.2 * p.2.toNat)) s).1 ≤ (M + 1000 * l.length) * (K * 100 ^ l.length)
  | [], s, K, M, _, _, h2 => by simpa using h2
  | p :: l, s, K, M, hp, h1, h2 => by
    obtain ⟨p1, p2⟩ := hp p (by simp)
    have a1 : s.2 * p.2.toNat ≤ K * 100 := Nat.mul_le_mul h1 p2
    have a2 : s.1 * p.2.toNat ≤ M * K * 100 := Nat.mul_le_mul h2 p2
    have a3 : s.2 * p.1.toNat ≤ K * 1000 := Nat.mul_le_mul h1 p1
    have := sumN_le l (s.1 * p.2.toNat + s.2 * p.1.toNat, s.2 * p.2.toNat) (K * 100) (M + 1000) (fun q hq => hp q (by simp [hq])) a1 (by
      show s.1 * p.2.toNat + s.2 * p.1.toNat ≤ (M + 1000) * (K * 100)
      have e : (M + 1000) * (K * 100) = M * K * 100 + K * 100000 := by rw [Nat.add_mul, Nat.mul_assoc]; omega
      rw [e]; omega)
    rw [List.foldl_cons]
    refine Nat.le_trans this (Nat.le_of_eq ?_)
    rw [List.length_cons, Nat.pow_succ]
    congr 1
    · omega
    · ac_rfl
theorem sum_small {f : Nat} {ms : List Nat} (hf : 0 < f) (f1 : f ≤ 100) (hm : ∀ k, k < ms.length → ms.getD k 0 ≤ 1000) (hl : ms.length ≤ 8) : (sumN (frs f ms)).1 < B ^ 21 := by
  have h := sumN_le (frs f ms) (0, 1) 1 0 (fun p hp => by
    simp only [frs, List.mem_map] at hp
    obtain ⟨m, hm', rfl⟩ := hp
    obtain ⟨a, b, e, _, _, h3, h4, _⟩ := mk_nat (m := m) hf
    rw [e]
    obtain ⟨i, hi, rfl⟩ := List.getElem_of_mem hm'
    have := hm i hi
    rw [Pf.getD_lt _ _ hi] at this
    simp only [Int.toNat_natCast]
    omega) (by simp) (by simp)
  have hl' : (frs f ms).length ≤ 8 := by simpa [frs] using hl
  have h2 : (0 + 1000 * (frs f ms).length) * (1 * 100 ^ (frs f ms).length) ≤ 8000 * 100 ^ 8 := Nat.mul_le_mul (by omega) (by rw [Nat.one_mul]; exact Nat.pow_le_pow_right (by decide) hl')
  have h3 : 8000 * 100 ^ 8 < B ^ 21 := by decide
  exact Nat.lt_of_le_of_lt (Nat.le_trans h h2) h3
theorem sum_le_many : ∀ (ms : List Nat), (∀ k, k < ms.length → ms.getD k 0 ≤ 1000) → ms.sum ≤ 1000 * ms.length
  | [], _ => by simp
  | m :: r, h => by
    have h0 := h 0 (by simp)
    have := sum_le_many r (fun k hk => by simpa using h (k + 1) (by simpa using hk))
    simp at h0
    simp only [List.sum_cons, List.length_cons]
    omega
end Go.Proofs.Ytmhednkbpniphaa.Lg
