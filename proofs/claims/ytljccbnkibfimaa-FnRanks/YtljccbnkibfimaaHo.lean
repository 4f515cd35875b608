/-
  What SmithOrder answers, the program's and the model's: families by weight for each.
-/
import Derived.Test.YtljccbnkibfimaaHn
import Derived.Test.YtljccbnkibfimaaHh
import Derived.BigQuiet
import Derived.Deep.Cut
namespace Go.Proofs.Ytljccbnkibfimaa
open Go.RowKit Go.Sort

namespace Fm
/-- A weight for each, as a whole number: so much of 2520. -/
def key (f : Int × Int) : Int := f.1 * (2520 / f.2)
def keys (L : List (Int × Int)) : List Int := L.map key
theorem keys_len (L : List (Int × Int)) : (keys L).length = L.length := by simp [keys]
theorem keys_val (L : List (Int × Int)) (i : Nat) : Rk.val (keys L) i = key (L.getD i (0, 0)) := by
  simp only [Rk.val, keys, List.getD_eq_getElem?_getD, List.getElem?_map]
  cases L[i]? <;> simp [key]
theorem part {m : Int} (h0 : 1 ≤ m) (h1 : m ≤ 9) : 0 < 2520 / m ∧ m * (2520 / m) = 2520 := by
  have : m = 1 ∨ m = 2 ∨ m = 3 ∨ m = 4 ∨ m = 5 ∨ m = 6 ∨ m = 7 ∨ m = 8 ∨ m = 9 := by omega
  rcases this with rfl | rfl | rfl | rfl | rfl | rfl | rfl | rfl | rfl <;> decide
theorem lt_iff {f g : Int × Int} (hf : okF f = true) (hg : okF g = true) : f.1 * g.2 < g.1 * f.2 ↔ key f < key g := by
  obtain ⟨_, f1, f2⟩ := okF_yes hf
  obtain ⟨_, g1, g2⟩ := okF_yes hg
  obtain ⟨cf, hf'⟩ := part f1 f2
  obtain ⟨cg, hg'⟩ := part g1 g2
  unfold key
  generalize 2520 / f.2 = a at *
  generalize 2520 / g.2 = b at *
  have hab : 0 < a * b := Int.mul_pos cf cg
  have e1 : f.1 * g.2 * (a * b) = f.1 * a * (g.2 * b) := by ac_rfl
  have e2 : g.1 * f.2 * (a * b) = g.1 * b * (f.2 * a) := by ac_rfl
  rw [hg'] at e1
  rw [hf'] at e2
  constructor
  · intro h
    have := Int.mul_lt_mul_of_pos_right h hab
    omega
  · intro h
    have h2 : f.1 * g.2 * (a * b) < g.1 * f.2 * (a * b) := by omega
    exact Int.lt_of_mul_lt_mul_right h2 (Int.le_of_lt hab)
theorem le_iff {f g : Int × Int} (hf : okF f = true) (hg : okF g = true) : f.1 * g.2 ≤ g.1 * f.2 ↔ key f ≤ key g := by
  have := lt_iff hg hf
  constructor <;> intro h <;> omega
theorem cmp_key {f g : Int × Int} (hf : okF f = true) (hg : okF g = true) : cmpI (f.1 * g.2) (g.1 * f.2) = cmpI (key f) (key g) := by
  have h1 := lt_iff hf hg
  have h2 := lt_iff hg hf
  unfold cmpI
  by_cases a : f.1 * g.2 < g.1 * f.2
  · rw [if_pos a, if_pos (h1.1 a)]
  · rw [if_neg a, if_neg (fun h => a (h1.2 h))]
    by_cases b : g.1 * f.2 < f.1 * g.2
    · rw [if_pos b, if_pos (h2.1 b)]
    · rw [if_neg b, if_neg (fun h => b (h2.2 h))]
theorem prod_bd {x y : Int} (hx : 0 ≤ x ∧ x ≤ 1000) (hy : 1 ≤ y ∧ y ≤ 9) : 0 ≤ x * y ∧ x * y ≤ 100000 := term_bd hx (by omega)
/-- The order by weight for each. -/
def soL (L : List (Int × Int)) : List Int := nats (Rk.rank (keys L))
theorem soL_len (L : List (Int × Int)) : (soL L).length = L.length := by rw [soL, nats_len, Rk.rank_len, keys_len]
end Fm
end Go.Proofs.Ytljccbnkibfimaa
