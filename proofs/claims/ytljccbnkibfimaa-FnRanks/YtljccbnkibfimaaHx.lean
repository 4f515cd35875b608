/-
  FnRanks, FnSmith: what a change of two goods gains; OrderFor, SmithOrder in one word each.
-/
import Derived.Test.YtljccbnkibfimaaHq
import Derived.Test.YtljccbnkibfimaaHr
import Derived.Test.YtljccbnkibfimaaHg
import Derived.Test.YtljccbnkibfimaaHf
import Derived.Test.YtljccbnkibfimaaHw
import Derived.Test.YtljccbnkibfimaaLn
namespace Go.Proofs.Ytljccbnkibfimaa
open Go.RowKit

namespace Od
theorem sum_two {f g : Nat → Int} {i j : Nat} (hne : i ≠ j) (h : ∀ k, k ≠ i → k ≠ j → f k = g k) : ∀ n, sumN f (List.range n) - sumN g (List.range n) = (if i < n then f i - g i else 0) + (if j < n then f j - g j else 0)
  | 0 => by simp [sumN]
  | n + 1 => by
    have ih := sum_two hne h n
    rw [List.range_succ, sumN_app, sumN_app]
    simp only [sumN]
    by_cases e1 : n = i
    · subst e1
      rw [if_neg (show ¬ n < n by omega)] at ih
      rw [if_pos (show n < n + 1 by omega)]
      by_cases e2 : j < n
      · rw [if_pos e2] at ih; rw [if_pos (show j < n + 1 by omega)]; omega
      · rw [if_neg e2] at ih; rw [if_neg (show ¬ j < n + 1 by omega)]; omega
    · by_cases e2 : n = j
      · subst e2
        rw [if_neg (show ¬ n < n by omega)] at ih
        rw [if_pos (show n < n + 1 by omega)]
        by_cases e3 : i < n
        · rw [if_pos e3] at ih; rw [if_pos (show i < n + 1 by omega)]; omega
        · rw [if_neg e3] at ih; rw [if_neg (show ¬ i < n + 1 by omega)]; omega
      · have := h n e1 e2
        have a1 : (if i < n + 1 then f i - g i else 0) = if i < n then f i - g i else 0 := by
          by_cases e : i < n
          · rw [if_pos e, if_pos (by omega)]
          · rw [if_neg e, if_neg (by omega)]
        have a2 : (if j < n + 1 then f j - g j else 0) = if j < n then f j - g j else 0 := by
          by_cases e : j < n
          · rw [if_pos e, if_pos (by omega)]
          · rw [if_neg e, if_neg (by omega)]
        rw [a1, a2]; omega
/-- What the change of two goods gains. -/
theorem swap_gain {us ws os : List Int} {i j : Nat} (hi : i < os.length) (hj : j < os.length) :
    cost us ws os - cost us ws (swap os i j) = (us.getD (nth os i) 0 - us.getD (nth os j) 0) * (ws.getD i 0 - ws.getD j 0) := by
  have e : ∀ k, k < os.length → nth (swap os i j) k = if k = j then nth os i else if k = i then nth os j else nth os k := by
    intro k hk
    unfold nth
    rw [swap_get os hi hj hk]
    split
    · rfl
    · split <;> rfl
  by_cases hij : i = j
  · subst hij
    have : swap os i i = os := by
      apply List.ext_getElem
      · rw [swap_len]
      · intro k h1 h2
        have := swap_get os hi hi h2
        rw [Pf.getD_lt _ 0 h1, Pf.getD_lt _ 0 h2] at this
        rw [this]
        split
        · rename_i h; subst h; rw [Pf.getD_lt _ 0 h2]
        · rfl
    rw [this]; simp
  · rw [cost, cost, swap_len, costTo_sum, costTo_sum]
    have h := sum_two (f := fun k => us.getD (nth os k) 0 * ws.getD k 0) (g := fun k => if k < os.length then us.getD (nth (swap os i j) k) 0 * ws.getD k 0 else us.getD (nth os k) 0 * ws.getD k 0) hij (fun k h1 h2 => by
      by_cases hk : k < os.length
      · simp only [if_pos hk]; rw [e k hk, if_neg h2, if_neg h1]
      · simp only [if_neg hk]) os.length
    have e2 : sumN (fun k => if k < os.length then us.getD (nth (swap os i j) k) 0 * ws.getD k 0 else us.getD (nth os k) 0 * ws.getD k 0) (List.range os.length) = sumN (fun k => us.getD (nth (swap os i j) k) 0 * ws.getD k 0) (List.range os.length) := by
      have gen : ∀ n, n ≤ os.length → sumN (fun k => if k < os.length then us.getD (nth (swap os i j) k) 0 * ws.getD k 0 else us.getD (nth os k) 0 * ws.getD k 0) (List.range n) = sumN (fun k => us.getD (nth (swap os i j) k) 0 * ws.getD k 0) (List.range n) := by
        intro n
        induction n with
        | zero => intro _; rfl
        | succ n ih =>
          intro hn
          rw [List.range_succ, sumN_app, sumN_app, ih (by omega)]
          simp only [sumN, if_pos (show n < os.length by omega)]
      exact gen _ (Nat.le_refl _)
    rw [e2] at h
    rw [h]
    simp only [if_pos hi, if_pos hj]
    rw [e i hi, e j hj, if_neg hij, if_pos rfl, if_pos rfl]
    generalize us.getD (nth os i) 0 = a
    generalize us.getD (nth os j) 0 = b
    generalize ws.getD i 0 = x
    generalize ws.getD j 0 = y
    rw [Int.sub_mul, Int.mul_sub, Int.mul_sub]
    omega
end Od
def ofR (us ws : List Int) : List Int := if Od.waysB us ws then ofL us ws else []
theorem ofR_yes {us ws : List Int} (h : Od.waysB us ws = true) : ofR us ws = ofL us ws := by simp [ofR, h]
theorem ofR_no {us ws : List Int} (h : Od.waysB us ws = false) : ofR us ws = [] := by simp [ofR, h]
theorem of_q {a b : Option Addr} {n c d : Nat} {us ws : List Int} {w : World} (hu : us.length = n) (hw : ws.length = n) (ha : ARow w a us) (hb : ARow w b ws) :
    Calls Try.prog 29 #[.slice a n c, .slice b n d] w fun e w' => ∃ v cv, e = .returned (.tuple #[.slice v (ofR us ws).length cv, .bool (Od.waysB us ws)]) ∧ ARow w' v (ofR us ws) ∧ Below w.heap.size w w' := by
  cases h : Od.waysB us ws
  · rw [ofR_no h]
    exact (of_no (hide hu) (hide hw) (hide ha) (hide hb) (hide h)).mono fun e w' ⟨he, hb⟩ => ⟨none, 0, he, Or.inl rfl, hb⟩
  · rw [ofR_yes h, ofL_len, hu]
    exact (of_y (hide hu) (hide hw) (hide ha) (hide hb) (hide h)).mono fun e w' ⟨g, he, hb, _, o⟩ => ⟨_, _, he, o.row ((ofL_len _ _).trans hu), hb⟩
theorem sof_q {a b : Option Addr} {n c d : Nat} {us ws : List Int} {w : World} (hu : us.length = n) (hw : ws.length = n) (ha : ARow w a us) (hb : ARow w b ws) :
    Calls Try.prog 30 #[.slice a n c, .slice b n d] w fun e w' => ∃ v cv, e = .returned (.tuple #[.slice v (ofR us ws).length cv, .bool (Od.waysB us ws)]) ∧ ARow w' v (ofR us ws) ∧ Below w.heap.size w w' := by
  cases h : Od.waysB us ws
  · rw [ofR_no h]
    exact (sof_no (hide hu) (hide hw) (hide ha) (hide hb) (hide h)).mono fun e w' ⟨he, hb⟩ => ⟨none, 0, he, Or.inl rfl, hb⟩
  · rw [ofR_yes h, ofL_len, hu]
    exact (sof_r (hide hu) (hide hw) (hide ha) (hide hb) (hide h)).mono fun e w' ⟨v, cv, he, hb, r⟩ => ⟨v, cv, he, r, hb⟩
def soR (L : List (Int × Int)) : List Int := if Fm.famB L then Fm.soL L else []
theorem soR_yes {L : List (Int × Int)} (h : Fm.famB L = true) : soR L = Fm.soL L := by simp [soR, h]
theorem soR_no {L : List (Int × Int)} (h : Fm.famB L = false) : soR L = [] := by simp [soR, h]
/-- Bytes of a Src as a list. -/
theorem src_row7 {w : World} {a : Option Addr} {len : Nat} (h : Src w a len) : ∃ zs : List Int, zs.length = len ∧ BRow w a zs := by
  obtain ⟨hb, hl⟩ := h
  rcases hb with h0 | ⟨b, off, rfl, hc⟩
  · subst h0; exact ⟨[], rfl, Or.inl rfl⟩
  · by_cases h0 : len = 0
    · subst h0; exact ⟨[], rfl, Or.inl rfl⟩
    · refine ⟨(List.range len).map fun i => if hi : i < len then (hc i hi).choose else 0, by simp, Or.inr ⟨b, off, rfl, hl b off rfl (by omega), ?_⟩⟩
      intro i hi
      have hi' : i < len := by simpa using hi
      have e : ((List.range len).map fun i => if hi : i < len then (hc i hi).choose else 0).getD i 0 = (hc i hi').choose := by
        simp [List.getD_eq_getElem?_getD, hi']
      rw [e]
      exact (hc i hi').choose_spec
end Go.Proofs.Ytljccbnkibfimaa
