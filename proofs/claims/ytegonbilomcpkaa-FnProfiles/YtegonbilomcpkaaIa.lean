/-
  FnProfiles, plain facts: a profile does not hang on the order of lines, and those of two parts add up.
-/
import Derived.Test.YtegonbilomcpkaaNf
import Derived.Test.YtegonbilomcpkaaMt
namespace Go.Proofs.Ytegonbilomcpkaa.Pr

def cnt (ls : List (Int × Int)) (i : Nat) : Int := (ls.map fun l => if l.1.toNat = i then (1 : Int) else 0).sum
def flw (gs : List Gd) (ls : List (Int × Int)) (i : Nat) : Int := (ls.map fun l => if l.1.toNat = i then (gs.getD i gd0).2 * l.2 else 0).sum
theorem cnt_app (l r : List (Int × Int)) (i : Nat) : cnt (l ++ r) i = cnt l i + cnt r i := by simp [cnt]
theorem flw_app (gs : List Gd) (l r : List (Int × Int)) (i : Nat) : flw gs (l ++ r) i = flw gs l i + flw gs r i := by simp [flw]
theorem cnt_cons (x : Int × Int) (r : List (Int × Int)) (i : Nat) : cnt (x :: r) i = (if x.1.toNat = i then (1 : Int) else 0) + cnt r i := by simp [cnt]
theorem flw_cons (gs : List Gd) (x : Int × Int) (r : List (Int × Int)) (i : Nat) : flw gs (x :: r) i = (if x.1.toNat = i then (gs.getD i gd0).2 * x.2 else 0) + flw gs r i := by simp [flw]
theorem cnt_nil (i : Nat) : cnt [] i = 0 := rfl
theorem flw_nil (gs : List Gd) (i : Nat) : flw gs [] i = 0 := rfl
theorem cnt_rev : ∀ (l : List (Int × Int)) (i : Nat), cnt l.reverse i = cnt l i
  | [], _ => rfl
  | x :: r, i => by rw [List.reverse_cons, cnt_app, cnt_rev r i, cnt_cons, cnt_cons, cnt_nil]; omega
theorem flw_rev (gs : List Gd) : ∀ (l : List (Int × Int)) (i : Nat), flw gs l.reverse i = flw gs l i
  | [], _ => rfl
  | x :: r, i => by rw [List.reverse_cons, flw_app, flw_rev gs r i, flw_cons, flw_cons, flw_nil]; omega
theorem get_set (f : Dem) (j : Nat) (x : Int × Int) (i : Nat) : (f.set j x).get i = if i = j then x else f.get i := by
  unfold Dem.get Dem.set
  by_cases h : i = j
  · simp [h]
  · simp [h]
theorem line_get (gs : List Gd) (ls : List (Int × Int)) : ∀ k, k ≤ ls.length → ∀ i, (lineF gs ls k).get i = (cnt (ls.take k) i, flw gs (ls.take k) i)
  | 0, _, i => by simp [lineF, Dem.get, cnt, flw]
  | k + 1, hk, i => by
    have hk' : k < ls.length := by omega
    have ih := line_get gs ls k (by omega)
    have e : ls.take (k + 1) = ls.take k ++ [ls.getD k (0, 0)] := by
      rw [List.take_add_one]; simp [hk']
    rw [lineF, get_set, e, cnt_app, flw_app, cnt_cons, flw_cons, cnt_nil, flw_nil]
    by_cases h : i = (ls.getD k (0, 0)).1.toNat
    · rw [if_pos h, ← h, ih i]
      simp
    · rw [if_neg h, ih i, if_neg (fun e => h e.symm), if_neg (fun e => h e.symm)]
      simp
def PP (ls : List (Int × Int)) (n : Nat) : List Int := (List.range n).map (cnt ls)
def FF (gs : List Gd) (ls : List (Int × Int)) (n : Nat) : List Int := (List.range n).map (flw gs ls)
theorem PP_len (ls : List (Int × Int)) (n : Nat) : (PP ls n).length = n := by simp [PP]
theorem FF_len (gs : List Gd) (ls : List (Int × Int)) (n : Nat) : (FF gs ls n).length = n := by simp [FF]
theorem PP_get (ls : List (Int × Int)) {n i : Nat} (h : i < n) : (PP ls n).getD i 0 = cnt ls i := by simp [PP, h]
theorem FF_get (gs : List Gd) (ls : List (Int × Int)) {n i : Nat} (h : i < n) : (FF gs ls n).getD i 0 = flw gs ls i := by simp [FF, h]
theorem PP_rev (ls : List (Int × Int)) (n : Nat) : PP ls.reverse n = PP ls n := by
  unfold PP; congr 1; funext i; exact cnt_rev ls i
theorem FF_rev (gs : List Gd) (ls : List (Int × Int)) (n : Nat) : FF gs ls.reverse n = FF gs ls n := by
  unfold FF; congr 1; funext i; exact flw_rev gs ls i
theorem lines_iff {g : Nat} {ls : List (Int × Int)} : linesB g ls = true ↔ ls.length ≤ 80 ∧ ∀ x ∈ ls, lineB g x = true := by
  constructor
  · intro h
    refine ⟨linesB_len h, fun x hx => ?_⟩
    obtain ⟨i, hi, rfl⟩ := List.getElem_of_mem hx
    have := linesB_at h hi
    rwa [Pf.getD_lt _ _ hi] at this
  · rintro ⟨h1, h2⟩
    refine linesB_of h1 fun i hi => ?_
    rw [Pf.getD_lt _ _ hi]
    exact h2 _ (List.getElem_mem hi)
theorem lines_rev {g : Nat} {ls : List (Int × Int)} (h : linesB g ls = true) : linesB g ls.reverse = true := by
  obtain ⟨h1, h2⟩ := lines_iff.1 h
  exact lines_iff.2 ⟨by simpa using h1, fun x hx => h2 x (by simpa using hx)⟩
theorem lines_take {g : Nat} {ls : List (Int × Int)} (h : linesB g ls = true) (k : Nat) : linesB g (ls.take k) = true := by
  obtain ⟨h1, h2⟩ := lines_iff.1 h
  exact lines_iff.2 ⟨by rw [List.length_take]; omega, fun x hx => h2 x (List.mem_of_mem_take hx)⟩
theorem lines_drop {g : Nat} {ls : List (Int × Int)} (h : linesB g ls = true) (k : Nat) : linesB g (ls.drop k) = true := by
  obtain ⟨h1, h2⟩ := lines_iff.1 h
  exact lines_iff.2 ⟨by rw [List.length_drop]; omega, fun x hx => h2 x (List.mem_of_mem_drop hx)⟩
theorem bds {gs : List Gd} {g : Nat} (hg : goodsB gs = true) (hn : gs.length = g) {i : Nat} (hi : i < g) : ∀ ls : List (Int × Int), (∀ x ∈ ls, lineB g x = true) → 0 ≤ cnt ls i ∧ cnt ls i ≤ ls.length ∧ cnt ls i ≤ flw gs ls i ∧ flw gs ls i ≤ 9900 * cnt ls i
  | [], _ => by simp [cnt, flw]
  | x :: r, h => by
    obtain ⟨a1, a2, a3, a4⟩ := bds hg hn hi r (fun y hy => h y (List.mem_cons_of_mem _ hy))
    have hx := h x (List.mem_cons_self ..)
    simp only [lineB, Bool.and_eq_true] at hx
    have h2 := Pf.inB_yes hx.2
    have hs := size_bd hg (show i < gs.length by omega)
    rw [cnt_cons, flw_cons, List.length_cons]
    by_cases e : x.1.toNat = i
    · rw [if_pos e, if_pos e]
      generalize (gs.getD i gd0).2 = s at *
      have m1 : 1 ≤ s * x.2 := by
        have := Int.mul_le_mul hs.1 h2.1 (by omega) (by omega)
        omega
      have m2 : s * x.2 ≤ 9900 := by
        have := Int.mul_le_mul hs.2 h2.2 (by omega) (by omega)
        omega
      omega
    · rw [if_neg e, if_neg e]; omega
theorem good {gs : List Gd} {g : Nat} {ls : List (Int × Int)} (hg : goodsB gs = true) (hn : gs.length = g) (hl : linesB g ls = true) : Pf.goodP (PP ls g) (FF gs ls g) = true := by
  obtain ⟨h1, h2⟩ := lines_iff.1 hl
  have h12 : g ≤ 12 := hn ▸ goodsB_len hg
  refine Pf.goodP_of (by rw [PP_len, FF_len]) (by rw [PP_len]; exact h12) fun i hi => ?_
  rw [PP_len] at hi
  rw [PP_get ls hi, FF_get gs ls hi]
  obtain ⟨a1, a2, a3, a4⟩ := bds hg hn hi ls h2
  simp only [Pf.goodAt, Bool.and_eq_true]
  refine ⟨⟨Pf.inB_of a1 (by omega), Pf.inB_of (by omega) (by omega)⟩, ?_⟩
  by_cases e : cnt ls i = 0
  · have : flw gs ls i = 0 := by omega
    simp [e, this]
  · have hf : flw gs ls i ≠ 0 := by omega
    rw [beq_eq_false_iff_ne.2 e, beq_eq_false_iff_ne.2 hf]; rfl
theorem sum_pt (j : Nat) : ∀ n, ((List.range n).map fun i => if j = i then (1 : Int) else 0).sum = if j < n then 1 else 0
  | 0 => by simp
  | n + 1 => by
    rw [List.range_succ, List.map_append, List.sum_append, sum_pt j n]
    by_cases h : j < n
    · simp [h, show ¬ j = n by omega, show j < n + 1 by omega]
    · by_cases e : j = n
      · subst e; simp
      · simp [h, e, show ¬ j < n + 1 by omega]
theorem sum_add (a b : Nat → Int) : ∀ l : List Nat, (l.map fun i => a i + b i).sum = (l.map a).sum + (l.map b).sum
  | [] => rfl
  | x :: r => by simp only [List.map_cons, List.sum_cons, sum_add a b r]; omega
theorem sum_PP {g : Nat} : ∀ {ls : List (Int × Int)}, (∀ x ∈ ls, lineB g x = true) → (PP ls g).sum = ls.length
  | [], _ => by
    have : ∀ l : List Nat, (l.map (cnt [])).sum = 0 := fun l => by
      induction l with
      | nil => rfl
      | cons x r ih => simp only [List.map_cons, List.sum_cons, ih, cnt_nil]; omega
    unfold PP; rw [this]; rfl
  | x :: r, h => by
    have ih := sum_PP (ls := r) (fun y hy => h y (List.mem_cons_of_mem _ hy))
    have hx := h x (List.mem_cons_self ..)
    simp only [lineB, Bool.and_eq_true] at hx
    have h1 := Pf.inB_yes hx.1
    have e : PP (x :: r) g = (List.range g).map fun i => (if x.1.toNat = i then (1 : Int) else 0) + cnt r i := by
      unfold PP; apply List.map_congr_left; intro i _; exact cnt_cons x r i
    rw [e, sum_add, sum_pt, if_pos (show x.1.toNat < g by omega)]
    unfold PP at ih
    rw [ih, List.length_cons]
    omega
theorem PP_sum (l r : List (Int × Int)) (n : Nat) : sumL (PP l n) (PP r n) = PP (l ++ r) n := by
  apply List.ext_getElem
  · simp [sumL, PP]
  · intro i h1 h2
    have hi : i < n := by simpa [PP] using h2
    simp [sumL, PP, cnt_app, hi]
theorem FF_sum (gs : List Gd) (l r : List (Int × Int)) (n : Nat) : sumL (FF gs l n) (FF gs r n) = FF gs (l ++ r) n := by
  apply List.ext_getElem
  · simp [sumL, FF]
  · intro i h1 h2
    have hi : i < n := by simpa [FF] using h2
    simp [sumL, FF, flw_app, hi]
/-- What ProfileOf answers, in plain words. -/
theorem asked_PP {gs : List Gd} {g n' : Nat} {ls : List (Int × Int)} (hg : goodsB gs = true) (hn : gs.length = g) (hl : linesB g ls = true) (hn' : ls.length = n') : (lineF gs ls n').asked.picks g = PP ls g ∧ (lineF gs ls n').asked.flow g = FF gs ls g := by
  have e := asked_same (lineF_zero hg hn hl n' (by omega)) g
  rw [e.1, e.2]
  have h : ∀ i, (lineF gs ls n').get i = (cnt ls i, flw gs ls i) := fun i => by
    rw [line_get gs ls n' (by omega), ← hn', List.take_length]
  constructor
  · unfold Dem.picks PP; congr 1; funext i; rw [h i]
  · unfold Dem.flow FF; congr 1; funext i; rw [h i]
end Go.Proofs.Ytegonbilomcpkaa.Pr
