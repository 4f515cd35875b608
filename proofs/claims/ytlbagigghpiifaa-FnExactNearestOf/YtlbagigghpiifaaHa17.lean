/-
  Plain facts, of no program: which good stands where in a house: counts, owners, goods by picks for each slot, and the nearest slot.
-/
import Derived.Test.YtlbagigghpiifaaHh
import Derived.Test.YtlbagigghpiifaaSb
namespace Go.Proofs.Ytlbagigghpiifaa.Hs
open Go.Proofs.Ytlbagigghpiifaa

/-- Counts are as said for as many slots as they are together. -/
def cntB (cs : List Int) : Bool := Pf.inB cs.length 1 8 && (Pf.allB cs 1 10 && decide (cs.sum ≤ 10))
def slotsB (cs ws : List Int) : Bool := cntB cs && decide (cs.sum = (ws.length : Int)) && Pf.allB ws 0 1000
theorem cntB_yes {cs : List Int} (h : cntB cs = true) : 1 ≤ cs.length ∧ cs.length ≤ 8 ∧ Pf.allB cs 1 10 = true ∧ cs.sum ≤ 10 := by
  simp only [cntB, Bool.and_eq_true, decide_eq_true_eq] at h
  have := Pf.inB_yes h.1
  exact ⟨by omega, by omega, h.2.1, h.2.2⟩
theorem cntB_at {cs : List Int} (h : cntB cs = true) {i : Nat} (hi : i < cs.length) : 1 ≤ cs.getD i 0 ∧ cs.getD i 0 ≤ 10 := Pf.inB_yes (Pf.allB_get (cntB_yes h).2.2.1 hi)
theorem slotsB_yes {cs ws : List Int} (h : slotsB cs ws = true) : cntB cs = true ∧ cs.sum = (ws.length : Int) ∧ Pf.allB ws 0 1000 = true ∧ ws.length ≤ 10 := by
  simp only [slotsB, Bool.and_eq_true, decide_eq_true_eq] at h
  have := (cntB_yes h.1.1).2.2.2
  exact ⟨h.1.1, h.1.2, h.2, by omega⟩

/-- What each good owns, behind so many owners. -/
def ownN (m : Nat) (os : List Int) : Nat → List Int
  | 0 => List.replicate m 0
  | k + 1 => (ownN m os k).set (os.getD k 0).toNat ((ownN m os k).getD (os.getD k 0).toNat 0 + 1)
theorem ownN_len (m : Nat) (os : List Int) : ∀ k, (ownN m os k).length = m
  | 0 => by simp [ownN]
  | k + 1 => by simp [ownN, ownN_len m os k]
/-- Whether each good owns as many as its count. -/
def fitB (cs os : List Int) : Bool := Pf.allB os 0 ((cs.length : Int) - 1) && decide (ownN cs.length os os.length = cs)
theorem sum_set {xs : List Int} {i : Nat} {x : Int} (h : i < xs.length) : (xs.set i x).sum = xs.sum + (x - xs.getD i 0) := by
  induction xs generalizing i with
  | nil => simp at h
  | cons y ys ih =>
    cases i with
    | zero => simp; omega
    | succ i =>
      have := ih (i := i) (by simpa using h)
      simp only [List.set_cons_succ, List.sum_cons, List.getD_cons_succ]
      omega
theorem ownN_sum {m : Nat} {os : List Int} (h : Pf.allB os 0 ((m : Int) - 1) = true) : ∀ k, k ≤ os.length → (ownN m os k).sum = (k : Int)
  | 0, _ => by
    show (List.replicate m (0 : Int)).sum = 0
    induction m with
    | zero => rfl
    | succ m ih => simp
  | k + 1, hk => by
    have h1 := Pf.inB_yes (Pf.allB_get h (show k < os.length by omega))
    have ih := ownN_sum h k (by omega)
    rw [ownN, sum_set (by rw [ownN_len]; omega), ih]
    push_cast; omega
theorem ownN_le {m : Nat} {os : List Int} : ∀ k i, (ownN m os k).getD i 0 ≤ (k : Int) ∧ 0 ≤ (ownN m os k).getD i 0
  | 0, i => by
    simp only [ownN, List.getD_eq_getElem?_getD, List.getElem?_replicate]
    split <;> simp
  | k + 1, i => by
    have h1 := ownN_le (m := m) (os := os) k i
    have h2 := ownN_le (m := m) (os := os) k (os.getD k 0).toNat
    simp only [ownN, List.getD_eq_getElem?_getD, List.getElem?_set] at h1 h2 ⊢
    split
    · split
      · simp; omega
      · simp; omega
    · push_cast; omega
theorem fitB_yes {cs os : List Int} (h : fitB cs os = true) : Pf.allB os 0 ((cs.length : Int) - 1) = true ∧ ownN cs.length os os.length = cs := by
  simpa [fitB] using h
theorem fit_len {cs os : List Int} (h : fitB cs os = true) : cs.sum = (os.length : Int) := by
  obtain ⟨h1, h2⟩ := fitB_yes h
  have := ownN_sum h1 os.length (Nat.le_refl _)
  rw [h2] at this; exact this
theorem fit_at {cs os : List Int} (h : fitB cs os = true) {i : Nat} (hi : i < os.length) : 0 ≤ os.getD i 0 ∧ os.getD i 0 < (cs.length : Int) := by
  have := Pf.inB_yes (Pf.allB_get (fitB_yes h).1 hi); omega
theorem fit_no {cs os : List Int} {i : Nat} (hi : i < os.length) (h : Pf.inB (os.getD i 0) 0 ((cs.length : Int) - 1) = false) : fitB cs os = false := by
  unfold fitB; rw [Pf.allB_not hi h]; rfl

/-- A good's picks for each of its slots, as a whole number: 2520 is what all of 1 .. 10 divide. -/
def wt (ps cs : List Int) : List Int := (List.range ps.length).map fun i => ps.getD i 0 * (2520 / cs.getD i 0)
theorem wt_len (ps cs : List Int) : (wt ps cs).length = ps.length := by simp [wt]
theorem wt_at (ps cs : List Int) {i : Nat} (hi : i < ps.length) : Rk.val (wt ps cs) i = ps.getD i 0 * (2520 / cs.getD i 0) := by
  simp [Rk.val, wt, hi]
theorem part_of {c : Int} (h1 : 1 ≤ c) (h2 : c ≤ 10) : (2520 / c) * c = 2520 := by
  have : c = 1 ∨ c = 2 ∨ c = 3 ∨ c = 4 ∨ c = 5 ∨ c = 6 ∨ c = 7 ∨ c = 8 ∨ c = 9 ∨ c = 10 := by omega
  rcases this with rfl | rfl | rfl | rfl | rfl | rfl | rfl | rfl | rfl | rfl <;> rfl
theorem wt_lt {p q c d : Int} (c1 : 1 ≤ c) (c2 : c ≤ 10) (d1 : 1 ≤ d) (d2 : d ≤ 10) : p * (2520 / c) < q * (2520 / d) ↔ p * d < q * c := by
  have hc := part_of c1 c2
  have hd := part_of d1 d2
  generalize 2520 / c = C at *
  generalize 2520 / d = D at *
  have e1 : p * C * (c * d) = 2520 * (p * d) := by rw [show p * C * (c * d) = (C * c) * (p * d) by ac_rfl, hc]
  have e2 : q * D * (c * d) = 2520 * (q * c) := by rw [show q * D * (c * d) = (D * d) * (q * c) by ac_rfl, hd]
  have hcd : 0 < c * d := Int.mul_pos (by omega) (by omega)
  constructor
  · intro h
    have := (Int.mul_lt_mul_of_pos_right h hcd)
    omega
  · intro h
    rcases Int.lt_or_le (p * C) (q * D) with h' | h'
    · exact h'
    · have := Int.mul_le_mul_of_nonneg_right h' (Int.le_of_lt hcd)
      omega
theorem cross_lt {p q c d : Int} (hc : 0 < c) (hd : 0 < d) : (Sh.mk p c).1 * (Sh.mk q d).2 < (Sh.mk q d).1 * (Sh.mk p c).2 ↔ p * d < q * c := by
  obtain ⟨G, g0, e1, e2, _⟩ := Sh.mk_facts p c hc
  obtain ⟨H, h0, e3, e4, _⟩ := Sh.mk_facts q d hd
  generalize (Sh.mk p c).1 = a at *
  generalize (Sh.mk p c).2 = b at *
  generalize (Sh.mk q d).1 = x at *
  generalize (Sh.mk q d).2 = y at *
  subst e1 e2 e3 e4
  have r1 : G * a * (H * y) = (G * H) * (a * y) := by ac_rfl
  have r2 : H * x * (G * b) = (G * H) * (x * b) := by ac_rfl
  have hGH : 0 < G * H := Int.mul_pos g0 h0
  rw [r1, r2]
  exact ⟨fun h => Int.mul_lt_mul_of_pos_left h hGH, fun h => Int.lt_of_mul_lt_mul_left h (Int.le_of_lt hGH)⟩
/-- Each good's picks for each of its slots, as fractions. -/
theorem cost_good {p c : Int} (p1 : 1 ≤ p) (p2 : p ≤ 30) (c1 : 1 ≤ c) (c2 : c ≤ 10) : Sh.goodF (Sh.cost p c) = true := Sh.mk_good (by omega) (by omega) (by omega) (by omega)

/-- Goods, each as often as it has slots. -/
def exp (cs : List Int) : List Nat → List Nat
  | [] => []
  | k :: r => List.replicate (cs.getD k 0).toNat k ++ exp cs r
theorem exp_app (cs : List Int) : ∀ a b, exp cs (a ++ b) = exp cs a ++ exp cs b
  | [], b => rfl
  | k :: r, b => by simp [exp, exp_app cs r b]
theorem exp_mem {cs : List Int} {x : Nat} : ∀ {l}, x ∈ exp cs l → x ∈ l
  | [], h => by cases h
  | k :: r, h => by
    rcases List.mem_append.1 h with h | h
    · rw [List.eq_of_mem_replicate h]; exact List.mem_cons_self
    · exact List.mem_cons_of_mem _ (exp_mem h)
theorem exp_len (cs : List Int) : ∀ l, (exp cs l).length = (l.map fun k => (cs.getD k 0).toNat).sum
  | [] => rfl
  | k :: r => by simp [exp, exp_len cs r]
theorem sum_nat : ∀ {xs : List Int}, (∀ i, i < xs.length → 0 ≤ xs.getD i 0) → (((List.range xs.length).map fun k => (xs.getD k 0).toNat).sum : Int) = xs.sum
  | [], _ => rfl
  | x :: r, h => by
    have h0 := h 0 (by simp)
    have ih := sum_nat (xs := r) fun i hi => by simpa using h (i + 1) (by simpa using hi)
    rw [List.length_cons, List.range_succ_eq_map, List.map_cons, List.map_map, List.sum_cons, List.sum_cons]
    simp only [List.getD_cons_zero] at h0 ⊢
    rw [← ih]
    simp only [Function.comp_def, List.getD_cons_succ]
    push_cast
    omega
/-- As many as all slots together, in whatever order the goods come. -/
theorem exp_all {cs : List Int} {g : List Nat} {n : Nat} (hc : ∀ i, i < cs.length → 0 ≤ cs.getD i 0) (hs : cs.sum = (n : Int)) (hg : g.Perm (List.range cs.length)) : (exp cs g).length = n := by
  have h := sum_nat hc
  rw [exp_len]
  have : (g.map fun k => (cs.getD k 0).toNat).sum = ((List.range cs.length).map fun k => (cs.getD k 0).toNat).sum := (hg.map _).sum_nat
  omega
/-- How many slots the first k goods have. -/
def upto (cs : List Int) (g : List Nat) (k : Nat) : Nat := (exp cs (g.take k)).length
theorem take_succ' (g : List Nat) {k : Nat} (hk : k < g.length) : g.take (k + 1) = g.take k ++ [g.getD k 0] := by
  rw [List.take_add_one]; congr 1; simp [hk]
theorem upto_zero (cs : List Int) (g : List Nat) : upto cs g 0 = 0 := rfl
theorem upto_succ (cs : List Int) (g : List Nat) {k : Nat} (hk : k < g.length) : upto cs g (k + 1) = upto cs g k + (cs.getD (g.getD k 0) 0).toNat := by
  unfold upto
  rw [take_succ' g hk, exp_app]
  simp [exp]
theorem upto_le (cs : List Int) (g : List Nat) (k : Nat) : upto cs g k ≤ (exp cs g).length := by
  conv => rhs; rw [← List.take_append_drop k g, exp_app, List.length_append]
  exact Nat.le_add_right _ _
theorem upto_all (cs : List Int) (g : List Nat) : upto cs g g.length = (exp cs g).length := by unfold upto; rw [List.take_length]
/-- Which good the slot has that comes so far. -/
theorem exp_at (cs : List Int) (g : List Nat) {k j : Nat} (hk : k < g.length) (hj : j < (cs.getD (g.getD k 0) 0).toNat) : (exp cs g).getD (upto cs g k + j) 0 = g.getD k 0 := by
  have e : exp cs g = exp cs (g.take k) ++ (List.replicate (cs.getD (g.getD k 0) 0).toNat (g.getD k 0) ++ exp cs (g.drop (k + 1))) := by
    conv => lhs; rw [← List.take_append_drop k g, exp_app]
    rw [show g.drop k = g.getD k 0 :: g.drop (k + 1) by rw [List.drop_eq_getElem_cons hk]; simp [hk]]
    rfl
  rw [e]
  unfold upto
  generalize (cs.getD (g.getD k 0) 0).toNat = N at *
  generalize g.getD k 0 = x at *
  rw [List.getD_eq_getElem?_getD, List.getElem?_append_right (by omega), Nat.add_sub_cancel_left, List.getElem?_append_left (by simpa using hj), List.getElem?_replicate, if_pos hj]
  rfl

/-- Whose each slot is. -/
def ownL (ps cs ws : List Int) : List Int := putTo (exp cs (Rk.rank (wt ps cs))) (Rk.rank (negs ws)) ws.length ws.length
theorem ownL_len (ps cs ws : List Int) : (ownL ps cs ws).length = ws.length := putTo_len _ _ _ _
def goodsL (ps cs : List Int) : List Nat := Rk.rank (wt ps cs)
theorem goodsL_len (ps cs : List Int) : (goodsL ps cs).length = ps.length := by rw [goodsL, Rk.rank_len, wt_len]
theorem goodsL_lt {ps cs : List Int} {k : Nat} (hk : k < ps.length) : (goodsL ps cs).getD k 0 < ps.length := by
  have := rk_nth_lt (vs := wt ps cs) (k := k) (by rw [wt_len]; exact hk)
  rwa [wt_len] at this
theorem goodsL_all {ps cs ws : List Int} (hl : cs.length = ps.length) (h : slotsB cs ws = true) : (exp cs (goodsL ps cs)).length = ws.length := by
  obtain ⟨h1, h2, _⟩ := slotsB_yes h
  refine exp_all (fun i hi => ?_) h2 ?_
  · have := cntB_at h1 hi; omega
  · rw [hl, ← wt_len ps cs]; exact Rk.rank_perm _

/-- How far the picks of each slot are carried. -/
def farL (ps cs ws os : List Int) : List (Int × Int) := (List.range os.length).map fun s => Sh.mk (ws.getD s 0 * ps.getD (os.getD s 0).toNat 0) (cs.getD (os.getD s 0).toNat 0)
theorem farL_len (ps cs ws os : List Int) : (farL ps cs ws os).length = os.length := by simp [farL]
theorem farL_at (ps cs ws os : List Int) {s : Nat} (h : s < os.length) : (farL ps cs ws os).getD s (0, 0) = Sh.mk (ws.getD s 0 * ps.getD (os.getD s 0).toNat 0) (cs.getD (os.getD s 0).toNat 0) := by simp [farL, h]

/-- Slots and owners are as said: a good house. -/
def houseB (ws cs os : List Int) : Bool := slotsB cs ws && fitB cs os
/-- Picks are as said for a house. -/
def dayB (ps cs ws : List Int) : Bool := Sh.flowB ps && decide (ps.length = cs.length) && slotsB cs ws
end Go.Proofs.Ytlbagigghpiifaa.Hs
