/-
  Plain facts, of no program: offers, the best table, the best choice.
-/
import Derived.Test.YtdlpbemjbmgbeaaPf
import Derived.Lib.Slices
namespace Go.Proofs.Ytdlpbemjbmgbeaa.Of
open Go.Proofs.Ytdlpbemjbmgbeaa.Pf

def offB (o : List Int) : Bool := decide (o.length ≤ 6) && allB o (-1000) 1000
def offersB (L : List (List Int)) : Bool := decide (L.length ≤ 12) && L.all offB
theorem offB_yes {o : List Int} (h : offB o = true) : o.length ≤ 6 ∧ allB o (-1000) 1000 = true := by simpa [offB] using h
theorem offB_short {o : List Int} {m : Nat} (hm : o.length = m) (h : m ≤ 6) : offB o = allB o (-1000) 1000 := by unfold offB; simp [show o.length ≤ 6 by omega]
theorem offB_long {o : List Int} {m : Nat} (hm : o.length = m) (h : ¬ m ≤ 6) : offB o = false := by unfold offB; simp [show ¬ o.length ≤ 6 by omega]
theorem offersB_len {L : List (List Int)} (h : offersB L = true) : L.length ≤ 12 := by
  simp only [offersB, Bool.and_eq_true, decide_eq_true_eq] at h; exact h.1
theorem offersB_at {L : List (List Int)} (h : offersB L = true) (i : Nat) : offB (L.getD i []) = true := by
  simp only [offersB, Bool.and_eq_true, decide_eq_true_eq, List.all_eq_true] at h
  by_cases hi : i < L.length
  · rw [getD_lt _ _ hi]; exact h.2 _ (List.getElem_mem _)
  · simp [show L.length ≤ i by omega, offB, allB]
theorem offersB_of {L : List (List Int)} (h1 : L.length ≤ 12) (h : ∀ i, i < L.length → offB (L.getD i []) = true) : offersB L = true := by
  simp only [offersB, Bool.and_eq_true, decide_eq_true_eq, List.all_eq_true]
  refine ⟨h1, fun x hx => ?_⟩
  obtain ⟨i, hi, rfl⟩ := List.getElem_of_mem hx
  have := h i hi
  rwa [getD_lt _ _ hi] at this
theorem offersB_not {L : List (List Int)} {i : Nat} (h : offB (L.getD i []) = false) : offersB L = false := by
  cases hb : offersB L
  · rfl
  · rw [offersB_at hb i] at h; cases h
theorem offersB_many {L : List (List Int)} (h : 12 < L.length) : offersB L = false := by simp [offersB, show ¬ L.length ≤ 12 by omega]
theorem offersB_sub {L M : List (List Int)} (h : offersB L = true) (hl : M.length ≤ L.length) (hs : ∀ x ∈ M, x ∈ L) : offersB M = true := by
  simp only [offersB, Bool.and_eq_true, decide_eq_true_eq, List.all_eq_true] at h ⊢
  exact ⟨by omega, fun x hx => h.2 x (hs x hx)⟩

/-- What so many places gain an offer. -/
def gain (o : List Int) (n : Nat) : Int := (0 :: o).getD n 0
theorem gain_zero (o : List Int) : gain o 0 = 0 := rfl
theorem gain_succ (o : List Int) (n : Nat) : gain o (n + 1) = o.getD n 0 := rfl
theorem gain_bd {o : List Int} (h : offB o = true) (n : Nat) : -1000 ≤ gain o n ∧ gain o n ≤ 1000 := by
  cases n with
  | zero => rw [gain_zero]; omega
  | succ n =>
    rw [gain_succ]
    by_cases hn : n < o.length
    · exact inB_yes (allB_get (offB_yes h).2 hn)
    · simp [show o.length ≤ n by omega]
/-- The best with at most n places for this offer, of p. -/
def bst (o r : List Int) (p : Nat) : Nat → Int
  | 0 => r.getD p 0
  | n + 1 => max (bst o r p n) (r.getD (p - (n + 1)) 0 + gain o (n + 1))
theorem bst_zero (o r : List Int) (p : Nat) : bst o r p 0 = r.getD p 0 := rfl
theorem bst_succ (o r : List Int) (p n : Nat) : bst o r p (n + 1) = max (bst o r p n) (r.getD (p - (n + 1)) 0 + gain o (n + 1)) := rfl
def best (o r : List Int) (p : Nat) : Int := bst o r p (min o.length p)
def step (o r : List Int) : List Int := (List.range r.length).map (best o r)
def tab (L : List (List Int)) (P : Nat) : List Int := L.foldl (fun r o => step o r) (List.replicate (P + 1) 0)
def sums (o r : List Int) (p : Nat) : List Int := (List.range (min o.length p + 1)).map fun n => gain o n + r.getD (p - n) 0
theorem step_len (o r : List Int) : (step o r).length = r.length := by simp [step]
theorem step_at (o r : List Int) {p : Nat} (h : p < r.length) : (step o r).getD p 0 = best o r p := by simp [step, h]
theorem tab_len (L : List (List Int)) (P : Nat) : (tab L P).length = P + 1 := by
  have : ∀ (L : List (List Int)) (r : List Int), (L.foldl (fun r o => step o r) r).length = r.length := by
    intro L
    induction L with
    | nil => intro r; rfl
    | cons o L ih => intro r; rw [List.foldl_cons, ih, step_len]
  rw [tab, this]; simp
theorem tab_nil (P : Nat) : tab [] P = List.replicate (P + 1) 0 := rfl
theorem tab_snoc (L : List (List Int)) (o : List Int) (P : Nat) : tab (L ++ [o]) P = step o (tab L P) := by simp [tab]
theorem take_snoc (L : List (List Int)) {k : Nat} (h : k < L.length) : L.take (k + 1) = L.take k ++ [L.getD k []] := by
  rw [List.take_add_one, getD_lt _ _ h]; simp [h]
theorem tab_take (L : List (List Int)) (P : Nat) {k : Nat} (h : k < L.length) : tab (L.take (k + 1)) P = step (L.getD k []) (tab (L.take k) P) := by
  rw [take_snoc L h, tab_snoc]
/-- A row whose numbers lie between bounds. -/
def RowIn (r : List Int) (b : Int) : Prop := ∀ i, 0 ≤ r.getD i 0 ∧ r.getD i 0 ≤ b
theorem bst_bd {o r : List Int} {b : Int} (ho : offB o = true) (hr : RowIn r b) (p : Nat) (n : Nat) : 0 ≤ bst o r p n ∧ bst o r p n ≤ b + 1000 := by
  induction n with
  | zero => have := hr p; rw [bst_zero]; omega
  | succ n ih =>
    have h1 := hr (p - (n + 1))
    have h2 := gain_bd ho (n + 1)
    rw [bst_succ]
    omega
theorem step_bd {o r : List Int} {b : Int} (ho : offB o = true) (hr : RowIn r b) (hb : 0 ≤ b) : RowIn (step o r) (b + 1000) := by
  intro i
  by_cases hi : i < r.length
  · rw [step_at o r hi]; exact bst_bd ho hr i _
  · have : (step o r).length ≤ i := by rw [step_len]; omega
    simp [this]; omega
theorem tab_bd {L : List (List Int)} (h : offersB L = true) (P : Nat) {k : Nat} (hk : k ≤ L.length) : RowIn (tab (L.take k) P) (1000 * k) := by
  induction k with
  | zero =>
    intro i
    rw [List.take_zero, tab_nil]
    simp only [List.getD_eq_getElem?_getD, List.getElem?_replicate]
    split <;> simp
  | succ k ih =>
    rw [tab_take L P (by omega)]
    have := step_bd (offersB_at h k) (ih (by omega)) (by omega)
    intro i
    have := this i
    omega
theorem tab_bd12 {L : List (List Int)} (h : offersB L = true) (P : Nat) (k : Nat) : RowIn (tab (L.take k) P) 12000 := by
  have h12 := offersB_len h
  by_cases hk : k ≤ L.length
  · intro i
    have := tab_bd h P hk i
    omega
  · rw [List.take_of_length_le (by omega)]
    intro i
    have := tab_bd h P (Nat.le_refl L.length) i
    rw [List.take_length] at this
    omega
theorem sums_len (o r : List Int) (p : Nat) : (sums o r p).length = min o.length p + 1 := by simp [sums]
theorem sums_at (o r : List Int) (p : Nat) {n : Nat} (h : n ≤ min o.length p) : (sums o r p).getD n 0 = gain o n + r.getD (p - n) 0 := by
  simp [sums, show n < min o.length p + 1 by omega]
theorem maxOf_sums (o r : List Int) (p : Nat) {n : Nat} (h : n ≤ min o.length p) : Lib.maxOf ((sums o r p).take (n + 1)) = bst o r p n := by
  induction n with
  | zero =>
    rw [Lib.maxOf_one, sums_at o r p (by omega)]
    simp [gain_zero, bst_zero]
  | succ n ih =>
    rw [Lib.maxOf_step _ _ (by omega) (by rw [sums_len]; omega), ih (by omega), sums_at o r p h, bst_succ]
    rw [Int.add_comm (gain o (n + 1))]
theorem max_sums (o r : List Int) (p : Nat) : Lib.maxOf (sums o r p) = best o r p := by
  have := maxOf_sums o r p (Nat.le_refl _)
  rwa [List.take_of_length_le (by rw [sums_len]; omega)] at this
theorem bst_hit (o r : List Int) (p : Nat) : ∀ n, ∃ k, k ≤ n ∧ gain o k + r.getD (p - k) 0 = bst o r p n
  | 0 => ⟨0, Nat.le_refl _, by simp [gain_zero, bst]⟩
  | n + 1 => by
    obtain ⟨k, hk, he⟩ := bst_hit o r p n
    rw [bst_succ]
    by_cases hm : r.getD (p - (n + 1)) 0 + gain o (n + 1) ≤ bst o r p n
    · exact ⟨k, by omega, by rw [he]; omega⟩
    · exact ⟨n + 1, Nat.le_refl _, by omega⟩
theorem bst_ge (o r : List Int) (p : Nat) : ∀ {n k : Nat}, k ≤ n → gain o k + r.getD (p - k) 0 ≤ bst o r p n
  | 0, k, h => by
    have : k = 0 := by omega
    subst this; simp [gain_zero, bst]
  | n + 1, k, h => by
    rw [bst_succ]
    by_cases e : k = n + 1
    · subst e; omega
    · have := bst_ge o r p (show k ≤ n by omega)
      omega
/-- The least count that makes up the best. -/
def cnt (o r : List Int) (p : Nat) : Nat := (sums o r p).findIdx (· == best o r p)
theorem cnt_ex (o r : List Int) (p : Nat) : ∃ x ∈ sums o r p, (x == best o r p) = true := by
  obtain ⟨k, hk, he⟩ := bst_hit o r p (min o.length p)
  refine ⟨_, List.mem_map.2 ⟨k, List.mem_range.2 (by omega), rfl⟩, ?_⟩
  simpa [best] using he
theorem cnt_lt (o r : List Int) (p : Nat) : cnt o r p < (sums o r p).length := List.findIdx_lt_length.2 (cnt_ex o r p)
theorem cnt_le (o r : List Int) (p : Nat) : cnt o r p ≤ min o.length p := by have := cnt_lt o r p; rw [sums_len] at this; omega
theorem cnt_hit (o r : List Int) (p : Nat) : gain o (cnt o r p) + r.getD (p - cnt o r p) 0 = best o r p := by
  have h := List.findIdx_getElem (xs := sums o r p) (p := (· == best o r p)) (w := cnt_lt o r p)
  rw [← sums_at o r p (cnt_le o r p), getD_lt _ _ (cnt_lt o r p)]
  exact eq_of_beq h
theorem cnt_first (o r : List Int) (p : Nat) {n : Nat} (h : n < cnt o r p) : gain o n + r.getD (p - n) 0 ≠ best o r p := by
  have h1 := List.not_of_lt_findIdx (xs := sums o r p) (p := (· == best o r p)) h
  have h2 := cnt_le o r p
  have h3 := cnt_lt o r p
  rw [← sums_at o r p (by omega), getD_lt _ _ (by omega)]
  simpa using h1
theorem idx_sums (o r : List Int) (p : Nat) : Lib.idxOf (sums o r p) (best o r p) = (cnt o r p : Nat) := by
  have := Lib.idxFrom_hit (best o r p) (sums o r p) (cnt o r p) 0 (cnt_lt o r p) (by rw [sums_at o r p (cnt_le o r p)]; exact cnt_hit o r p) (fun j hj => by
    have h2 := cnt_le o r p
    rw [sums_at o r p (by omega)]; exact cnt_first o r p hj)
  rw [Lib.idxOf, this]; simp
/-- How many places are left when so many offers, from the last one back, have theirs. -/
def lf (L : List (List Int)) (P : Nat) : Nat → Nat
  | 0 => P
  | j + 1 => lf L P j - cnt (L.getD (L.length - 1 - j) []) (tab (L.take (L.length - 1 - j)) P) (lf L P j)
theorem lf_succ (L : List (List Int)) (P j : Nat) : lf L P (j + 1) = lf L P j - cnt (L.getD (L.length - 1 - j) []) (tab (L.take (L.length - 1 - j)) P) (lf L P j) := rfl
theorem lf_le (L : List (List Int)) (P : Nat) : ∀ j, lf L P j ≤ P
  | 0 => Nat.le_refl _
  | j + 1 => by have := lf_le L P j; rw [lf_succ]; omega
def cn (L : List (List Int)) (P : Nat) (k : Nat) : Nat := cnt (L.getD k []) (tab (L.take k) P) (lf L P (L.length - 1 - k))
def choice (L : List (List Int)) (P : Nat) : List Int := (List.range L.length).map fun k => (cn L P k : Int)
theorem choice_len (L : List (List Int)) (P : Nat) : (choice L P).length = L.length := by simp [choice]
theorem choice_at (L : List (List Int)) (P : Nat) {k : Nat} (h : k < L.length) : (choice L P).getD k 0 = (cn L P k : Int) := by simp [choice, h]
theorem lf_cn (L : List (List Int)) (P : Nat) {k : Nat} (h : k < L.length) : lf L P (L.length - k) = lf L P (L.length - 1 - k) - cn L P k ∧ cn L P k ≤ lf L P (L.length - 1 - k) := by
  have e : L.length - k = (L.length - 1 - k) + 1 := by omega
  have e2 : L.length - 1 - (L.length - 1 - k) = k := by omega
  constructor
  · rw [e, lf_succ, e2]; rfl
  · have := cnt_le (L.getD k []) (tab (L.take k) P) (lf L P (L.length - 1 - k))
    unfold cn; omega
/-- What counts gain together. -/
def valS (L : List (List Int)) (cs : List Int) : Nat → Int
  | 0 => 0
  | k + 1 => valS L cs k + gain (L.getD k []) (cs.getD k 0).toNat
def valB (L : List (List Int)) (cs : List Int) : Bool := offersB L && decide (cs.length = L.length) && (List.range L.length).all fun i => inB (cs.getD i 0) 0 (L.getD i []).length
theorem valS_bd {L : List (List Int)} (h : offersB L = true) (cs : List Int) : ∀ k : Nat, -1000 * (k : Int) ≤ valS L cs k ∧ valS L cs k ≤ 1000 * k
  | 0 => by simp [valS]
  | k + 1 => by
    have h1 := valS_bd h cs k
    have h2 := gain_bd (offersB_at h k) (cs.getD k 0).toNat
    unfold valS
    omega
theorem valB_yes {L : List (List Int)} {cs : List Int} (h : valB L cs = true) : offersB L = true ∧ cs.length = L.length ∧ ∀ i, i < L.length → 0 ≤ cs.getD i 0 ∧ cs.getD i 0 ≤ (L.getD i []).length := by
  simp only [valB, Bool.and_eq_true, decide_eq_true_eq, List.all_eq_true, List.mem_range] at h
  exact ⟨h.1.1, h.1.2, fun i hi => inB_yes (h.2 i hi)⟩
theorem valB_of {L : List (List Int)} {cs : List Int} (h1 : offersB L = true) (h2 : cs.length = L.length) (h : ∀ i, i < L.length → inB (cs.getD i 0) 0 (L.getD i []).length = true) : valB L cs = true := by
  simp only [valB, Bool.and_eq_true, decide_eq_true_eq, List.all_eq_true, List.mem_range]
  exact ⟨⟨h1, h2⟩, h⟩
theorem valB_not {L : List (List Int)} {cs : List Int} {i : Nat} (hi : i < L.length) (h : inB (cs.getD i 0) 0 (L.getD i []).length = false) : valB L cs = false := by
  cases hb : valB L cs
  · rfl
  · have := (valB_yes hb).2.2 i hi
    rw [inB_of this.1 this.2] at h; cases h
/-- The greatest of an offer's gains and 0. -/
def top (o : List Int) : Int := Lib.maxOf (0 :: o)
def topS (L : List (List Int)) : Nat → Int
  | 0 => 0
  | k + 1 => topS L k + top (L.getD k [])
theorem fold_max_bd {b : Int} : ∀ (o : List Int) (x : Int), (∀ y ∈ o, y ≤ b) → x ≤ b → x ≤ o.foldl max x ∧ o.foldl max x ≤ b
  | [], x, _, hx => ⟨Int.le_refl _, hx⟩
  | y :: o, x, h, hx => by
    have := fold_max_bd o (max x y) (fun z hz => h z (List.mem_cons_of_mem _ hz)) (by have := h y (List.mem_cons_self ..); omega)
    rw [List.foldl_cons]
    omega
theorem top_bd {o : List Int} (h : offB o = true) : 0 ≤ top o ∧ top o ≤ 1000 := by
  unfold top Lib.maxOf
  have := fold_max_bd (b := 1000) o 0 (fun y hy => by
    obtain ⟨i, hi, rfl⟩ := List.getElem_of_mem hy
    have := inB_yes (allB_get (offB_yes h).2 hi)
    rw [getD_lt _ _ hi] at this
    exact this.2) (by omega)
  simpa using this
theorem topS_bd {L : List (List Int)} (h : offersB L = true) : ∀ k : Nat, 0 ≤ topS L k ∧ topS L k ≤ 1000 * k
  | 0 => by simp [topS]
  | k + 1 => by
    have h1 := topS_bd h k
    have h2 := top_bd (offersB_at h k)
    unfold topS
    omega
theorem top_cons (o : List Int) : Lib.maxOf ((0 :: o).take (o.length + 1)) = top o := by
  rw [List.take_of_length_le (by simp)]; rfl
theorem top_take (o : List Int) {n : Nat} (h : n < o.length) : Lib.maxOf ((0 :: o).take (n + 2)) = max (Lib.maxOf ((0 :: o).take (n + 1))) (o.getD n 0) := by
  rw [Lib.maxOf_step _ _ (by omega) (by simp; omega)]; rfl
theorem top_one (o : List Int) : Lib.maxOf ((0 :: o).take 1) = 0 := by rw [Lib.maxOf_one]; rfl
/-- GainsOf. -/
def gainsB (p f s c : Int) : Bool := inB p 0 100 && inB f 0 100 && inB s 0 10 && inB c 0 10
def gainAt (p f s c : Int) (i : Nat) : Int := s * p - (c * f + i) / (i + 1)
def gainsL (p f s c : Int) : List Int := (List.range 6).map (gainAt p f s c)
theorem gainsL_len (p f s c : Int) : (gainsL p f s c).length = 6 := by simp [gainsL]
theorem gainsL_at (p f s c : Int) {i : Nat} (h : i < 6) : (gainsL p f s c).getD i 0 = gainAt p f s c i := by simp [gainsL, h]
theorem mul_bd' {x y a b : Int} (hx : 0 ≤ x) (hxa : x ≤ a) (hy : 0 ≤ y) (hyb : y ≤ b) : 0 ≤ x * y ∧ x * y ≤ a * b :=
  ⟨Int.mul_nonneg hx hy, Int.mul_le_mul hxa hyb hy (by omega)⟩
theorem gainsB_yes {p f s c : Int} (h : gainsB p f s c = true) : (0 ≤ p ∧ p ≤ 100) ∧ (0 ≤ f ∧ f ≤ 100) ∧ (0 ≤ s ∧ s ≤ 10) ∧ 0 ≤ c ∧ c ≤ 10 := by
  simp only [gainsB, Bool.and_eq_true] at h
  exact ⟨inB_yes h.1.1.1, inB_yes h.1.1.2, inB_yes h.1.2, inB_yes h.2⟩
theorem gainAt_bd {p f s c : Int} (h : gainsB p f s c = true) {i : Nat} (hi : i < 6) : -1000 ≤ gainAt p f s c i ∧ gainAt p f s c i ≤ 1000 := by
  obtain ⟨⟨p0, p1⟩, ⟨f0, f1⟩, ⟨s0, s1⟩, c0, c1⟩ := gainsB_yes h
  have h1 := mul_bd' s0 s1 p0 p1
  have h2 := mul_bd' c0 c1 f0 f1
  unfold gainAt
  generalize s * p = x at *
  generalize c * f = y at *
  have : i = 0 ∨ i = 1 ∨ i = 2 ∨ i = 3 ∨ i = 4 ∨ i = 5 := by omega
  rcases this with rfl | rfl | rfl | rfl | rfl | rfl <;> simp <;> omega
theorem gainsL_off {p f s c : Int} (h : gainsB p f s c = true) : offB (gainsL p f s c) = true := by
  unfold offB
  rw [gainsL_len]
  refine allB_of fun i hi => ?_
  rw [gainsL_len] at hi
  rw [gainsL_at p f s c hi]
  have := gainAt_bd h hi
  exact inB_of this.1 this.2
/-- DropOffer. -/
def drop (L : List (List Int)) (k : Nat) : List (List Int) := L.take k ++ L.drop (k + 1)
theorem drop_len {L : List (List Int)} {k : Nat} (h : k < L.length) : (drop L k).length = L.length - 1 := by simp [drop]; omega
theorem drop_good {L : List (List Int)} (h : offersB L = true) (k : Nat) : offersB (drop L k) = true :=
  offersB_sub h (by simp [drop]; omega) fun x hx => by
    rcases List.mem_append.1 hx with h1 | h1
    · exact List.mem_of_mem_take h1
    · exact List.mem_of_mem_drop h1
end Go.Proofs.Ytdlpbemjbmgbeaa.Of
