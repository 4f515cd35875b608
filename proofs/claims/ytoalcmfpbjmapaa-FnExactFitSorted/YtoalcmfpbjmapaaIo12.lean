/-
  Boxes filled item by item, plain.
-/
import Derived.Test.YtoalcmfpbjmapaaIh12
import Derived.Test.YtoalcmfpbjmapaaRk
namespace Go.Proofs.Ytoalcmfpbjmapaa.It

/-- How much room is left in a box. -/
def rm (b : List (Int × Int)) : Int := 20 - (b.map Prod.snd).sum
theorem rm_nil : rm [] = 20 := rfl
theorem sum_snoc (l : List Int) (x : Int) : (l ++ [x]).sum = l.sum + x := by rw [List.sum_append]; simp
theorem rm_snoc (b : List (Int × Int)) (x : Int × Int) : rm (b ++ [x]) = rm b - x.2 := by
  unfold rm; rw [List.map_append, List.map_cons, List.map_nil, sum_snoc]; omega
/-- The first box in which there is room, or behind all. -/
def atI (B : List (List (Int × Int))) (s : Int) : Nat := B.findIdx fun b => decide (s ≤ rm b)
theorem at_le (B : List (List (Int × Int))) (s : Int) : atI B s ≤ B.length := List.findIdx_le_length
theorem at_yes {B : List (List (Int × Int))} {s : Int} {i : Nat} (hi : i < B.length) (h : s ≤ rm (B.getD i [])) (hn : ∀ j, j < i → ¬ s ≤ rm (B.getD j [])) : atI B s = i := by
  unfold atI
  rw [List.findIdx_eq hi]
  constructor
  · simpa [hi] using h
  · intro j hj
    have := hn j hj
    simp [show j < B.length by omega] at this
    simpa using this
theorem at_no {B : List (List (Int × Int))} {s : Int} (hn : ∀ j, j < B.length → ¬ s ≤ rm (B.getD j [])) : atI B s = B.length := by
  unfold atI
  rw [List.findIdx_eq_length]
  intro b hb
  obtain ⟨j, hj, rfl⟩ := List.mem_iff_getElem.1 hb
  have := hn j hj
  simp [hj] at this
  simpa using this
def ext (B : List (List (Int × Int))) (i : Nat) : List (List (Int × Int)) := if i < B.length then B else B ++ [[]]
def place (B : List (List (Int × Int))) (x : Int × Int) : List (List (Int × Int)) := (ext B (atI B x.2)).set (atI B x.2) ((ext B (atI B x.2)).getD (atI B x.2) [] ++ [x])
def fillTo (xs : List (Int × Int)) (k : Nat) : List (List (Int × Int)) := (xs.take k).foldl place []
def fill (xs : List (Int × Int)) : List (List (Int × Int)) := xs.foldl place []
theorem fillTo_zero (xs : List (Int × Int)) : fillTo xs 0 = [] := rfl
theorem fillTo_succ {xs : List (Int × Int)} {k : Nat} (hk : k < xs.length) : fillTo xs (k + 1) = place (fillTo xs k) (xs.getD k (0, 0)) := by
  unfold fillTo
  rw [List.take_add_one, List.foldl_append]
  simp [hk]
theorem fillTo_all (xs : List (Int × Int)) {k : Nat} (hk : xs.length ≤ k) : fillTo xs k = fill xs := by
  unfold fillTo fill; rw [List.take_of_length_le hk]
def nums (B : List (List (Int × Int))) : List (List Int) := B.map fun b => b.map Prod.fst
def rooms (B : List (List (Int × Int))) : List Int := B.map rm
theorem nums_len (B : List (List (Int × Int))) : (nums B).length = B.length := by simp [nums]
theorem rooms_len (B : List (List (Int × Int))) : (rooms B).length = B.length := by simp [rooms]
theorem nums_at {B : List (List (Int × Int))} {i : Nat} : (nums B).getD i [] = (B.getD i []).map Prod.fst := by
  by_cases h : i < B.length
  · simp [nums, h]
  · simp [nums, List.getElem?_eq_none (show B.length ≤ i by omega)]
theorem rooms_at {B : List (List (Int × Int))} {i : Nat} (h : i < B.length) : (rooms B).getD i 0 = rm (B.getD i []) := by simp [rooms, h]
theorem nums_set {B : List (List (Int × Int))} {i : Nat} {b : List (Int × Int)} : nums (B.set i b) = (nums B).set i (b.map Prod.fst) := by simp [nums, List.map_set]
theorem rooms_set {B : List (List (Int × Int))} {i : Nat} {b : List (Int × Int)} : rooms (B.set i b) = (rooms B).set i (rm b) := by simp [rooms, List.map_set]
theorem nums_snoc {B : List (List (Int × Int))} : nums (B ++ [[]]) = nums B ++ [[]] := by simp [nums]
theorem rooms_snoc {B : List (List (Int × Int))} : rooms (B ++ [[]]) = rooms B ++ [20] := by simp [rooms, rm_nil]
/-- What boxes are when k items were put in. -/
structure FI (xs : List (Int × Int)) (k : Nat) (B : List (List (Int × Int))) : Prop where
  few : B.length ≤ k
  box : ∀ i, i < B.length → (B.getD i []).length ≤ k ∧ 0 ≤ rm (B.getD i []) ∧ rm (B.getD i []) ≤ 20 ∧ ∀ y ∈ B.getD i [], y ∈ xs.take k
theorem fi_start (xs : List (Int × Int)) : FI xs 0 [] := ⟨Nat.le_refl _, fun _ hi => absurd hi (Nat.not_lt_zero _)⟩
theorem ext_at {B : List (List (Int × Int))} {i : Nat} (hi : i ≤ B.length) : i < (ext B i).length := by
  unfold ext; split
  · assumption
  · simp; omega
theorem take_sub {xs : List (Int × Int)} {k : Nat} {y : Int × Int} (h : y ∈ xs.take k) : y ∈ xs.take (k + 1) := by
  rw [List.take_add_one]; exact List.mem_append.2 (Or.inl h)
theorem take_last {xs : List (Int × Int)} {k : Nat} (hk : k < xs.length) : xs.getD k (0, 0) ∈ xs.take (k + 1) := by
  rw [List.take_add_one]; refine List.mem_append.2 (Or.inr ?_); simp [hk]
theorem fi_ext {xs : List (Int × Int)} {k : Nat} {B : List (List (Int × Int))} (h : FI xs k B) (i : Nat) : ∀ j, j < (ext B i).length → ((ext B i).getD j []).length ≤ k ∧ 0 ≤ rm ((ext B i).getD j []) ∧ rm ((ext B i).getD j []) ≤ 20 ∧ ∀ y ∈ (ext B i).getD j [], y ∈ xs.take k := by
  intro j hj
  unfold ext at hj ⊢
  split
  · rename_i hi
    rw [if_pos hi] at hj
    exact h.box j hj
  · rename_i hi
    rw [if_neg hi] at hj
    by_cases e : j < B.length
    · have : (B ++ [[]]).getD j [] = B.getD j [] := by simp [List.getElem?_append_left e]
      rw [this]; exact h.box j e
    · have e2 : j = B.length := by simp at hj; omega
      have : (B ++ [[]]).getD j [] = [] := by subst e2; simp
      rw [this]
      exact ⟨by simp, by rw [rm_nil]; omega, by rw [rm_nil]; omega, fun y hy => by simp at hy⟩
/-- In the box that is chosen there is room. -/
theorem fi_room {xs : List (Int × Int)} {k : Nat} {B : List (List (Int × Int))} {s : Int} (_h : FI xs k B) (hs : s ≤ 20) : s ≤ rm ((ext B (atI B s)).getD (atI B s) []) := by
  by_cases e : atI B s < B.length
  · have h1 : (B.findIdx fun b => decide (s ≤ rm b)) < B.length := e
    have h2 := List.findIdx_getElem (w := h1)
    unfold ext
    rw [if_pos e]
    rw [List.getD_eq_getElem?_getD, List.getElem?_eq_getElem e]
    simpa [atI] using h2
  · have e2 : atI B s = B.length := by have := at_le B s; omega
    unfold ext
    rw [if_neg e, e2]
    have : (B ++ [[]]).getD B.length [] = [] := by simp
    rw [this, rm_nil]; exact hs
theorem fi_step {xs : List (Int × Int)} {k : Nat} {B : List (List (Int × Int))} (h : FI xs k B) (hk : k < xs.length) (h1 : 0 ≤ (xs.getD k (0, 0)).2) (h2 : (xs.getD k (0, 0)).2 ≤ 20) : FI xs (k + 1) (place B (xs.getD k (0, 0))) := by
  have hr := fi_room h h2
  have hat := ext_at (at_le B (xs.getD k (0, 0)).2)
  refine ⟨?_, fun i hi => ?_⟩
  · unfold place ext
    rw [List.length_set]
    have := h.few
    split
    · omega
    · simp; omega
  · unfold place at hi ⊢
    rw [List.length_set] at hi
    by_cases e : i = atI B (xs.getD k (0, 0)).2
    · subst e
      have hx := fi_ext h (atI B (xs.getD k (0, 0)).2) _ hat
      have : ((ext B (atI B (xs.getD k (0, 0)).2)).set (atI B (xs.getD k (0, 0)).2) ((ext B (atI B (xs.getD k (0, 0)).2)).getD (atI B (xs.getD k (0, 0)).2) [] ++ [xs.getD k (0, 0)])).getD (atI B (xs.getD k (0, 0)).2) [] = (ext B (atI B (xs.getD k (0, 0)).2)).getD (atI B (xs.getD k (0, 0)).2) [] ++ [xs.getD k (0, 0)] := by
        rw [List.getD_eq_getElem?_getD, List.getElem?_set_self hat]; rfl
      rw [this, rm_snoc]
      refine ⟨by rw [List.length_append]; simp only [List.length_cons, List.length_nil]; omega, by omega, by omega, fun y hy => ?_⟩
      rcases List.mem_append.1 hy with hy | hy
      · exact take_sub (hx.2.2.2 y hy)
      · simp only [List.mem_cons, List.not_mem_nil, or_false] at hy
        rw [hy]; exact take_last hk
    · have hx := fi_ext h (atI B (xs.getD k (0, 0)).2) i hi
      have : ((ext B (atI B (xs.getD k (0, 0)).2)).set (atI B (xs.getD k (0, 0)).2) ((ext B (atI B (xs.getD k (0, 0)).2)).getD (atI B (xs.getD k (0, 0)).2) [] ++ [xs.getD k (0, 0)])).getD i [] = (ext B (atI B (xs.getD k (0, 0)).2)).getD i [] := by
        rw [List.getD_eq_getElem?_getD, List.getElem?_set_ne (Ne.symm e), ← List.getD_eq_getElem?_getD]
      rw [this]
      exact ⟨by omega, hx.2.1, hx.2.2.1, fun y hy => take_sub (hx.2.2.2 y hy)⟩
theorem fi_all {xs : List (Int × Int)} (h : ∀ x ∈ xs, 1 ≤ x.2 ∧ x.2 ≤ 20) : ∀ k, k ≤ xs.length → FI xs k (fillTo xs k)
  | 0, _ => fi_start xs
  | k + 1, hk => by
    have hm : xs.getD k (0, 0) ∈ xs := by simp [show k < xs.length by omega]
    have := h _ hm
    rw [fillTo_succ (by omega)]
    exact fi_step (fi_all h k (by omega)) (by omega) (by omega) (by omega)
/-- One that comes is in no box. -/
theorem fi_new {xs : List (Int × Int)} {k i : Nat} {B : List (List (Int × Int))} (hd : xs.Nodup) (h : FI xs k B) (hk : k < xs.length) (hi : i < B.length) : ¬ xs.getD k (0, 0) ∈ B.getD i [] := fun hm => by
  have h1 := (h.box i hi).2.2.2 _ hm
  obtain ⟨j, hj, e⟩ := List.mem_iff_getElem.1 h1
  have hj' : j < k := by rw [List.length_take] at hj; omega
  have e2 : xs[j]'(by omega) = xs[k] := by
    have : (xs.take k)[j] = xs[j]'(by omega) := by simp
    rw [← this, e]; simp [hk]
  have := (List.getElem_inj hd).1 e2
  omega
end Go.Proofs.Ytoalcmfpbjmapaa.It
