/-
  Trees of stops, plain: the nearest of those joined, the next one to be joined, the tree.
-/
import Derived.Test.YtkiadodoehcbmaaRa11
namespace Go.Proofs.Ytkiadodoehcbmaa.Rt

/-- The first nearest of two. -/
def comb {α : Type} (f : α → Int) : Option α → Option α → Option α
  | none, y => y
  | some x, none => some x
  | some x, some y => if f y < f x then some y else some x
theorem comb_none {α : Type} (f : α → Int) (b : Option α) : comb f b none = b := by cases b <;> rfl
theorem comb_assoc {α : Type} (f : α → Int) (a b c : Option α) : comb f (comb f a b) c = comb f a (comb f b c) := by
  cases a with
  | none => rfl
  | some x =>
    cases b with
    | none => rfl
    | some y =>
      cases c with
      | none => rw [comb_none, comb_none]
      | some z =>
        simp only [comb]
        by_cases h1 : f y < f x
        · by_cases h2 : f z < f y
          · simp [h1, h2, show f z < f x by omega]
          · simp [h1, h2]
        · by_cases h2 : f z < f y
          · simp [h1, h2]
          · by_cases h3 : f z < f x
            · omega
            · simp [h1, h2, h3]
def fb {α : Type} (f : α → Int) (b : Option α) (l : List α) : Option α := l.foldl (fun b x => comb f b (some x)) b
theorem fb_append {α : Type} (f : α → Int) (b : Option α) (l m : List α) : fb f b (l ++ m) = fb f (fb f b l) m := List.foldl_append ..
theorem fb_one {α : Type} (f : α → Int) (b : Option α) (x : α) : fb f b [x] = comb f b (some x) := rfl
theorem fb_comb {α : Type} (f : α → Int) : ∀ (l : List α) (b : Option α), fb f b l = comb f b (fb f none l)
  | [], b => (comb_none f b).symm
  | x :: l, b => by
    show fb f (comb f b (some x)) l = comb f b (fb f (comb f none (some x)) l)
    rw [fb_comb f l (comb f b (some x)), fb_comb f l (comb f none (some x)), comb_assoc]
    rfl
theorem fb_map {α β : Type} (f : β → Int) (g : α → β) : ∀ (l : List α) (b : Option α), fb f (b.map g) (l.map g) = (fb (fun x => f (g x)) b l).map g
  | [], b => rfl
  | x :: l, b => by
    have e : comb f (b.map g) (some (g x)) = (comb (fun x => f (g x)) b (some x)).map g := by
      cases b with
      | none => rfl
      | some y => simp only [Option.map_some, comb]; split <;> rfl
    show fb f (comb f (b.map g) (some (g x))) (l.map g) = _
    rw [e, fb_map f g l]
    rfl
theorem fb_some {α : Type} (f : α → Int) : ∀ (l : List α) (b : Option α), (b ≠ none ∨ l ≠ []) → ∃ x, fb f b l = some x ∧ (b = some x ∨ x ∈ l)
  | [], b, h => by
    rcases h with h | h
    · obtain ⟨x, hx⟩ := Option.ne_none_iff_exists'.1 h
      exact ⟨x, hx, Or.inl hx⟩
    · exact absurd rfl h
  | x :: l, b, _ => by
    obtain ⟨y, hy, hm⟩ := fb_some f l (comb f b (some x)) (Or.inl (by cases b with | none => simp [comb] | some z => simp only [comb]; split <;> simp))
    refine ⟨y, hy, ?_⟩
    rcases hm with hm | hm
    · cases b with
      | none => simp only [comb, Option.some.injEq] at hm; right; simp [hm]
      | some z =>
        simp only [comb] at hm
        split at hm
        · right; simp only [Option.some.injEq] at hm; simp [hm]
        · left; exact hm
    · right; simp [hm]
/-- The place of the first nearest among the first k. -/
def bi {α : Type} (f : α → Int) (d : α) (P : List α) : Nat → Nat
  | 0 => 0
  | k + 1 => if f (P.getD k d) < f (P.getD (bi f d P k) d) then k else bi f d P k
theorem bi_lt {α : Type} {f : α → Int} {d : α} {P : List α} : ∀ k, 0 < k → bi f d P k < k
  | 0, h => by omega
  | k + 1, _ => by
    simp only [bi]
    split
    · omega
    · by_cases h0 : k = 0
      · subst h0; simp [bi]
      · have := bi_lt (f := f) (d := d) (P := P) k (by omega)
        omega
theorem bi_fb {α : Type} {f : α → Int} {d : α} {P : List α} : ∀ k, k < P.length → fb f none (P.take (k + 1)) = some (P.getD (bi f d P (k + 1)) d)
  | 0, h => by
    have e : P.take 1 = [P.getD 0 d] := by
      cases P with
      | nil => simp at h
      | cons a r => simp
    rw [e]
    simp [fb, comb, bi]
  | k + 1, h => by
    have e : P.take (k + 1 + 1) = P.take (k + 1) ++ [P.getD (k + 1) d] := by
      rw [List.take_add_one, List.getElem?_eq_getElem h]
      simp [List.getD_eq_getElem?_getD, List.getElem?_eq_getElem h]
    rw [e, fb_append, bi_fb k (by omega), fb_one]
    show (if f (P.getD (k + 1) d) < f (P.getD (bi f d P (k + 1)) d) then _ else _) = _
    rw [show bi f d P (k + 1 + 1) = if f (P.getD (k + 1) d) < f (P.getD (bi f d P (k + 1)) d) then k + 1 else bi f d P (k + 1) from rfl]
    split <;> rfl
theorem bi_all {α : Type} {f : α → Int} {d : α} {P : List α} {n : Nat} (hn : P.length = n) (h : 0 < n) : fb f none P = some (P.getD (bi f d P n) d) := by
  obtain ⟨k, rfl⟩ : ∃ k, n = k + 1 := ⟨n - 1, by omega⟩
  have := bi_fb (f := f) (d := d) (P := P) k (by omega)
  rwa [List.take_of_length_le (by omega)] at this

/-- The joined ones, in order, below i. -/
def ins (I : List Nat) (i : Nat) : List Nat := (List.range i).filter fun x => I.contains x
theorem ins_succ (I : List Nat) (i : Nat) : ins I (i + 1) = if I.contains i then ins I i ++ [i] else ins I i := by
  unfold ins
  rw [List.range_succ, List.filter_append]
  by_cases h : I.contains i = true
  · rw [if_pos h]; simp only [List.filter_cons, h, if_true, List.filter_nil]
  · rw [if_neg h]; simp only [List.filter_cons, h, Bool.false_eq_true, if_false, List.filter_nil, List.append_nil]
def rowTo (I : List Nat) (k i : Nat) : List (Nat × Nat) := (ins I i).map fun x => (k, x)
def wp (L : List (Int × Int)) (p : Nat × Nat) : Int := wy L p.1 p.2
/-- The nearest joined one, below i. -/
def nearTo (L : List (Int × Int)) (I : List Nat) (k i : Nat) : Option Nat := fb (wy L k) none (ins I i)
def outs (I : List Nat) (k : Nat) : List Nat := (List.range k).filter fun x => !I.contains x
theorem outs_succ (I : List Nat) (k : Nat) : outs I (k + 1) = if I.contains k then outs I k else outs I k ++ [k] := by
  unfold outs
  rw [List.range_succ, List.filter_append]
  by_cases h : I.contains k = true
  · rw [if_pos h]; simp only [List.filter_cons, h, Bool.not_true, Bool.false_eq_true, if_false, List.filter_nil, List.append_nil]
  · rw [if_neg h]
    have h' : I.contains k = false := by simpa using h
    simp only [List.filter_cons, h', Bool.not_false, if_true, List.filter_nil]
/-- The joints of those below k that are not joined, each with all that are. -/
def pairs (I : List Nat) (n k : Nat) : List (Nat × Nat) := (outs I k).flatMap fun x => rowTo I x n
theorem pairs_succ (I : List Nat) (n k : Nat) : pairs I n (k + 1) = if I.contains k then pairs I n k else pairs I n k ++ rowTo I k n := by
  unfold pairs
  rw [outs_succ]
  split
  · rfl
  · simp
/-- The best joint of those below k. -/
def bestTo (L : List (Int × Int)) (I : List Nat) (n k : Nat) : Option (Nat × Nat) := fb (wp L) none (pairs I n k)
theorem row_best (L : List (Int × Int)) (I : List Nat) (k i : Nat) : fb (wp L) none (rowTo I k i) = (nearTo L I k i).map fun x => (k, x) := by
  have := fb_map (wp L) (fun x => (k, x)) (ins I i) none
  exact this
theorem best_succ (L : List (Int × Int)) (I : List Nat) (n k : Nat) : bestTo L I n (k + 1) = if I.contains k then bestTo L I n k else comb (wp L) (bestTo L I n k) ((nearTo L I k n).map fun x => (k, x)) := by
  unfold bestTo
  rw [pairs_succ]
  split
  · rfl
  · rw [fb_append, fb_comb, row_best]
theorem near_succ (L : List (Int × Int)) (I : List Nat) (k i : Nat) : nearTo L I k (i + 1) = if I.contains i then comb (wy L k) (nearTo L I k i) (some i) else nearTo L I k i := by
  unfold nearTo
  rw [ins_succ]
  split
  · rw [fb_append, fb_one]
  · rfl
/-- What is joined: some, 0 among them, no two alike. -/
structure Jn (n : Nat) (I : List Nat) : Prop where
  nd : I.Nodup
  lt : ∀ x ∈ I, x < n
  z : 0 ∈ I
theorem Jn.pos {n : Nat} {I : List Nat} (h : Jn n I) : 0 < n := h.lt 0 h.z
theorem Jn.len {n : Nat} {I : List Nat} (h : Jn n I) : I.length ≤ n := by
  have := h.nd.length_le_of_subset (l₂ := List.range n) (fun x hx => List.mem_range.2 (h.lt x hx))
  rwa [List.length_range] at this
theorem ins_ne {n : Nat} {I : List Nat} (h : Jn n I) : ins I n ≠ [] := by
  have : 0 ∈ ins I n := List.mem_filter.2 ⟨List.mem_range.2 h.pos, by simpa using h.z⟩
  intro e; rw [e] at this; cases this
theorem near_is {n : Nat} {I : List Nat} (L : List (Int × Int)) (h : Jn n I) (k : Nat) : ∃ i, nearTo L I k n = some i ∧ i < n ∧ i ∈ I := by
  obtain ⟨i, hi, hm⟩ := fb_some (wy L k) (ins I n) none (Or.inr (ins_ne h))
  rcases hm with hm | hm
  · cases hm
  · have := List.mem_filter.1 hm
    exact ⟨i, hi, List.mem_range.1 this.1, by simpa using this.2⟩
theorem near_to {I : List Nat} {L : List (Int × Int)} {k j i : Nat} (h : nearTo L I k j = some i) : i < j ∧ i ∈ I := by
  by_cases h0 : ins I j = []
  · unfold nearTo at h; rw [h0] at h; cases h
  · obtain ⟨x, hx, hm⟩ := fb_some (wy L k) (ins I j) none (Or.inr h0)
    have e : x = i := by unfold nearTo at h; rw [h] at hx; cases hx; rfl
    subst e
    rcases hm with hm | hm
    · cases hm
    · have := List.mem_filter.1 hm
      exact ⟨List.mem_range.1 this.1, by simpa using this.2⟩
theorem mem_pairs {I : List Nat} {n k : Nat} {p : Nat × Nat} (h : p ∈ pairs I n k) : p.1 < k ∧ ¬ p.1 ∈ I ∧ p.2 < n ∧ p.2 ∈ I := by
  unfold pairs at h
  obtain ⟨x, hx, hp⟩ := List.mem_flatMap.1 h
  obtain ⟨y, hy, rfl⟩ := List.mem_map.1 hp
  have h1 := List.mem_filter.1 hx
  have h2 := List.mem_filter.1 hy
  refine ⟨List.mem_range.1 h1.1, by simpa using h1.2, List.mem_range.1 h2.1, by simpa using h2.2⟩
theorem best_is {I : List Nat} {L : List (Int × Int)} {n k : Nat} {p : Nat × Nat} (h : bestTo L I n k = some p) : p.1 < k ∧ ¬ p.1 ∈ I ∧ p.2 < n ∧ p.2 ∈ I := by
  by_cases h0 : pairs I n k = []
  · unfold bestTo at h; rw [h0] at h; cases h
  · obtain ⟨x, hx, hm⟩ := fb_some (wp L) (pairs I n k) none (Or.inr h0)
    have e : x = p := by unfold bestTo at h; rw [h] at hx; cases hx; rfl
    subst e
    rcases hm with hm | hm
    · cases hm
    · exact mem_pairs hm
/-- Where some are not joined, one is next. -/
theorem pairs_ne {n : Nat} {I : List Nat} (h : Jn n I) (hl : I.length < n) : pairs I n n ≠ [] := by
  have : ∃ k, k < n ∧ ¬ k ∈ I := Classical.byContradiction fun hno => by
    have := (List.nodup_range (n := n)).length_le_of_subset (l₂ := I) (fun x hx => Classical.byContradiction fun hm => hno ⟨x, List.mem_range.1 hx, hm⟩)
    rw [List.length_range] at this; omega
  obtain ⟨k, hk, hm⟩ := this
  have h0 : 0 ∈ ins I n := List.mem_filter.2 ⟨List.mem_range.2 h.pos, by simpa using h.z⟩
  have : (k, 0) ∈ pairs I n n := List.mem_flatMap.2 ⟨k, List.mem_filter.2 ⟨List.mem_range.2 hk, by simpa using hm⟩, List.mem_map.2 ⟨0, h0, rfl⟩⟩
  intro e; rw [e] at this; cases this
theorem best_some {n : Nat} {I : List Nat} (L : List (Int × Int)) (h : Jn n I) (hl : I.length < n) : ∃ k i, bestTo L I n n = some (k, i) ∧ k < n ∧ ¬ k ∈ I ∧ i < n ∧ i ∈ I := by
  obtain ⟨p, hp, _⟩ := fb_some (wp L) (pairs I n n) none (Or.inr (pairs_ne h hl))
  have := best_is (L := L) (n := n) (k := n) hp
  exact ⟨p.1, p.2, hp, this.1, this.2.1, this.2.2.1, this.2.2.2⟩
theorem Jn.add {n : Nat} {I : List Nat} (h : Jn n I) {k : Nat} (hk : k < n) (hm : ¬ k ∈ I) : Jn n (I ++ [k]) :=
  ⟨by rw [List.nodup_append]; exact ⟨h.nd, by simp, fun a ha b hb e => by simp at hb; subst hb; subst e; exact hm ha⟩, fun x hx => by
    rcases List.mem_append.1 hx with hx | hx
    · exact h.lt x hx
    · simp at hx; omega, List.mem_append.2 (Or.inl h.z)⟩
theorem Jn.full {n : Nat} {I : List Nat} (h : Jn n I) (hl : I.length = n) {k : Nat} (hk : k < n) : k ∈ I := Classical.byContradiction fun hm => by
  have := (h.add hk hm).len
  simp at this; omega
/-- The tree after m joints: what is joined, by which, and the sum. -/
def tree (L : List (Int × Int)) : Nat → List Nat × List Int × Int
  | 0 => ([0], List.replicate L.length (-1), 0)
  | m + 1 =>
    let t := tree L m
    match bestTo L t.1 L.length L.length with
    | some (k, i) => (t.1 ++ [k], t.2.1.set k (i : Int), t.2.2 + wy L k i)
    | none => t
theorem tree_jn {L : List (Int × Int)} {n : Nat} (hn : L.length = n) (h1 : 1 ≤ n) : ∀ m, m < n → Jn n (tree L m).1 ∧ (tree L m).1.length = m + 1 ∧ (tree L m).2.1.length = n
  | 0, _ => ⟨⟨by simp [tree], fun x hx => by simp [tree] at hx; omega, by simp [tree]⟩, by simp [tree], by simp [tree, hn]⟩
  | m + 1, hm => by
    obtain ⟨j1, j2, j3⟩ := tree_jn hn h1 m (by omega)
    obtain ⟨k, i, hb, hk, hki, _⟩ := best_some L j1 (by omega)
    simp only [tree, hn, hb]
    exact ⟨j1.add hk hki, by simp [j2], by simpa using j3⟩
theorem tree_step {L : List (Int × Int)} {n m k i : Nat} {I : List Nat} {up : List Int} {s : Int} (hn : L.length = n) (ht : tree L m = (I, up, s)) (hb : bestTo L I n n = some (k, i)) : tree L (m + 1) = (I ++ [k], up.set k (i : Int), s + wy L k i) := by
  simp only [tree, hn, ht, hb]
def toL (L : List (Int × Int)) : List Int := if stopsB L then (tree L (L.length - 1)).2.1 else []
def toI (L : List (Int × Int)) : Int := if stopsB L then (tree L (L.length - 1)).2.2 else 0
theorem tree_bd {L : List (Int × Int)} {n : Nat} (hn : L.length = n) (h1 : 1 ≤ n) (ha : allS L = true) : ∀ m, m < n → 0 ≤ (tree L m).2.2 ∧ (tree L m).2.2 ≤ 100 * (m : Int)
  | 0, _ => by simp [tree]
  | m + 1, hm => by
    obtain ⟨j1, j2, j3⟩ := tree_jn hn h1 m (by omega)
    obtain ⟨k, i, hb, hk, hki, hi, hii⟩ := best_some L j1 (by omega)
    have ih := tree_bd hn h1 ha m (by omega)
    have hw := wy_bd ha (i := k) (j := i) (by omega) (by omega)
    simp only [tree, hn, hb]
    omega
end Go.Proofs.Ytkiadodoehcbmaa.Rt
