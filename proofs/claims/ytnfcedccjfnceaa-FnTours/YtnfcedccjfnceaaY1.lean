/-
  In one: Rk, Pf, Ha, Ra11, Rg11, Tp11, Rm11, Bt11, Kh, Tq11, Math, A, B, C, D, E, F, Q, R, S, Xi, Pa, Hv, Pb, Yf.
-/
import Derived.Sort.WalkA
import Derived.Test.YtnfcedccjfnceaaRows
import Derived.WalkKit
import Derived.WalkSpells
import Derived.WalkLawsBesides
import Derived.Deep.QuietTactic
import Derived.BigQuiet
import Derived.Laws.StructEq
import Derived.Deep.RegionHeld3
import Derived.OwnWalk
import Derived.Laws.AppendOwn
import Derived.Laws.OwnMore
import Derived.Lib.AppendZeros
namespace Go.Proofs.Ytnfcedccjfnceaa.Rk
open Go.Sort

/-- The value of the good with number i. -/
def val (vs : List Int) (i : Nat) : Int := vs.getD i 0
/-- Inserted ahead of the first one that is less. -/
def insL (vs : List Int) (i : Nat) : List Nat → List Nat
  | [] => [i]
  | x :: r => if val vs x ≥ val vs i then x :: insL vs i r else i :: x :: r
/-- The first k numbers, ranked. -/
def upto (vs : List Int) : Nat → List Nat
  | 0 => []
  | k + 1 => insL vs k (upto vs k)
def rank (vs : List Int) : List Nat := upto vs vs.length

theorem insL_len (vs : List Int) (i : Nat) : ∀ l, (insL vs i l).length = l.length + 1
  | [] => rfl
  | x :: r => by unfold insL; split <;> simp [insL_len vs i r]
theorem upto_len (vs : List Int) : ∀ k, (upto vs k).length = k
  | 0 => rfl
  | k + 1 => by rw [upto, insL_len, upto_len vs k]
theorem rank_len (vs : List Int) : (rank vs).length = vs.length := upto_len _ _
theorem insL_perm (vs : List Int) (i : Nat) : ∀ l, (insL vs i l).Perm (i :: l)
  | [] => List.Perm.refl _
  | x :: r => by
    unfold insL; split
    · exact ((insL_perm vs i r).cons x).trans (List.Perm.swap i x r)
    · exact List.Perm.refl _
theorem upto_perm (vs : List Int) : ∀ k, (upto vs k).Perm (List.range k)
  | 0 => List.Perm.refl _
  | k + 1 => by
    rw [upto, List.range_succ]
    exact ((insL_perm vs k _).trans ((upto_perm vs k).cons k)).trans (List.perm_append_singleton k (List.range k)).symm
theorem rank_perm (vs : List Int) : (rank vs).Perm (List.range vs.length) := upto_perm _ _
theorem upto_mem {vs : List Int} {k x : Nat} (h : x ∈ upto vs k) : x < k := by simpa using (upto_perm vs k).mem_iff.1 h
theorem rank_mem {vs : List Int} {x : Nat} (h : x ∈ rank vs) : x < vs.length := upto_mem h
theorem mem_insL {vs : List Int} {i x : Nat} {l : List Nat} : x ∈ insL vs i l ↔ x = i ∨ x ∈ l := by
  rw [(insL_perm vs i l).mem_iff, List.mem_cons]

/-- From the greatest one down. -/
def Down (vs : List Int) (l : List Nat) : Prop := l.Pairwise fun a b => val vs a ≥ val vs b
theorem insL_down (vs : List Int) (i : Nat) : ∀ l, Down vs l → Down vs (insL vs i l)
  | [], _ => by simp [insL, Down]
  | x :: r, h => by
    have h' := List.pairwise_cons.1 h
    unfold insL; split
    · rename_i hx
      refine List.pairwise_cons.2 ⟨fun y hy => ?_, insL_down vs i r h'.2⟩
      rcases mem_insL.1 hy with rfl | hy
      · exact hx
      · exact h'.1 y hy
    · rename_i hx
      refine List.pairwise_cons.2 ⟨fun y hy => ?_, h⟩
      rcases List.mem_cons.1 hy with rfl | hy
      · omega
      · have := h'.1 y hy; omega
theorem upto_down (vs : List Int) : ∀ k, Down vs (upto vs k)
  | 0 => List.Pairwise.nil
  | k + 1 => insL_down vs k _ (upto_down vs k)
theorem rank_down (vs : List Int) : Down vs (rank vs) := upto_down _ _

/-- Of alike ones the first one first. -/
def Stays (vs : List Int) (l : List Nat) : Prop := l.Pairwise fun a b => val vs a > val vs b ∨ (val vs a = val vs b ∧ a < b)
theorem insL_stays (vs : List Int) (i : Nat) : ∀ l, (∀ x ∈ l, x < i) → Stays vs l → Stays vs (insL vs i l)
  | [], _, _ => by simp [insL, Stays]
  | x :: r, hl, h => by
    have h' := List.pairwise_cons.1 h
    unfold insL; split
    · rename_i hx
      refine List.pairwise_cons.2 ⟨fun y hy => ?_, insL_stays vs i r (fun z hz => hl z (List.mem_cons_of_mem _ hz)) h'.2⟩
      rcases mem_insL.1 hy with rfl | hy
      · have := hl x (List.mem_cons_self ..); omega
      · exact h'.1 y hy
    · rename_i hx
      refine List.pairwise_cons.2 ⟨fun y hy => ?_, h⟩
      rcases List.mem_cons.1 hy with rfl | hy
      · left; omega
      · have := h'.1 y hy; left; omega
theorem upto_stays (vs : List Int) : ∀ k, Stays vs (upto vs k)
  | 0 => List.Pairwise.nil
  | k + 1 => insL_stays vs k _ (fun _ hx => upto_mem hx) (upto_stays vs k)
theorem rank_stays (vs : List Int) : Stays vs (rank vs) := upto_stays _ _

/-- Where it is inserted. -/
theorem insL_at (vs : List Int) (i : Nat) : ∀ (l : List Nat) (k : Nat), k ≤ l.length → (∀ j, j < k → val vs (l.getD j 0) ≥ val vs i) → (k < l.length → val vs (l.getD k 0) < val vs i) → insL vs i l = l.take k ++ i :: l.drop k
  | [], k, hk, _, _ => by simp at hk; subst hk; rfl
  | x :: r, 0, _, _, h2 => by
    have := h2 (by simp)
    unfold insL; rw [if_neg (by simpa using this)]; rfl
  | x :: r, k + 1, hk, h1, h2 => by
    have := h1 0 (by omega)
    unfold insL; rw [if_pos (by simpa using this), insL_at vs i r k (by simpa using hk) (fun j hj => by simpa using h1 (j + 1) (by omega)) (fun h => by simpa using h2 (by simpa using h))]
    rfl

/-- Of a list that goes down, inserted from behind. -/
theorem insL_behind (vs : List Int) (i : Nat) : ∀ (l : List Nat) (p : Nat), Down vs (l ++ [p]) → insL vs i (l ++ [p]) = if val vs i > val vs p then insL vs i l ++ [p] else l ++ [p, i]
  | [], p, _ => by
    simp only [List.nil_append, insL]
    split <;> split <;> first | rfl | omega
  | x :: r, p, h => by
    have h' := List.pairwise_cons.1 h
    have hp := h'.1 p (by simp)
    have ih := insL_behind vs i r p h'.2
    simp only [List.cons_append, insL]
    split
    · rename_i hx
      rw [ih]; split <;> rfl
    · rename_i hx
      rw [if_pos (by omega)]; rfl

/-- The comparison by which the program sorts: a ahead of b, where a's value is greater. -/
def lt (vs : List Int) (m : Nat) (a b : Fin (m + 1)) : Bool := decide (val vs b < val vs a)
def arr (m : Nat) (l : List (Fin (m + 1))) : Array (Fin (m + 1)) := l.toArray

theorem swp_list {α : Type} [Inhabited α] (A : List α) (p x : α) (S : List α) : swp (A ++ p :: x :: S).toArray (A.length + 1) A.length = (A ++ x :: p :: S).toArray := by
  unfold swp
  simp

theorem get_list {α : Type} [Inhabited α] (A : List α) (p : α) (S : List α) : (A ++ p :: S).toArray[A.length]! = p := by simp

def vals (m : Nat) (l : List (Fin (m + 1))) : List Nat := l.map (·.val)

theorem inner (vs : List Int) (m : Nat) (i : Fin (m + 1)) : ∀ (n : Nat) (A S : List (Fin (m + 1))), A.length = n → Down vs (vals m A) → ∃ B, insInner (lt vs m) 0 n (A ++ i :: S).toArray = (B ++ S).toArray ∧ vals m B = insL vs i.val (vals m A)
  | 0, A, S, hn, _ => by
    obtain rfl := List.length_eq_zero_iff.1 hn
    exact ⟨[i], rfl, rfl⟩
  | n + 1, A, S, hn, hd => by
    obtain ⟨A', p, rfl⟩ : ∃ A' p, A = A' ++ [p] := ⟨A.dropLast, A.getLast (by intro e; simp [e] at hn), (List.dropLast_concat_getLast _).symm⟩
    have hA' : A'.length = n := by simpa using hn
    have e1 : vals m (A' ++ [p]) = vals m A' ++ [p.val] := by simp [vals]
    have hd' : Down vs (vals m A') := by
      rw [e1] at hd; exact (List.pairwise_append.1 hd).1
    rw [e1, insL_behind vs i.val _ _ (e1 ▸ hd)]
    have g1 : (A' ++ [p] ++ i :: S).toArray[n + 1]! = i := by
      have := get_list (A' ++ [p]) i S
      rw [hn] at this
      exact this
    have g2 : (A' ++ [p] ++ i :: S).toArray[n]! = p := by
      have := get_list A' p (i :: S)
      rw [List.append_assoc]
      rw [hA'] at this
      exact this
    rw [insInner, g1, g2]
    by_cases h : val vs p.val < val vs i.val
    · have hl : lt vs m i p = true := decide_eq_true h
      rw [if_pos (by simp [hl]), if_pos h]
      have hs : swp (A' ++ [p] ++ i :: S).toArray (n + 1) n = (A' ++ i :: p :: S).toArray := by
        have := swp_list A' p i S
        rw [hA'] at this
        rw [List.append_assoc]
        exact this
      rw [hs]
      obtain ⟨B, hB, hv⟩ := inner vs m i n A' (p :: S) hA' hd'
      exact ⟨B ++ [p], by rw [hB, List.append_assoc]; rfl, by simp [vals] at hv ⊢; exact hv⟩
    · have hl : lt vs m i p = false := decide_eq_false h
      rw [if_neg (by simp [hl]), if_neg (by omega)]
      exact ⟨A' ++ [p, i], by simp, by simp [vals]⟩

/-- The whole sort of the numbers 0, 1, .. m. -/
theorem outer (vs : List Int) (m : Nat) : ∀ (r k : Nat) (A S : List (Fin (m + 1))), A.length = k → vals m A = upto vs k → vals m S = (List.range' k (m + 1 - k)) → k ≤ m + 1 → m + 1 - k = r →
    ∃ B, insOuter (lt vs m) 0 (m + 1) k (A ++ S).toArray = B.toArray ∧ vals m B = upto vs (m + 1)
  | 0, k, A, S, hA, hv, hS, hk, hr => by
    have e : k = m + 1 := by omega
    subst e
    rw [insOuter_stop _ _ _ _ _ (by omega)]
    have : S = [] := by simpa [vals] using hS
    subst this
    exact ⟨A, by simp, hv⟩
  | r + 1, k, A, S, hA, hv, hS, hk, hr => by
    have hlt : k < m + 1 := by omega
    rw [insOuter_go _ _ _ _ _ hlt]
    have e : m + 1 - k = (m + 1 - (k + 1)) + 1 := by omega
    rw [e, List.range'_succ] at hS
    obtain ⟨s, S', rfl⟩ : ∃ s S', S = s :: S' := by
      cases S with
      | nil => simp [vals] at hS
      | cons s S' => exact ⟨s, S', rfl⟩
    simp [vals] at hS
    obtain ⟨B, hB, hvB⟩ := inner vs m s k A S' hA (by rw [hv]; exact upto_down vs k)
    rw [hB]
    rw [hv, hS.1] at hvB
    exact outer vs m r (k + 1) B S' (by have := congrArg List.length hvB; simpa [vals, insL_len, upto_len] using this) hvB (by simpa [vals] using hS.2) (by omega) (by omega)

theorem sorted (vs : List Int) (m : Nat) (d : Array (Fin (m + 1))) (hd : vals m d.toList = List.range (m + 1)) (hv : vs.length = m + 1) :
    ∃ B, insertionSort (lt vs m) d 0 (m + 1) = B.toArray ∧ vals m B = rank vs := by
  unfold insertionSort rank
  rw [hv]
  obtain ⟨l, rfl⟩ : ∃ l : List (Fin (m + 1)), d = l.toArray := ⟨d.toList, by simp⟩
  simp only at hd
  rw [List.range_succ_eq_map] at hd
  obtain ⟨s, S, rfl⟩ : ∃ s S, l = s :: S := by
    cases l with
    | nil => simp [vals] at hd
    | cons s S' => exact ⟨s, S', rfl⟩
  simp only [vals, List.map_cons, List.cons.injEq] at hd
  refine outer vs m m 1 [s] S rfl ?_ ?_ (by omega) (by omega)
  · simp [vals, upto, insL, hd.1]
  · show S.map (·.val) = _
    rw [hd.2, Nat.add_sub_cancel]
    apply List.ext_getElem
    · simp
    · intro j h1 h2
      simp; omega
end Go.Proofs.Ytnfcedccjfnceaa.Rk
namespace Go.Proofs.Ytnfcedccjfnceaa.Pf

theorem getD_lt {α : Type} (xs : List α) (d : α) {i : Nat} (h : i < xs.length) : xs.getD i d = xs[i] := by simp [h]
def inB (n lo hi : Int) : Bool := decide (lo ≤ n) && decide (n ≤ hi)
theorem inB_yes {n lo hi : Int} (h : inB n lo hi = true) : lo ≤ n ∧ n ≤ hi := by simpa [inB] using h
theorem inB_of {n lo hi : Int} (h1 : lo ≤ n) (h2 : n ≤ hi) : inB n lo hi = true := by simp [inB, h1, h2]
theorem inB_no {n lo hi : Int} (h : inB n lo hi = false) : n < lo ∨ hi < n := by
  by_cases h1 : lo ≤ n
  · right; simp [inB, h1] at h; omega
  · left; omega
def allB (xs : List Int) (lo hi : Int) : Bool := xs.all fun x => inB x lo hi
theorem allB_get {xs : List Int} {lo hi : Int} (h : allB xs lo hi = true) {i : Nat} (hi' : i < xs.length) : inB (xs.getD i 0) lo hi = true := by
  have := List.all_eq_true.1 h (xs.getD i 0) (by rw [getD_lt _ _ hi']; exact List.getElem_mem hi')
  exact this
theorem allB_of {xs : List Int} {lo hi : Int} (h : ∀ i, i < xs.length → inB (xs.getD i 0) lo hi = true) : allB xs lo hi = true := by
  refine List.all_eq_true.2 fun x hx => ?_
  obtain ⟨i, hi', rfl⟩ := List.getElem_of_mem hx
  have := h i hi'
  rwa [getD_lt _ _ hi'] at this
theorem allB_not {xs : List Int} {lo hi : Int} {i : Nat} (hi' : i < xs.length) (h : inB (xs.getD i 0) lo hi = false) : allB xs lo hi = false := by
  cases e : allB xs lo hi
  · rfl
  · rw [allB_get e hi'] at h; cases h

/-- One good of a profile: how often, how much. -/
def goodAt (p f : Int) : Bool := inB p 0 10000 && inB f 0 10000000 && ((p == 0) == (f == 0))
def goodP (ps fs : List Int) : Bool := decide (ps.length = fs.length) && decide (ps.length ≤ 12) && (List.range ps.length).all fun i => goodAt (ps.getD i 0) (fs.getD i 0)
theorem goodP_len {ps fs : List Int} (h : goodP ps fs = true) : ps.length = fs.length ∧ ps.length ≤ 12 := by
  simp only [goodP, Bool.and_eq_true, decide_eq_true_eq] at h
  exact h.1
theorem goodP_at {ps fs : List Int} (h : goodP ps fs = true) {i : Nat} (hi : i < ps.length) : goodAt (ps.getD i 0) (fs.getD i 0) = true := by
  simp only [goodP, Bool.and_eq_true, decide_eq_true_eq] at h
  exact List.all_eq_true.1 h.2 i (by simpa using hi)
theorem goodP_of {ps fs : List Int} (h1 : ps.length = fs.length) (h2 : ps.length ≤ 12) (h : ∀ i, i < ps.length → goodAt (ps.getD i 0) (fs.getD i 0) = true) : goodP ps fs = true := by
  simp only [goodP, Bool.and_eq_true, decide_eq_true_eq]
  exact ⟨⟨h1, h2⟩, List.all_eq_true.2 fun i hi => h i (by simpa using hi)⟩
theorem goodP_ne {ps fs : List Int} (h : ps.length ≠ fs.length) : goodP ps fs = false := by simp [goodP, h]
theorem goodP_many {ps fs : List Int} (h : 12 < ps.length) : goodP ps fs = false := by simp [goodP, show ¬ ps.length ≤ 12 by omega]
theorem goodP_not {ps fs : List Int} {i : Nat} (hi : i < ps.length) (h : goodAt (ps.getD i 0) (fs.getD i 0) = false) : goodP ps fs = false := by
  cases e : goodP ps fs
  · rfl
  · rw [goodP_at e hi] at h; cases h
theorem goodAt_bd {p f : Int} (h : goodAt p f = true) : 0 ≤ p ∧ p ≤ 10000 ∧ 0 ≤ f ∧ f ≤ 10000000 ∧ (p = 0 ↔ f = 0) := by
  simp only [goodAt, Bool.and_eq_true] at h
  have h1 := inB_yes h.1.1
  have h2 := inB_yes h.1.2
  refine ⟨h1.1, h1.2, h2.1, h2.2, ?_⟩
  have h3 := h.2
  by_cases a : p = 0 <;> by_cases b : f = 0 <;> simp [a, b] at h3 ⊢
theorem goodP_picks {ps fs : List Int} (h : goodP ps fs = true) : allB ps 0 10000 = true :=
  allB_of fun i hi => by have := goodAt_bd (goodP_at h hi); exact inB_of this.1 this.2.1
theorem goodP_flow {ps fs : List Int} (h : goodP ps fs = true) : allB fs 0 10000000 = true :=
  allB_of fun i hi => by have := goodAt_bd (goodP_at h (i := i) (by have := goodP_len h; omega)); exact inB_of this.2.2.1 this.2.2.2.1
theorem goodP_split {ps fs : List Int} (h1 : ps.length = fs.length) (h2 : ps.length ≤ 12) (h3 : allB ps 0 10000 = true) (h4 : allB fs 0 10000000 = true) (h : ∀ i, i < ps.length → ((ps.getD i 0 == 0) == (fs.getD i 0 == 0)) = true) : goodP ps fs = true :=
  goodP_of h1 h2 fun i hi => by simp only [goodAt, Bool.and_eq_true]; exact ⟨⟨allB_get h3 hi, allB_get h4 (by omega)⟩, h i hi⟩
theorem goodP_npicks {ps fs : List Int} (h : allB ps 0 10000 = false) : goodP ps fs = false := by
  cases e : goodP ps fs
  · rfl
  · rw [goodP_picks e] at h; cases h
theorem goodP_nflow {ps fs : List Int} (h : allB fs 0 10000000 = false) : goodP ps fs = false := by
  cases e : goodP ps fs
  · rfl
  · rw [goodP_flow e] at h; cases h
theorem goodP_nzero {ps fs : List Int} {i : Nat} (hi : i < ps.length) (h : ((ps.getD i 0 == 0) == (fs.getD i 0 == 0)) = false) : goodP ps fs = false :=
  goodP_not hi (by unfold goodAt; rw [h, Bool.and_false])

theorem take_sum_succ (xs : List Int) (k : Nat) (h : k < xs.length) : (xs.take (k + 1)).sum = (xs.take k).sum + xs.getD k 0 := by
  rw [List.take_succ_eq_append_getElem h, List.sum_append, getD_lt _ _ h]; simp
theorem sum_bd {lo hi : Int} : ∀ {xs : List Int}, allB xs lo hi = true → lo * xs.length ≤ xs.sum ∧ xs.sum ≤ hi * xs.length
  | [], _ => by simp
  | x :: r, h => by
    simp only [allB, List.all_cons, Bool.and_eq_true] at h
    have ih := sum_bd (xs := r) h.2
    have hx := inB_yes h.1
    simp only [List.sum_cons, List.length_cons, Int.natCast_add, Int.natCast_one, Int.mul_add, Int.mul_one]
    omega
theorem allB_take {xs : List Int} {lo hi : Int} (h : allB xs lo hi = true) (k : Nat) : allB (xs.take k) lo hi = true :=
  List.all_eq_true.2 fun x hx => List.all_eq_true.1 h x (List.mem_of_mem_take hx)
end Go.Proofs.Ytnfcedccjfnceaa.Pf
namespace Go.Proofs.Ytnfcedccjfnceaa.Od

def waysB (us ws : List Int) : Bool := decide (us.length = ws.length) && (decide (us.length ≤ 10) && (Pf.allB us 0 1000 && Pf.allB ws 0 1000))
theorem waysB_yes {us ws : List Int} (h : waysB us ws = true) : us.length = ws.length ∧ us.length ≤ 10 ∧ Pf.allB us 0 1000 = true ∧ Pf.allB ws 0 1000 = true := by
  simpa [waysB] using h
theorem waysB_ne {us ws : List Int} (h : us.length ≠ ws.length) : waysB us ws = false := by simp [waysB, h]
theorem waysB_many {us ws : List Int} (h : 10 < us.length) : waysB us ws = false := by simp [waysB, show ¬ us.length ≤ 10 by omega]

/-- The number at i is one of 0 up to n - 1, and none ahead of it is the same. -/
def okAt (xs : List Int) (n i : Nat) : Bool := Pf.inB (xs.getD i 0) 0 ((n : Int) - 1) && !(xs.take i).contains (xs.getD i 0)
def ordB (xs : List Int) (n : Nat) : Bool := decide (xs.length = n) && (List.range n).all (okAt xs n)
theorem ordB_len {xs : List Int} {n : Nat} (h : ordB xs n = true) : xs.length = n := by
  simp only [ordB, Bool.and_eq_true, decide_eq_true_eq] at h; exact h.1
theorem ordB_at {xs : List Int} {n i : Nat} (h : ordB xs n = true) (hi : i < n) : okAt xs n i = true := by
  simp only [ordB, Bool.and_eq_true, List.all_eq_true, List.mem_range] at h; exact h.2 i hi
theorem ordB_of {xs : List Int} {n : Nat} (h1 : xs.length = n) (h : ∀ i, i < n → okAt xs n i = true) : ordB xs n = true := by
  simp only [ordB, Bool.and_eq_true, decide_eq_true_eq, List.all_eq_true, List.mem_range]; exact ⟨h1, h⟩
theorem ordB_ne {xs : List Int} {n : Nat} (h : xs.length ≠ n) : ordB xs n = false := by simp [ordB, h]
theorem ordB_not {xs : List Int} {n i : Nat} (hi : i < n) (h : okAt xs n i = false) : ordB xs n = false := by
  cases e : ordB xs n
  · rfl
  · rw [ordB_at e hi] at h; cases h
theorem ordB_in {xs : List Int} {n i : Nat} (h : ordB xs n = true) (hi : i < n) : 0 ≤ xs.getD i 0 ∧ xs.getD i 0 < n := by
  have := ordB_at h hi
  simp only [okAt, Bool.and_eq_true] at this
  have := Pf.inB_yes this.1
  omega
/-- The number at i as a natural one. -/
def nth (xs : List Int) (i : Nat) : Nat := (xs.getD i 0).toNat
theorem nth_cast {xs : List Int} {n i : Nat} (h : ordB xs n = true) (hi : i < n) : xs.getD i 0 = (nth xs i : Int) := by
  have := ordB_in h hi; unfold nth; omega
theorem nth_lt {xs : List Int} {n i : Nat} (h : ordB xs n = true) (hi : i < n) : nth xs i < n := by
  have := ordB_in h hi; unfold nth; omega

/-- Whether j is among the first k. -/
def seen (xs : List Int) (k n : Nat) : List Bool := (List.range n).map fun (j : Nat) => (xs.take k).contains (j : Int)
theorem seen_len (xs : List Int) (k n : Nat) : (seen xs k n).length = n := by simp [seen]
theorem seen_zero (xs : List Int) (n : Nat) : seen xs 0 n = List.replicate n false := by
  apply List.ext_getElem
  · simp [seen]
  · intro i h1 h2; simp [seen]
theorem seen_get (xs : List Int) (k n j : Nat) (h : j < n) : (seen xs k n).getD j false = (xs.take k).contains (j : Int) := by simp [seen, h]
theorem seen_step (xs : List Int) (k n j : Nat) (hk : k < xs.length) (h : xs.getD k 0 = (j : Int)) : (seen xs k n).set j true = seen xs (k + 1) n := by
  apply List.ext_getElem
  · simp [seen]
  · intro i h1 h2
    have hi : i < n := by simpa [seen] using h2
    have e : xs[k] = (j : Int) := by rw [Pf.getD_lt xs 0 hk] at h; exact h
    simp only [seen, List.getElem_map, List.getElem_range, List.getElem_set]
    rw [List.take_add_one]
    by_cases hij : j = i
    · subst hij; simp [hk, e]
    · have : ¬ (i : Int) = (j : Int) := by omega
      simp [hij, hk, e, this]

/-- The sum of use times way over the first k. -/
def pairTo (us ws : List Int) : Nat → Int
  | 0 => 0
  | k + 1 => pairTo us ws k + us.getD k 0 * ws.getD k 0
def pair (us ws : List Int) : Int := pairTo us ws us.length
/-- What an order costs over the first k places. -/
def costTo (us ws os : List Int) : Nat → Int
  | 0 => 0
  | k + 1 => costTo us ws os k + us.getD (nth os k) 0 * ws.getD k 0
def cost (us ws os : List Int) : Int := costTo us ws os os.length
theorem term_bd {x y : Int} (hx : 0 ≤ x ∧ x ≤ 1000) (hy : 0 ≤ y ∧ y ≤ 1000) : 0 ≤ x * y ∧ x * y ≤ 1000000 := by
  refine ⟨Int.mul_nonneg hx.1 hy.1, ?_⟩
  exact Int.le_trans (Int.mul_le_mul_of_nonneg_right hx.2 hy.1) (Int.le_trans (Int.mul_le_mul_of_nonneg_left hy.2 (show (0 : Int) ≤ 1000 by omega)) (by omega))
theorem pairTo_bd {us ws : List Int} (hu : Pf.allB us 0 1000 = true) (hw : Pf.allB ws 0 1000 = true) : ∀ k, k ≤ us.length → k ≤ ws.length → 0 ≤ pairTo us ws k ∧ pairTo us ws k ≤ 1000000 * (k : Int)
  | 0, _, _ => by simp [pairTo]
  | k + 1, h1, h2 => by
    have := pairTo_bd hu hw k (by omega) (by omega)
    have := term_bd (Pf.inB_yes (Pf.allB_get hu (show k < us.length by omega))) (Pf.inB_yes (Pf.allB_get hw (show k < ws.length by omega)))
    simp only [pairTo]; omega
theorem costTo_bd {us ws os : List Int} (hu : Pf.allB us 0 1000 = true) (hw : Pf.allB ws 0 1000 = true) (hl : us.length = ws.length) (ho : ordB os us.length = true) : ∀ k, k ≤ us.length → 0 ≤ costTo us ws os k ∧ costTo us ws os k ≤ 1000000 * (k : Int)
  | 0, _ => by simp [costTo]
  | k + 1, h1 => by
    have := costTo_bd hu hw hl ho k (by omega)
    have := term_bd (Pf.inB_yes (Pf.allB_get hu (nth_lt ho (show k < us.length by omega)))) (Pf.inB_yes (Pf.allB_get hw (show k < ws.length by omega)))
    simp only [costTo]; omega
/-- The uses as they stand in an order. -/
def placed (us os : List Int) : List Int := os.map fun o => us.getD o.toNat 0
theorem placed_len (us os : List Int) : (placed us os).length = os.length := by simp [placed]
theorem placed_get (us os : List Int) {k : Nat} (h : k < os.length) : (placed us os).getD k 0 = us.getD (nth os k) 0 := by simp [placed, nth, h]
theorem placed_pair (us ws os : List Int) : ∀ k, k ≤ os.length → pairTo (placed us os) ws k = costTo us ws os k
  | 0, _ => rfl
  | k + 1, h => by simp only [pairTo, costTo]; rw [placed_pair us ws os k (by omega), placed_get us os (by omega)]
theorem placed_cost (us ws os : List Int) : pair (placed us os) ws = cost us ws os := by
  unfold pair cost; rw [placed_len]; exact placed_pair us ws os _ (Nat.le_refl _)
theorem placed_all {us os : List Int} (hu : Pf.allB us 0 1000 = true) (ho : ordB os us.length = true) : Pf.allB (placed us os) 0 1000 = true := by
  refine Pf.allB_of fun i hi => ?_
  rw [placed_len] at hi
  have hl := ordB_len ho
  rw [placed_get us os hi]
  exact Pf.allB_get hu (nth_lt ho (by omega))
theorem placed_step (us os ys : List Int) (k : Nat) (hy : ys.length = os.length) (hk : k < os.length) (h : ys.take k = (placed us os).take k) : (ys.set k (us.getD (nth os k) 0)).take (k + 1) = (placed us os).take (k + 1) := by
  rw [List.take_add_one, List.take_add_one, List.take_set_of_le (Nat.le_refl _), h]
  congr 1
  simp [hk, hy, placed, nth]

/-- The goods of two places changed. -/
def swap (os : List Int) (a b : Nat) : List Int := (os.set a (os.getD b 0)).set b (os.getD a 0)
theorem swap_len (os : List Int) (a b : Nat) : (swap os a b).length = os.length := by simp [swap]
theorem swap_get (os : List Int) {a b i : Nat} (ha : a < os.length) (hb : b < os.length) (hi : i < os.length) : (swap os a b).getD i 0 = if i = b then os.getD a 0 else if i = a then os.getD b 0 else os.getD i 0 := by
  simp only [swap, List.getD_eq_getElem?_getD, List.getElem?_set, List.length_set]
  by_cases h1 : b = i
  · subst h1; simp [hb]
  · rw [if_neg h1, if_neg (show ¬ i = b by omega)]
    by_cases h2 : a = i
    · subst h2; simp [ha]
    · rw [if_neg h2, if_neg (show ¬ i = a by omega)]
theorem okAt_iff {xs : List Int} {n i : Nat} (hl : xs.length = n) (hi : i < n) : okAt xs n i = true ↔ (0 ≤ xs.getD i 0 ∧ xs.getD i 0 < n) ∧ ∀ j, j < i → xs.getD j 0 ≠ xs.getD i 0 := by
  simp only [okAt, Bool.and_eq_true, Bool.not_eq_true', List.contains_eq_mem, decide_eq_false_iff_not]
  constructor
  · rintro ⟨h1, h2⟩
    have := Pf.inB_yes h1
    refine ⟨by omega, fun j hj e => h2 ?_⟩
    rw [← e]
    have hj' : j < xs.length := by omega
    rw [Pf.getD_lt xs 0 hj']
    exact List.mem_take_iff_getElem.2 ⟨j, by omega, rfl⟩
  · rintro ⟨h1, h2⟩
    refine ⟨Pf.inB_of h1.1 (by omega), fun hm => ?_⟩
    obtain ⟨j, hj, e⟩ := List.mem_take_iff_getElem.1 hm
    have hj' : j < xs.length := by omega
    exact h2 j (by omega) (by rw [Pf.getD_lt xs 0 hj']; exact e)
/-- An order: its numbers are 0 up to n - 1, no two alike. -/
theorem ordB_iff {xs : List Int} {n : Nat} : ordB xs n = true ↔ xs.length = n ∧ (∀ i, i < n → 0 ≤ xs.getD i 0 ∧ xs.getD i 0 < n) ∧ ∀ i j, i < n → j < n → xs.getD i 0 = xs.getD j 0 → i = j := by
  constructor
  · intro h
    have hl := ordB_len h
    refine ⟨hl, fun i hi => ordB_in h hi, fun i j hi hj e => ?_⟩
    rcases Nat.lt_trichotomy i j with c | c | c
    · exact absurd e (((okAt_iff hl hj).1 (ordB_at h hj)).2 i c)
    · exact c
    · exact absurd e.symm (((okAt_iff hl hi).1 (ordB_at h hi)).2 j c)
  · rintro ⟨hl, h1, h2⟩
    refine ordB_of hl fun i hi => (okAt_iff hl hi).2 ⟨h1 i hi, fun j hj e => ?_⟩
    have := h2 j i (by omega) hi e
    omega
theorem swap_ord {os : List Int} {n a b : Nat} (h : ordB os n = true) (ha : a < n) (hb : b < n) : ordB (swap os a b) n = true := by
  obtain ⟨hl, h1, h2⟩ := ordB_iff.1 h
  subst hl
  refine ordB_iff.2 ⟨swap_len _ _ _, fun i hi => ?_, fun i j hi hj => ?_⟩
  · rw [swap_get os ha hb hi]; split
    · exact h1 a ha
    · split
      · exact h1 b hb
      · exact h1 i hi
  · rw [swap_get os ha hb hi, swap_get os ha hb hj]
    intro e
    by_cases i1 : i = b
    · rw [if_pos i1] at e
      by_cases j1 : j = b
      · omega
      · rw [if_neg j1] at e
        by_cases j2 : j = a
        · rw [if_pos j2] at e
          have := h2 a b ha hb e; omega
        · rw [if_neg j2] at e
          have := h2 a j ha hj e; omega
    · rw [if_neg i1] at e
      by_cases i2 : i = a
      · rw [if_pos i2] at e
        by_cases j1 : j = b
        · rw [if_pos j1] at e; have := h2 b a hb ha e; omega
        · rw [if_neg j1] at e
          by_cases j2 : j = a
          · omega
          · rw [if_neg j2] at e
            have := h2 b j hb hj e; omega
      · rw [if_neg i2] at e
        by_cases j1 : j = b
        · rw [if_pos j1] at e; have := h2 i a hi ha e; omega
        · rw [if_neg j1] at e
          by_cases j2 : j = a
          · rw [if_pos j2] at e; have := h2 i b hi hb e; omega
          · rw [if_neg j2] at e; exact h2 i j hi hj e

theorem count_set {l : List Bool} {k : Nat} (h : l.getD k true = false) : l.count false = (l.set k true).count false + 1 := by
  have hk : k < l.length := by
    by_cases hk : k < l.length
    · exact hk
    · simp [hk] at h
  have e : l[k] = false := by simpa [hk] using h
  have h1 := List.take_append_drop k l
  have h2 : l.drop k = l[k] :: l.drop (k + 1) := List.drop_eq_getElem_cons hk
  have h3 : l.set k true = l.take k ++ true :: l.drop (k + 1) := by rw [List.set_eq_take_append_cons_drop, if_pos hk]
  rw [h3]
  conv => lhs; rw [← h1, h2, e]
  simp [List.count_append]; omega
/-- From k on along the order, until one is met that was gone to. -/
def gone (xs : List Int) (l : List Bool) (k : Nat) : List Bool :=
  if _h : l.getD k true = false then gone xs (l.set k true) (nth xs k) else l
termination_by l.count false
decreasing_by
  have := count_set _h
  omega
theorem gone_stop {xs : List Int} {l : List Bool} {k : Nat} (h : l.getD k true = true) : gone xs l k = l := by
  rw [gone, dif_neg (by rw [h]; decide)]
theorem gone_step {xs : List Int} {l : List Bool} {k : Nat} (h : l.getD k true = false) : gone xs l k = gone xs (l.set k true) (nth xs k) := by
  rw [gone, dif_pos h]
/-- What was gone to, and how many rings there are, behind the first i. -/
def ringsTo (xs : List Int) (n : Nat) : Nat → List Bool × Nat
  | 0 => (List.replicate n false, 0)
  | i + 1 => let s := ringsTo xs n i; (gone xs s.1 i, if s.1.getD i true = false then s.2 + 1 else s.2)
def rings (xs : List Int) : Nat := (ringsTo xs xs.length xs.length).2
theorem gone_len (xs : List Int) : ∀ (m : Nat) (l : List Bool) (k : Nat), l.count false = m → (gone xs l k).length = l.length
  | m, l, k, hm => by
    cases h : l.getD k true
    · have := count_set h
      rw [gone_step h]
      cases m with
      | zero => omega
      | succ m => rw [gone_len xs m _ _ (by omega)]; simp
    · rw [gone_stop h]
theorem ringsTo_len (xs : List Int) (n : Nat) : ∀ i, (ringsTo xs n i).1.length = n
  | 0 => by simp [ringsTo]
  | i + 1 => by simp only [ringsTo]; rw [gone_len xs _ _ _ rfl, ringsTo_len xs n i]
theorem ringsTo_le (xs : List Int) (n : Nat) : ∀ i, (ringsTo xs n i).2 ≤ i
  | 0 => by simp [ringsTo]
  | i + 1 => by have := ringsTo_le xs n i; simp only [ringsTo]; split <;> omega
end Go.Proofs.Ytnfcedccjfnceaa.Od
namespace Go.Proofs.Ytnfcedccjfnceaa.Rt

def spotB (s : Int × Int) : Bool := Pf.inB s.1 0 9 && Pf.inB s.2 0 20
def allS (L : List (Int × Int)) : Bool := (List.range L.length).all fun i => spotB (L.getD i (0, 0))
def stopsB (L : List (Int × Int)) : Bool := Pf.inB (L.length : Int) 1 7 && allS L
theorem allS_at {L : List (Int × Int)} (h : allS L = true) {i : Nat} (hi : i < L.length) : spotB (L.getD i (0, 0)) = true := by
  simp only [allS, List.all_eq_true, List.mem_range] at h; exact h i hi
theorem allS_of {L : List (Int × Int)} (h : ∀ i, i < L.length → spotB (L.getD i (0, 0)) = true) : allS L = true := by
  simp only [allS, List.all_eq_true, List.mem_range]; exact h
theorem allS_not {L : List (Int × Int)} {i : Nat} (hi : i < L.length) (h : spotB (L.getD i (0, 0)) = false) : allS L = false := by
  cases e : allS L
  · rfl
  · rw [allS_at e hi] at h; cases h
theorem spot_yes {s : Int × Int} (h : spotB s = true) : (0 ≤ s.1 ∧ s.1 ≤ 9) ∧ 0 ≤ s.2 ∧ s.2 ≤ 20 := by
  simp only [spotB, Bool.and_eq_true] at h
  exact ⟨Pf.inB_yes h.1, Pf.inB_yes h.2⟩
theorem stops_len {L : List (Int × Int)} (h : stopsB L = true) : 1 ≤ L.length ∧ L.length ≤ 7 := by
  simp only [stopsB, Bool.and_eq_true] at h
  have := Pf.inB_yes h.1
  omega
theorem stops_all {L : List (Int × Int)} (h : stopsB L = true) : allS L = true := by
  simp only [stopsB, Bool.and_eq_true] at h; exact h.2
theorem stops_no {L : List (Int × Int)} (h : ¬ (1 ≤ L.length ∧ L.length ≤ 7)) : stopsB L = false := by
  cases e : stopsB L
  · rfl
  · exact absurd (stops_len e) h
/-- From one spot to another one. -/
def way (s t : Int × Int) : Int := if s.1 = t.1 then ((s.2 - t.2).natAbs : Int) else 3 * ((s.1 - t.1).natAbs : Int) + min (s.2 + t.2) (40 - (s.2 + t.2))
theorem way_bd {s t : Int × Int} (hs : spotB s = true) (ht : spotB t = true) : 0 ≤ way s t ∧ way s t ≤ 100 := by
  have h1 := spot_yes hs
  have h2 := spot_yes ht
  unfold way
  split <;> omega
/-- From stop to stop by their numbers. -/
def wy (L : List (Int × Int)) (i j : Nat) : Int := way (L.getD i (0, 0)) (L.getD j (0, 0))
theorem wy_bd {L : List (Int × Int)} (h : allS L = true) {i j : Nat} (hi : i < L.length) (hj : j < L.length) : 0 ≤ wy L i j ∧ wy L i j ≤ 100 := way_bd (allS_at h hi) (allS_at h hj)
/-- The ways between the first of an order, one after the other. -/
def path (L : List (Int × Int)) (os : List Int) : Nat → Int
  | 0 => 0
  | k + 1 => path L os k + wy L (Od.nth os k) (Od.nth os (k + 1))
/-- The round. -/
def tour (L : List (Int × Int)) (os : List Int) : Int := path L os (os.length - 1) + wy L (Od.nth os (os.length - 1)) (Od.nth os 0)
def InB (L : List (Int × Int)) (os : List Int) : Prop := ∀ i, i < os.length → ∃ k : Nat, os.getD i 0 = (k : Int) ∧ k < L.length
theorem InB.nth {L : List (Int × Int)} {os : List Int} (h : InB L os) {i : Nat} (hi : i < os.length) : Od.nth os i < L.length ∧ os.getD i 0 = ((Od.nth os i : Nat) : Int) := by
  obtain ⟨k, e, hk⟩ := h i hi
  have : Od.nth os i = k := by unfold Od.nth; rw [e]; simp
  rw [this]; exact ⟨hk, e⟩
theorem path_bd {L : List (Int × Int)} {os : List Int} (h : allS L = true) (ho : InB L os) : ∀ k, k + 1 ≤ os.length → 0 ≤ path L os k ∧ path L os k ≤ 100 * (k : Int)
  | 0, _ => by simp [path]
  | k + 1, hk => by
    have h1 := path_bd h ho k (by omega)
    have h2 := wy_bd h (ho.nth (show k < os.length by omega)).1 (ho.nth (show k + 1 < os.length by omega)).1
    simp only [path]; omega
theorem tour_bd {L : List (Int × Int)} {os : List Int} (h : allS L = true) (ho : InB L os) (hn : 1 ≤ os.length) : 0 ≤ tour L os ∧ tour L os ≤ 100 * (os.length : Int) := by
  have h1 := path_bd h ho (os.length - 1) (by omega)
  have h2 := wy_bd h (ho.nth (show os.length - 1 < os.length by omega)).1 (ho.nth (show 0 < os.length by omega)).1
  unfold tour; omega
/-- As the program adds: the last way first. -/
def addI (L : List (Int × Int)) (os : List Int) : Nat → Int
  | 0 => 0
  | k + 1 => wy L (Od.nth os (os.length - 1)) (Od.nth os 0) + path L os k
theorem addI_step {L : List (Int × Int)} {os : List Int} {k : Nat} : addI L os (k + 1) = addI L os k + wy L (if k = 0 then Od.nth os (os.length - 1) else Od.nth os (k - 1)) (Od.nth os k) := by
  cases k with
  | zero => simp [addI, path]
  | succ j => simp only [addI, path, Nat.succ_ne_zero, if_false, Nat.add_sub_cancel]; omega
theorem addI_end {L : List (Int × Int)} {os : List Int} {n : Nat} (hn : os.length = n) (h1 : 1 ≤ n) : addI L os n = tour L os := by
  obtain ⟨k, rfl⟩ : ∃ k, n = k + 1 := ⟨n - 1, by omega⟩
  unfold tour
  rw [hn]
  simp only [addI, Nat.add_sub_cancel, hn]; omega
/-- As the model adds: each with the next one, the last one with the first one. -/
def addM (L : List (Int × Int)) (os : List Int) (n : Nat) : Nat → Int
  | 0 => 0
  | k + 1 => addM L os n k + wy L (Od.nth os k) (Od.nth os ((k + 1) % n))
theorem addM_path {L : List (Int × Int)} {os : List Int} {n : Nat} : ∀ k, k < n → addM L os n k = path L os k
  | 0, _ => rfl
  | k + 1, hk => by
    have ih := addM_path (L := L) (os := os) (n := n) k (by omega)
    simp only [addM, path, ih, Nat.mod_eq_of_lt hk]
theorem addM_end {L : List (Int × Int)} {os : List Int} {n : Nat} (hn : os.length = n) (h1 : 1 ≤ n) : addM L os n n = tour L os := by
  obtain ⟨k, rfl⟩ : ∃ k, n = k + 1 := ⟨n - 1, by omega⟩
  unfold tour
  rw [hn]
  have ih := addM_path (L := L) (os := os) (n := k + 1) k (by omega)
  simp only [addM, ih, Nat.mod_self, Nat.add_sub_cancel]
theorem addI_bd {L : List (Int × Int)} {os : List Int} (h : allS L = true) (ho : InB L os) {k : Nat} (hk : k ≤ os.length) : 0 ≤ addI L os k ∧ addI L os k ≤ 100 * (k : Int) := by
  cases k with
  | zero => simp [addI]
  | succ j =>
    have h1 := path_bd h ho j hk
    have h2 := wy_bd h (ho.nth (show os.length - 1 < os.length by omega)).1 (ho.nth (show 0 < os.length by omega)).1
    simp only [addI]; omega
theorem addM_bd {L : List (Int × Int)} {os : List Int} {n : Nat} (h : allS L = true) (ho : InB L os) (hn : os.length = n) : ∀ k, k ≤ n → 0 ≤ addM L os n k ∧ addM L os n k ≤ 100 * (k : Int)
  | 0, _ => by simp [addM]
  | k + 1, hk => by
    have h1 := addM_bd h ho hn k (by omega)
    have h2 := wy_bd h (ho.nth (show k < os.length by omega)).1 (ho.nth (show (k + 1) % n < os.length by rw [hn]; exact Nat.mod_lt _ (by omega))).1
    simp only [addM]; omega
theorem ord_in {L : List (Int × Int)} {os : List Int} (h : Od.ordB os L.length = true) : InB L os := fun i hi => by
  have hl := Od.ordB_len h
  exact ⟨Od.nth os i, Od.nth_cast h (by omega), Od.nth_lt h (by omega)⟩
def tcB (L : List (Int × Int)) (os : List Int) : Bool := stopsB L && Od.ordB os L.length
def tcI (L : List (Int × Int)) (os : List Int) : Int := if tcB L os then tour L os else 0
end Go.Proofs.Ytnfcedccjfnceaa.Rt
namespace Go.Proofs.Ytnfcedccjfnceaa.Rt

/-- The first nearest of two. -/
def comb {α : Type} (f : α → Int) : Option α → Option α → Option α
  | none, y => y
  | some x, none => some x
  | some x, some y => if f y < f x then some y else some x
theorem comb_none {α : Type} (f : α → Int) (b : Option α) : comb f b none = b := by cases b <;> rfl
theorem comb_assoc {α : Type} (f : α → Int) (a b c : Option α) : comb f (comb f a b) c = comb f a (comb f b c) := by
  cases a with
  | none => rfl
  | some x =>
    cases b with
    | none => rfl
    | some y =>
      cases c with
      | none => rw [comb_none, comb_none]
      | some z =>
        simp only [comb]
        by_cases h1 : f y < f x
        · by_cases h2 : f z < f y
          · simp [h1, h2, show f z < f x by omega]
          · simp [h1, h2]
        · by_cases h2 : f z < f y
          · simp [h1, h2]
          · by_cases h3 : f z < f x
            · omega
            · simp [h1, h2, h3]
def fb {α : Type} (f : α → Int) (b : Option α) (l : List α) : Option α := l.foldl (fun b x => comb f b (some x)) b
theorem fb_append {α : Type} (f : α → Int) (b : Option α) (l m : List α) : fb f b (l ++ m) = fb f (fb f b l) m := List.foldl_append ..
theorem fb_one {α : Type} (f : α → Int) (b : Option α) (x : α) : fb f b [x] = comb f b (some x) := rfl
theorem fb_comb {α : Type} (f : α → Int) : ∀ (l : List α) (b : Option α), fb f b l = comb f b (fb f none l)
  | [], b => (comb_none f b).symm
  | x :: l, b => by
    show fb f (comb f b (some x)) l = comb f b (fb f (comb f none (some x)) l)
    rw [fb_comb f l (comb f b (some x)), fb_comb f l (comb f none (some x)), comb_assoc]
    rfl
theorem fb_map {α β : Type} (f : β → Int) (g : α → β) : ∀ (l : List α) (b : Option α), fb f (b.map g) (l.map g) = (fb (fun x => f (g x)) b l).map g
  | [], b => rfl
  | x :: l, b => by
    have e : comb f (b.map g) (some (g x)) = (comb (fun x => f (g x)) b (some x)).map g := by
      cases b with
      | none => rfl
      | some y => simp only [Option.map_some, comb]; split <;> rfl
    show fb f (comb f (b.map g) (some (g x))) (l.map g) = _
    rw [e, fb_map f g l]
    rfl
theorem fb_some {α : Type} (f : α → Int) : ∀ (l : List α) (b : Option α), (b ≠ none ∨ l ≠ []) → ∃ x, fb f b l = some x ∧ (b = some x ∨ x ∈ l)
  | [], b, h => by
    rcases h with h | h
    · obtain ⟨x, hx⟩ := Option.ne_none_iff_exists'.1 h
      exact ⟨x, hx, Or.inl hx⟩
    · exact absurd rfl h
  | x :: l, b, _ => by
    obtain ⟨y, hy, hm⟩ := fb_some f l (comb f b (some x)) (Or.inl (by cases b with | none => simp [comb] | some z => simp only [comb]; split <;> simp))
    refine ⟨y, hy, ?_⟩
    rcases hm with hm | hm
    · cases b with
      | none => simp only [comb, Option.some.injEq] at hm; right; simp [hm]
      | some z =>
        simp only [comb] at hm
        split at hm
        · right; simp only [Option.some.injEq] at hm; simp [hm]
        · left; exact hm
    · right; simp [hm]
/-- The place of the first nearest among the first k. -/
def bi {α : Type} (f : α → Int) (d : α) (P : List α) : Nat → Nat
  | 0 => 0
  | k + 1 => if f (P.getD k d) < f (P.getD (bi f d P k) d) then k else bi f d P k
theorem bi_lt {α : Type} {f : α → Int} {d : α} {P : List α} : ∀ k, 0 < k → bi f d P k < k
  | 0, h => by omega
  | k + 1, _ => by
    simp only [bi]
    split
    · omega
    · by_cases h0 : k = 0
      · subst h0; simp [bi]
      · have := bi_lt (f := f) (d := d) (P := P) k (by omega)
        omega
theorem bi_fb {α : Type} {f : α → Int} {d : α} {P : List α} : ∀ k, k < P.length → fb f none (P.take (k + 1)) = some (P.getD (bi f d P (k + 1)) d)
  | 0, h => by
    have e : P.take 1 = [P.getD 0 d] := by
      cases P with
      | nil => simp at h
      | cons a r => simp
    rw [e]
    simp [fb, comb, bi]
  | k + 1, h => by
    have e : P.take (k + 1 + 1) = P.take (k + 1) ++ [P.getD (k + 1) d] := by
      rw [List.take_add_one, List.getElem?_eq_getElem h]
      simp [List.getD_eq_getElem?_getD, List.getElem?_eq_getElem h]
    rw [e, fb_append, bi_fb k (by omega), fb_one]
    show (if f (P.getD (k + 1) d) < f (P.getD (bi f d P (k + 1)) d) then _ else _) = _
    rw [show bi f d P (k + 1 + 1) = if f (P.getD (k + 1) d) < f (P.getD (bi f d P (k + 1)) d) then k + 1 else bi f d P (k + 1) from rfl]
    split <;> rfl
theorem bi_all {α : Type} {f : α → Int} {d : α} {P : List α} {n : Nat} (hn : P.length = n) (h : 0 < n) : fb f none P = some (P.getD (bi f d P n) d) := by
  obtain ⟨k, rfl⟩ : ∃ k, n = k + 1 := ⟨n - 1, by omega⟩
  have := bi_fb (f := f) (d := d) (P := P) k (by omega)
  rwa [List.take_of_length_le (by omega)] at this

/-- The joined ones, in order, below i. -/
def ins (I : List Nat) (i : Nat) : List Nat := (List.range i).filter fun x => I.contains x
theorem ins_succ (I : List Nat) (i : Nat) : ins I (i + 1) = if I.contains i then ins I i ++ [i] else ins I i := by
  unfold ins
  rw [List.range_succ, List.filter_append]
  by_cases h : I.contains i = true
  · rw [if_pos h]; simp only [List.filter_cons, h, if_true, List.filter_nil]
  · rw [if_neg h]; simp only [List.filter_cons, h, Bool.false_eq_true, if_false, List.filter_nil, List.append_nil]
def rowTo (I : List Nat) (k i : Nat) : List (Nat × Nat) := (ins I i).map fun x => (k, x)
def wp (L : List (Int × Int)) (p : Nat × Nat) : Int := wy L p.1 p.2
/-- The nearest joined one, below i. -/
def nearTo (L : List (Int × Int)) (I : List Nat) (k i : Nat) : Option Nat := fb (wy L k) none (ins I i)
def outs (I : List Nat) (k : Nat) : List Nat := (List.range k).filter fun x => !I.contains x
theorem outs_succ (I : List Nat) (k : Nat) : outs I (k + 1) = if I.contains k then outs I k else outs I k ++ [k] := by
  unfold outs
  rw [List.range_succ, List.filter_append]
  by_cases h : I.contains k = true
  · rw [if_pos h]; simp only [List.filter_cons, h, Bool.not_true, Bool.false_eq_true, if_false, List.filter_nil, List.append_nil]
  · rw [if_neg h]
    have h' : I.contains k = false := by simpa using h
    simp only [List.filter_cons, h', Bool.not_false, if_true, List.filter_nil]
/-- The joints of those below k that are not joined, each with all that are. -/
def pairs (I : List Nat) (n k : Nat) : List (Nat × Nat) := (outs I k).flatMap fun x => rowTo I x n
theorem pairs_succ (I : List Nat) (n k : Nat) : pairs I n (k + 1) = if I.contains k then pairs I n k else pairs I n k ++ rowTo I k n := by
  unfold pairs
  rw [outs_succ]
  split
  · rfl
  · simp
/-- The best joint of those below k. -/
def bestTo (L : List (Int × Int)) (I : List Nat) (n k : Nat) : Option (Nat × Nat) := fb (wp L) none (pairs I n k)
theorem row_best (L : List (Int × Int)) (I : List Nat) (k i : Nat) : fb (wp L) none (rowTo I k i) = (nearTo L I k i).map fun x => (k, x) := by
  have := fb_map (wp L) (fun x => (k, x)) (ins I i) none
  exact this
theorem best_succ (L : List (Int × Int)) (I : List Nat) (n k : Nat) : bestTo L I n (k + 1) = if I.contains k then bestTo L I n k else comb (wp L) (bestTo L I n k) ((nearTo L I k n).map fun x => (k, x)) := by
  unfold bestTo
  rw [pairs_succ]
  split
  · rfl
  · rw [fb_append, fb_comb, row_best]
theorem near_succ (L : List (Int × Int)) (I : List Nat) (k i : Nat) : nearTo L I k (i + 1) = if I.contains i then comb (wy L k) (nearTo L I k i) (some i) else nearTo L I k i := by
  unfold nearTo
  rw [ins_succ]
  split
  · rw [fb_append, fb_one]
  · rfl
/-- What is joined: some, 0 among them, no two alike. -/
structure Jn (n : Nat) (I : List Nat) : Prop where
  nd : I.Nodup
  lt : ∀ x ∈ I, x < n
  z : 0 ∈ I
theorem Jn.pos {n : Nat} {I : List Nat} (h : Jn n I) : 0 < n := h.lt 0 h.z
theorem Jn.len {n : Nat} {I : List Nat} (h : Jn n I) : I.length ≤ n := by
  have := h.nd.length_le_of_subset (l₂ := List.range n) (fun x hx => List.mem_range.2 (h.lt x hx))
  rwa [List.length_range] at this
theorem ins_ne {n : Nat} {I : List Nat} (h : Jn n I) : ins I n ≠ [] := by
  have : 0 ∈ ins I n := List.mem_filter.2 ⟨List.mem_range.2 h.pos, by simpa using h.z⟩
  intro e; rw [e] at this; cases this
theorem near_is {n : Nat} {I : List Nat} (L : List (Int × Int)) (h : Jn n I) (k : Nat) : ∃ i, nearTo L I k n = some i ∧ i < n ∧ i ∈ I := by
  obtain ⟨i, hi, hm⟩ := fb_some (wy L k) (ins I n) none (Or.inr (ins_ne h))
  rcases hm with hm | hm
  · cases hm
  · have := List.mem_filter.1 hm
    exact ⟨i, hi, List.mem_range.1 this.1, by simpa using this.2⟩
theorem near_to {I : List Nat} {L : List (Int × Int)} {k j i : Nat} (h : nearTo L I k j = some i) : i < j ∧ i ∈ I := by
  by_cases h0 : ins I j = []
  · unfold nearTo at h; rw [h0] at h; cases h
  · obtain ⟨x, hx, hm⟩ := fb_some (wy L k) (ins I j) none (Or.inr h0)
    have e : x = i := by unfold nearTo at h; rw [h] at hx; cases hx; rfl
    subst e
    rcases hm with hm | hm
    · cases hm
    · have := List.mem_filter.1 hm
      exact ⟨List.mem_range.1 this.1, by simpa using this.2⟩
theorem mem_pairs {I : List Nat} {n k : Nat} {p : Nat × Nat} (h : p ∈ pairs I n k) : p.1 < k ∧ ¬ p.1 ∈ I ∧ p.2 < n ∧ p.2 ∈ I := by
  unfold pairs at h
  obtain ⟨x, hx, hp⟩ := List.mem_flatMap.1 h
  obtain ⟨y, hy, rfl⟩ := List.mem_map.1 hp
  have h1 := List.mem_filter.1 hx
  have h2 := List.mem_filter.1 hy
  refine ⟨List.mem_range.1 h1.1, by simpa using h1.2, List.mem_range.1 h2.1, by simpa using h2.2⟩
theorem best_is {I : List Nat} {L : List (Int × Int)} {n k : Nat} {p : Nat × Nat} (h : bestTo L I n k = some p) : p.1 < k ∧ ¬ p.1 ∈ I ∧ p.2 < n ∧ p.2 ∈ I := by
  by_cases h0 : pairs I n k = []
  · unfold bestTo at h; rw [h0] at h; cases h
  · obtain ⟨x, hx, hm⟩ := fb_some (wp L) (pairs I n k) none (Or.inr h0)
    have e : x = p := by unfold bestTo at h; rw [h] at hx; cases hx; rfl
    subst e
    rcases hm with hm | hm
    · cases hm
    · exact mem_pairs hm
/-- Where some are not joined, one is next. -/
theorem pairs_ne {n : Nat} {I : List Nat} (h : Jn n I) (hl : I.length < n) : pairs I n n ≠ [] := by
  have : ∃ k, k < n ∧ ¬ k ∈ I := Classical.byContradiction fun hno => by
    have := (List.nodup_range (n := n)).length_le_of_subset (l₂ := I) (fun x hx => Classical.byContradiction fun hm => hno ⟨x, List.mem_range.1 hx, hm⟩)
    rw [List.length_range] at this; omega
  obtain ⟨k, hk, hm⟩ := this
  have h0 : 0 ∈ ins I n := List.mem_filter.2 ⟨List.mem_range.2 h.pos, by simpa using h.z⟩
  have : (k, 0) ∈ pairs I n n := List.mem_flatMap.2 ⟨k, List.mem_filter.2 ⟨List.mem_range.2 hk, by simpa using hm⟩, List.mem_map.2 ⟨0, h0, rfl⟩⟩
  intro e; rw [e] at this; cases this
theorem best_some {n : Nat} {I : List Nat} (L : List (Int × Int)) (h : Jn n I) (hl : I.length < n) : ∃ k i, bestTo L I n n = some (k, i) ∧ k < n ∧ ¬ k ∈ I ∧ i < n ∧ i ∈ I := by
  obtain ⟨p, hp, _⟩ := fb_some (wp L) (pairs I n n) none (Or.inr (pairs_ne h hl))
  have := best_is (L := L) (n := n) (k := n) hp
  exact ⟨p.1, p.2, hp, this.1, this.2.1, this.2.2.1, this.2.2.2⟩
theorem Jn.add {n : Nat} {I : List Nat} (h : Jn n I) {k : Nat} (hk : k < n) (hm : ¬ k ∈ I) : Jn n (I ++ [k]) :=
  ⟨by rw [List.nodup_append]; exact ⟨h.nd, by simp, fun a ha b hb e => by simp at hb; subst hb; subst e; exact hm ha⟩, fun x hx => by
    rcases List.mem_append.1 hx with hx | hx
    · exact h.lt x hx
    · simp at hx; omega, List.mem_append.2 (Or.inl h.z)⟩
theorem Jn.full {n : Nat} {I : List Nat} (h : Jn n I) (hl : I.length = n) {k : Nat} (hk : k < n) : k ∈ I := Classical.byContradiction fun hm => by
  have := (h.add hk hm).len
  simp at this; omega
/-- The tree after m joints: what is joined, by which, and the sum. -/
def tree (L : List (Int × Int)) : Nat → List Nat × List Int × Int
  | 0 => ([0], List.replicate L.length (-1), 0)
  | m + 1 =>
    let t := tree L m
    match bestTo L t.1 L.length L.length with
    | some (k, i) => (t.1 ++ [k], t.2.1.set k (i : Int), t.2.2 + wy L k i)
    | none => t
theorem tree_jn {L : List (Int × Int)} {n : Nat} (hn : L.length = n) (h1 : 1 ≤ n) : ∀ m, m < n → Jn n (tree L m).1 ∧ (tree L m).1.length = m + 1 ∧ (tree L m).2.1.length = n
  | 0, _ => ⟨⟨by simp [tree], fun x hx => by simp [tree] at hx; omega, by simp [tree]⟩, by simp [tree], by simp [tree, hn]⟩
  | m + 1, hm => by
    obtain ⟨j1, j2, j3⟩ := tree_jn hn h1 m (by omega)
    obtain ⟨k, i, hb, hk, hki, _⟩ := best_some L j1 (by omega)
    simp only [tree, hn, hb]
    exact ⟨j1.add hk hki, by simp [j2], by simpa using j3⟩
theorem tree_step {L : List (Int × Int)} {n m k i : Nat} {I : List Nat} {up : List Int} {s : Int} (hn : L.length = n) (ht : tree L m = (I, up, s)) (hb : bestTo L I n n = some (k, i)) : tree L (m + 1) = (I ++ [k], up.set k (i : Int), s + wy L k i) := by
  simp only [tree, hn, ht, hb]
def toL (L : List (Int × Int)) : List Int := if stopsB L then (tree L (L.length - 1)).2.1 else []
def toI (L : List (Int × Int)) : Int := if stopsB L then (tree L (L.length - 1)).2.2 else 0
theorem tree_bd {L : List (Int × Int)} {n : Nat} (hn : L.length = n) (h1 : 1 ≤ n) (ha : allS L = true) : ∀ m, m < n → 0 ≤ (tree L m).2.2 ∧ (tree L m).2.2 ≤ 100 * (m : Int)
  | 0, _ => by simp [tree]
  | m + 1, hm => by
    obtain ⟨j1, j2, j3⟩ := tree_jn hn h1 m (by omega)
    obtain ⟨k, i, hb, hk, hki, hi, hii⟩ := best_some L j1 (by omega)
    have ih := tree_bd hn h1 ha m (by omega)
    have hw := wy_bd ha (i := k) (j := i) (by omega) (by omega)
    simp only [tree, hn, hb]
    omega
end Go.Proofs.Ytnfcedccjfnceaa.Rt
namespace Go.Proofs.Ytnfcedccjfnceaa.Rt

theorem way_turn (s t : Int × Int) : way s t = way t s := by
  unfold way
  by_cases h : s.1 = t.1
  · rw [if_pos h, if_pos h.symm]; omega
  · rw [if_neg h, if_neg (fun e => h e.symm)]
    omega
theorem way_zero {s t : Int × Int} (hs : spotB s = true) (ht : spotB t = true) : way s t = 0 ↔ s = t := by
  have h1 := spot_yes hs
  have h2 := spot_yes ht
  obtain ⟨x, y⟩ := s
  obtain ⟨u, v⟩ := t
  simp only at h1 h2
  unfold way
  simp only [Prod.mk.injEq]
  split <;> omega
theorem way_third {s t u : Int × Int} (hs : spotB s = true) (ht : spotB t = true) (hu : spotB u = true) : way s u ≤ way s t + way t u := by
  have h1 := spot_yes hs
  have h2 := spot_yes ht
  have h3 := spot_yes hu
  obtain ⟨x, y⟩ := s
  obtain ⟨p, q⟩ := t
  obtain ⟨r, z⟩ := u
  simp only at h1 h2 h3
  unfold way
  simp only
  split <;> split <;> split <;> omega
theorem way_self (s : Int × Int) : way s s = 0 := by simp [way]
theorem fb_least {α : Type} (f : α → Int) : ∀ (l : List α) (b : Option α) {x : α}, fb f b l = some x → (∀ y ∈ l, f x ≤ f y) ∧ ∀ z, b = some z → f x ≤ f z
  | [], b, x, h => by
    refine ⟨fun y hy => absurd hy (by simp), fun z hz => ?_⟩
    have : b = some x := h
    rw [this] at hz; cases hz; exact Int.le_refl _
  | y :: l, b, x, h => by
    obtain ⟨h1, h2⟩ := fb_least f l (comb f b (some y)) h
    have h3 : f x ≤ f y ∧ ∀ z, b = some z → f x ≤ f z := by
      cases b with
      | none => exact ⟨h2 y rfl, fun z hz => by cases hz⟩
      | some z =>
        by_cases hlt : f y < f z
        · have := h2 y (by simp [comb, hlt])
          exact ⟨this, fun z' hz => by cases hz; omega⟩
        · have := h2 z (by simp [comb, hlt])
          exact ⟨by omega, fun z' hz => by cases hz; omega⟩
    refine ⟨fun a ha => ?_, h3.2⟩
    rcases List.mem_cons.1 ha with rfl | ha
    · exact h3.1
    · exact h1 a ha
/-- The next joint is the nearest. -/
theorem best_least {I : List Nat} {L : List (Int × Int)} {n k i : Nat} (h : bestTo L I n n = some (k, i)) {a b : Nat} (ha : a < n) (ha' : ¬ a ∈ I) (hb : b < n) (hb' : b ∈ I) : wy L k i ≤ wy L a b := by
  have := (fb_least (wp L) (pairs I n n) none h).1 (a, b) (List.mem_flatMap.2 ⟨a, List.mem_filter.2 ⟨List.mem_range.2 ha, by simpa using ha'⟩, List.mem_map.2 ⟨b, List.mem_filter.2 ⟨List.mem_range.2 hb, by simpa using hb'⟩, rfl⟩⟩)
  exact this
/-- The ways from one stop to some. -/
def starL (L : List (Int × Int)) (c : Nat) (I : List Nat) : Int := (I.map fun y => wy L c y).sum
theorem starL_snoc (L : List (Int × Int)) (c : Nat) (I : List Nat) (x : Nat) : starL L c (I ++ [x]) = starL L c I + wy L c x := by simp [starL]
theorem last_form : ∀ (I : List Nat), I ≠ [] → ∃ J x, I = J ++ [x]
  | [], h => absurd rfl h
  | [a], _ => ⟨[], a, rfl⟩
  | a :: b :: r, _ => by
    obtain ⟨J, x, e⟩ := last_form (b :: r) (by simp)
    exact ⟨a :: J, x, by rw [e]; rfl⟩
/-- As long as the middle of the star is not joined, the last that was joined is still to be paid. -/
theorem tree_star {L : List (Int × Int)} {n c : Nat} (hn : L.length = n) (h1 : 1 ≤ n) (hc : c < n) (ha : allS L = true) : ∀ m, m < n →
    (c ∈ (tree L m).1 → (tree L m).2.2 ≤ starL L c (tree L m).1) ∧ (¬ c ∈ (tree L m).1 → ∀ J x, (tree L m).1 = J ++ [x] → (tree L m).2.2 ≤ starL L c J)
  | 0, _ => by
    refine ⟨fun hm => ?_, fun hm J x e => ?_⟩
    · simp only [tree, starL, List.map_cons, List.map_nil, List.sum_cons, List.sum_nil]
      have := (wy_bd ha (i := c) (j := 0) (by omega) (by omega)).1
      omega
    · have : J = [] := by
        have e' : [0] = J ++ [x] := e
        have := congrArg List.length e'
        simp at this
        exact this
      subst this
      simp [tree, starL]
  | m + 1, hm => by
    obtain ⟨j1, j2, j3⟩ := tree_jn hn h1 m (by omega)
    obtain ⟨ih1, ih2⟩ := tree_star hn h1 hc ha m (by omega)
    obtain ⟨k, i, hb, hk, hki, hi, hii⟩ := best_some L j1 (by omega)
    have e := tree_step (m := m) (I := (tree L m).1) (up := (tree L m).2.1) (s := (tree L m).2.2) hn rfl hb
    rw [e]
    simp only
    by_cases hcI : c ∈ (tree L m).1
    · refine ⟨fun _ => ?_, fun h => absurd (List.mem_append.2 (Or.inl hcI)) h⟩
      rw [starL_snoc]
      have h2 := best_least hb hk hki hc hcI
      have h3 : wy L k c = wy L c k := way_turn _ _
      have := ih1 hcI
      omega
    · obtain ⟨J, x, eJ⟩ := last_form (tree L m).1 (fun h => by rw [h] at j2; simp at j2)
      have h0 := ih2 hcI J x eJ
      have hx : x ∈ (tree L m).1 := by rw [eJ]; simp
      have h2 := best_least hb hc hcI (j1.lt x hx) hx
      have h4 : (tree L m).2.2 + wy L k i ≤ starL L c (tree L m).1 := by rw [eJ, starL_snoc]; omega
      refine ⟨fun hm' => ?_, fun hm' J' x' e' => ?_⟩
      · rw [starL_snoc]
        have := (wy_bd ha (i := c) (j := k) (by omega) (by omega)).1
        omega
      · have : J' = (tree L m).1 := (List.append_inj_left' e' rfl).symm
        rw [this]; exact h4
/-- The star, added up. -/
def star (L : List (Int × Int)) (c : Nat) : Nat → Int
  | 0 => 0
  | i + 1 => star L c i + wy L c i
theorem star_range (L : List (Int × Int)) (c : Nat) : ∀ n, star L c n = starL L c (List.range n)
  | 0 => rfl
  | n + 1 => by rw [List.range_succ, starL_snoc, ← star_range L c n]; rfl
theorem star_bd {L : List (Int × Int)} {c : Nat} (ha : allS L = true) (hc : c < L.length) : ∀ i, i ≤ L.length → 0 ≤ star L c i ∧ star L c i ≤ 100 * (i : Int)
  | 0, _ => by simp [star]
  | i + 1, hi => by
    have ih := star_bd ha hc i (by omega)
    have := wy_bd ha hc (show i < L.length by omega)
    simp only [star]; omega
theorem tree_le {L : List (Int × Int)} {n c : Nat} (hn : L.length = n) (h1 : 1 ≤ n) (hc : c < n) (ha : allS L = true) : (tree L (n - 1)).2.2 ≤ star L c n := by
  obtain ⟨j1, j2, _⟩ := tree_jn hn h1 (n - 1) (by omega)
  have h := (tree_star hn h1 hc ha (n - 1) (by omega)).1 (j1.full (by omega) hc)
  have p : (tree L (n - 1)).1.Perm (List.range n) := (List.perm_ext_iff_of_nodup j1.nd List.nodup_range).2 fun x => ⟨fun hx => List.mem_range.2 (j1.lt x hx), fun hx => j1.full (by omega) (List.mem_range.1 hx)⟩
  have e : starL L c (tree L (n - 1)).1 = starL L c (List.range n) := by
    unfold starL
    generalize (tree L (n - 1)).1 = A at p
    generalize List.range n = B at p
    clear h
    induction p with
    | nil => rfl
    | cons x _ ih => simp only [List.map_cons, List.sum_cons, ih]
    | swap x y l => simp only [List.map_cons, List.sum_cons]; omega
    | trans _ _ ih1 ih2 => exact ih1.trans ih2
  rw [star_range, ← e]; exact h
/-- What the ways up from the first ones are long. -/
def ups (L : List (Int × Int)) (up : List Int) : Nat → Int
  | 0 => 0
  | i + 1 => ups L up i + (if up.getD i 0 = -1 then 0 else wy L (up.getD i 0).toNat i)
theorem ups_set (L : List (Int × Int)) (up : List Int) (k i n : Nat) (hn : up.length = n) (hk : k < n) (h : up.getD k 0 = -1) : ∀ j, ups L (up.set k (i : Int)) j = ups L up j + if k < j then wy L i k else 0
  | 0 => by simp [ups]
  | j + 1 => by
    have ih := ups_set L up k i n hn hk h j
    simp only [ups, ih]
    by_cases e : j = k
    · subst e
      have e1 : (up.set j (i : Int)).getD j 0 = (i : Int) := by simp [hn, hk]
      rw [e1, h]
      have : ¬ ((i : Int) = -1) := by omega
      simp [this]
    · have e1 : (up.set k (i : Int)).getD j 0 = up.getD j 0 := by
        simp only [List.getD_eq_getElem?_getD]; rw [List.getElem?_set_ne (Ne.symm e)]
      rw [e1]
      have : (k < j + 1) = (k < j) := by rw [eq_iff_iff]; omega
      simp only [this]
      omega
/-- Who is up of whom. -/
structure Ups (L : List (Int × Int)) (n : Nat) (I : List Nat) (up : List Int) (s : Int) : Prop where
  len : up.length = n
  zero : up.getD 0 0 = -1
  out : ∀ x, x < n → ¬ x ∈ I → up.getD x 0 = -1
  inn : ∀ x, x < n → x ∈ I → x ≠ 0 → ∃ j : Nat, up.getD x 0 = (j : Int) ∧ j < n
  sum : ups L up n = s
theorem ups_none (L : List (Int × Int)) (n : Nat) : ∀ j, j ≤ n → ups L (List.replicate n (-1)) j = 0
  | 0, _ => rfl
  | j + 1, hj => by
    have e : (List.replicate n (-1 : Int)).getD j 0 = -1 := by simp [List.getD_eq_getElem?_getD, show j < n by omega]
    simp only [ups, ups_none L n j (by omega), e, if_true]; rfl
theorem tree_ups {L : List (Int × Int)} {n : Nat} (hn : L.length = n) (h1 : 1 ≤ n) : ∀ m, m < n → Ups L n (tree L m).1 (tree L m).2.1 (tree L m).2.2
  | 0, _ => ⟨by simp [tree, hn], by simp [tree, hn, List.getD_eq_getElem?_getD, show 0 < n by omega], fun x hx _ => by simp [tree, hn, List.getD_eq_getElem?_getD, hx], fun x hx hm h0 => by simp [tree] at hm; omega, by simp only [tree, hn]; exact ups_none L n n (Nat.le_refl _)⟩
  | m + 1, hm => by
    obtain ⟨j1, j2, j3⟩ := tree_jn hn h1 m (by omega)
    obtain ⟨u1, u2, u3, u4, u5⟩ := tree_ups hn h1 m (by omega)
    obtain ⟨k, i, hb, hk, hki, hi, hii⟩ := best_some L j1 (by omega)
    have e := tree_step (m := m) (I := (tree L m).1) (up := (tree L m).2.1) (s := (tree L m).2.2) hn rfl hb
    have hk0 : k ≠ 0 := fun h => hki (h ▸ j1.z)
    have eg : ∀ x, x ≠ k → ((tree L m).2.1.set k (i : Int)).getD x 0 = (tree L m).2.1.getD x 0 := fun x hx => by
      simp only [List.getD_eq_getElem?_getD]; rw [List.getElem?_set_ne (Ne.symm hx)]
    rw [e]
    refine ⟨by simpa using u1, by rw [eg 0 (Ne.symm hk0)]; exact u2, fun x hx hm' => ?_, fun x hx hm' h0 => ?_, ?_⟩
    · have hxk : x ≠ k := fun e => hm' (List.mem_append.2 (Or.inr (by simp [e])))
      rw [eg x hxk]
      exact u3 x hx fun h => hm' (List.mem_append.2 (Or.inl h))
    · by_cases hxk : x = k
      · subst hxk
        exact ⟨i, by simp [u1, hx], hi⟩
      · rw [eg x hxk]
        refine u4 x hx ?_ h0
        rcases List.mem_append.1 hm' with h | h
        · exact h
        · simp at h; exact absurd h hxk
    · show ups L ((tree L m).2.1.set k (i : Int)) n = _
      rw [ups_set L _ k i n u1 hk (u3 k hk hki), u5, if_pos hk]
      have : wy L i k = wy L k i := way_turn _ _
      rw [this]
/-- What the law asks of a tree. -/
theorem tree_facts {L : List (Int × Int)} {n : Nat} (hn : L.length = n) (h : stopsB L = true) :
    (toL L).length = n ∧ (toL L).getD 0 0 = -1 ∧ (∀ x, x < n → x ≠ 0 → ∃ j : Nat, (toL L).getD x 0 = (j : Int) ∧ j < n) ∧ ups L (toL L) n = toI L ∧ ∀ c, c < n → toI L ≤ star L c n := by
  have hl := stops_len h
  rw [hn] at hl
  obtain ⟨u1, u2, u3, u4, u5⟩ := tree_ups hn hl.1 (n - 1) (by omega)
  obtain ⟨j1, j2, j3⟩ := tree_jn hn hl.1 (n - 1) (by omega)
  have e1 : toL L = (tree L (n - 1)).2.1 := by unfold toL; rw [h, hn]; rfl
  have e2 : toI L = (tree L (n - 1)).2.2 := by unfold toI; rw [h, hn]; rfl
  rw [e1, e2]
  exact ⟨u1, u2, fun x hx h0 => u4 x hx (j1.full (by omega) hx) h0, u5, fun c hc => tree_le hn hl.1 hc (stops_all h)⟩
theorem ups_bd {L : List (Int × Int)} {up : List Int} {n : Nat} (hn : L.length = n) (ha : allS L = true) (hu : ∀ x, x < n → x ≠ 0 → ∃ j : Nat, up.getD x 0 = (j : Int) ∧ j < n) (h0 : up.getD 0 0 = -1) : ∀ i, i ≤ n → 0 ≤ ups L up i ∧ ups L up i ≤ 100 * (i : Int)
  | 0, _ => by simp [ups]
  | i + 1, hi => by
    have ih := ups_bd hn ha hu h0 i (by omega)
    simp only [ups]
    by_cases e : i = 0
    · subst e; rw [h0]; simp only [if_true]; omega
    · obtain ⟨j, hj, hjn⟩ := hu i (by omega) e
      rw [hj, if_neg (by omega)]
      have := wy_bd ha (i := (j : Int).toNat) (j := i) (by simp; omega) (by omega)
      omega
theorem ups_step {L : List (Int × Int)} {up : List Int} {i j : Nat} (h : up.getD i 0 = (j : Int)) : ups L up (i + 1) = ups L up i + wy L j i := by
  simp only [ups, h, Int.toNat_natCast]
  rw [if_neg (by omega)]
theorem ups_first {L : List (Int × Int)} {up : List Int} (h : up.getD 0 0 = -1) : ups L up 1 = 0 := by simp only [ups, h, if_true]; rfl
/-- What the law asks of three spots. -/
theorem way_facts {s t u : Int × Int} (h : spotB s = true ∧ spotB t = true ∧ spotB u = true) : way t s = way s t ∧ 0 ≤ way s t ∧ way s t ≤ 100 ∧ 0 ≤ way t u ∧ way t u ≤ 100 ∧ (way s t = 0 ↔ s = t) ∧ way s u ≤ way s t + way t u :=
  ⟨way_turn _ _, (way_bd h.1 h.2.1).1, (way_bd h.1 h.2.1).2, (way_bd h.2.1 h.2.2).1, (way_bd h.2.1 h.2.2).2, way_zero h.1 h.2.1, way_third h.1 h.2.1 h.2.2⟩
end Go.Proofs.Ytnfcedccjfnceaa.Rt
namespace Go.Proofs.Ytnfcedccjfnceaa.Rt

/-- A stop and all behind it, as deep as told. -/
def wk (up : List Int) : Nat → Nat → List Nat
  | 0, k => [k]
  | f + 1, k => k :: ((List.range up.length).flatMap fun i => if up.getD i 0 = (k : Int) then wk up f i else [])
def wkTo (up : List Int) (f k i : Nat) : List Nat := k :: ((List.range i).flatMap fun i => if up.getD i 0 = (k : Int) then wk up f i else [])
theorem wkTo_succ (up : List Int) (f k i : Nat) : wkTo up f k (i + 1) = if up.getD i 0 = (k : Int) then wkTo up f k i ++ wk up f i else wkTo up f k i := by
  unfold wkTo
  rw [List.range_succ, List.flatMap_append]
  by_cases h : up.getD i 0 = (k : Int)
  · rw [if_pos h]
    simp only [List.flatMap_cons, List.flatMap_nil, List.append_nil, if_pos h, List.cons_append]
  · rw [if_neg h]
    simp only [List.flatMap_cons, List.flatMap_nil, List.append_nil, if_neg h]
/-- A rank that grows from a stop to those joined by it. -/
structure Rnk (n : Nat) (up : List Int) (r : Nat → Nat) : Prop where
  len : up.length = n
  up1 : ∀ i, i < n → ∀ k : Nat, up.getD i 0 = (k : Int) → k < n ∧ r k < r i
  bd : ∀ i, i < n → r i < n
def par (up : List Int) (x : Nat) : Option Nat := if 0 ≤ up.getD x (-1) then some (up.getD x (-1)).toNat else none
def pit (up : List Int) : Nat → Nat → Option Nat
  | 0, x => some x
  | t + 1, x => (pit up t x).bind (par up)
theorem getD_in {up : List Int} {i : Nat} (hi : i < up.length) (d e : Int) : up.getD i d = up.getD i e := by
  simp [List.getD_eq_getElem?_getD, hi]
theorem par_of {up : List Int} {n i k : Nat} (hl : up.length = n) (hi : i < n) (h : up.getD i 0 = (k : Int)) : par up i = some k := by
  unfold par
  rw [getD_in (by omega) (-1) 0, h]
  simp
theorem of_par {up : List Int} {n i k : Nat} (hl : up.length = n) (h : par up i = some k) : i < n ∧ up.getD i 0 = (k : Int) := by
  unfold par at h
  split at h
  · rename_i h0
    have hi : i < up.length := Classical.byContradiction fun e => by
      rw [List.getD_eq_getElem?_getD, List.getElem?_eq_none (by omega)] at h0
      simp at h0
    rw [getD_in hi (-1) 0] at h h0
    refine ⟨by omega, ?_⟩
    have := Option.some.inj h
    omega
  · cases h
theorem wk_pit {n : Nat} {up : List Int} (hl : up.length = n) : ∀ (f k : Nat) {x : Nat}, x ∈ wk up f k → ∃ t, pit up t x = some k
  | 0, k, x, h => by simp [wk] at h; exact ⟨0, by rw [h]; rfl⟩
  | f + 1, k, x, h => by
    rcases List.mem_cons.1 h with h | h
    · exact ⟨0, by rw [h]; rfl⟩
    · obtain ⟨i, hi, hx⟩ := List.mem_flatMap.1 h
      split at hx
      · rename_i e
        obtain ⟨t, ht⟩ := wk_pit hl f i hx
        exact ⟨t + 1, by show (pit up t x).bind (par up) = _; rw [ht]; exact par_of hl (by have := List.mem_range.1 hi; omega) e⟩
      · cases hx
theorem pit_add (up : List Int) (a x : Nat) : ∀ b, pit up (a + b) x = (pit up a x).bind (pit up b)
  | 0 => by cases pit up a x <;> simp [pit]
  | b + 1 => by
    show (pit up (a + b) x).bind (par up) = _
    rw [pit_add up a x b]
    cases pit up a x <;> simp [pit]
theorem pit_rank {n : Nat} {up : List Int} {r : Nat → Nat} (h : Rnk n up r) : ∀ (t : Nat) {x k : Nat}, pit up t x = some k → r k + t ≤ r x
  | 0, x, k, e => by simp [pit] at e; subst e; omega
  | t + 1, x, k, e => by
    have e' : (pit up t x).bind (par up) = some k := e
    cases hp : pit up t x with
    | none => rw [hp] at e'; cases e'
    | some j =>
      rw [hp] at e'
      have h1 := pit_rank h t hp
      obtain ⟨hj, hu⟩ := of_par h.len (show par up j = some k from e')
      have := (h.up1 j hj k hu).2
      omega
theorem same_child {n : Nat} {up : List Int} {r : Nat → Nat} (h : Rnk n up r) {x i j k a b : Nat} (ha : pit up a x = some i) (hb : pit up b x = some j) (hi : par up i = some k) (hj : par up j = some k) : i = j := by
  have key : ∀ {x i j k a b : Nat}, pit up a x = some i → pit up b x = some j → par up i = some k → par up j = some k → a < b → False := by
    intro x i j k a b ha hb hi hj hab
    have h1 : pit up (a + 1) x = some k := by show (pit up a x).bind (par up) = _; rw [ha]; exact hi
    have h2 : pit up ((a + 1) + (b - (a + 1))) x = some j := by rw [show (a + 1) + (b - (a + 1)) = b by omega]; exact hb
    rw [pit_add, h1] at h2
    have h3 := pit_rank h _ (show pit up (b - (a + 1)) k = some j from h2)
    obtain ⟨hjn, hu⟩ := of_par h.len hj
    have := (h.up1 j hjn k hu).2
    omega
  rcases Nat.lt_trichotomy a b with hl | hl | hl
  · exact (key ha hb hi hj hl).elim
  · subst hl; rw [ha] at hb; exact Option.some.inj hb
  · exact (key hb ha hj hi hl).elim
theorem wk_nodup {n : Nat} {up : List Int} {r : Nat → Nat} (h : Rnk n up r) : ∀ (f k : Nat), (wk up f k).Nodup
  | 0, k => by simp [wk]
  | f + 1, k => by
    show (k :: _).Nodup
    rw [List.nodup_cons]
    constructor
    · intro hm
      obtain ⟨i, hi, hx⟩ := List.mem_flatMap.1 hm
      split at hx
      · rename_i e
        obtain ⟨t, ht⟩ := wk_pit h.len f i hx
        have h1 := pit_rank h t ht
        have h2 := (h.up1 i (by have := List.mem_range.1 hi; have := h.len; omega) k e).2
        omega
      · cases hx
    · refine List.pairwise_flatMap.2 ⟨fun i _ => ?_, ?_⟩
      · split
        · exact wk_nodup h f i
        · exact List.Pairwise.nil
      · refine List.Pairwise.imp_of_mem (R := (· ≠ ·)) (fun {i j} hi hj hne x hx y hy exy => ?_) List.nodup_range
        split at hx
        · rename_i e1
          split at hy
          · rename_i e2
            subst exy
            obtain ⟨a, ha⟩ := wk_pit h.len f i hx
            obtain ⟨b, hb⟩ := wk_pit h.len f j hy
            have li : i < n := by have := List.mem_range.1 hi; have := h.len; omega
            have lj : j < n := by have := List.mem_range.1 hj; have := h.len; omega
            exact hne (same_child h ha hb (par_of h.len li e1) (par_of h.len lj e2))
          · cases hy
        · cases hx
theorem wk_lt {n : Nat} {up : List Int} (hl : up.length = n) : ∀ (f k : Nat), k < n → ∀ x ∈ wk up f k, x < n
  | 0, k, hk, x, h => by simp [wk] at h; omega
  | f + 1, k, hk, x, h => by
    rcases List.mem_cons.1 h with h | h
    · omega
    · obtain ⟨i, hi, hx⟩ := List.mem_flatMap.1 h
      split at hx
      · exact wk_lt hl f i (by have := List.mem_range.1 hi; omega) x hx
      · cases hx
theorem wk_len {n : Nat} {up : List Int} {r : Nat → Nat} (h : Rnk n up r) (f k : Nat) (hk : k < n) : 1 ≤ (wk up f k).length ∧ (wk up f k).length ≤ n := by
  constructor
  · cases f <;> simp [wk]
  · have := (wk_nodup h f k).length_le_of_subset (l₂ := List.range n) (fun x hx => List.mem_range.2 (wk_lt h.len f k hk x hx))
    rwa [List.length_range] at this
theorem wkTo_end (up : List Int) (f k n : Nat) (hl : up.length = n) : wkTo up f k n = wk up (f + 1) k := by subst hl; rfl
/-- What the tree is like: each is joined by one that was joined ahead of it. -/
def Tr (n : Nat) (I : List Nat) (up : List Int) : Prop := up.length = n ∧ ∀ i, i < n → up.getD i 0 = -1 ∨ ∃ j : Nat, up.getD i 0 = (j : Int) ∧ j ∈ I ∧ i ∈ I ∧ I.idxOf j < I.idxOf i
theorem tree_tr {L : List (Int × Int)} {n : Nat} (hn : L.length = n) (h1 : 1 ≤ n) : ∀ m, m < n → Tr n (tree L m).1 (tree L m).2.1
  | 0, _ => ⟨by simp [tree, hn], fun i hi => Or.inl (by simp [tree, hn, hi])⟩
  | m + 1, hm => by
    obtain ⟨j1, j2, j3⟩ := tree_jn hn h1 m (by omega)
    obtain ⟨_, ih⟩ := tree_tr hn h1 m (by omega)
    obtain ⟨k, i, hb, hk, hki, hi, hii⟩ := best_some L j1 (by omega)
    simp only [tree, hn, hb]
    refine ⟨by simpa using j3, fun x hx => ?_⟩
    by_cases e : x = k
    · subst e
      right
      refine ⟨i, by simp [j3, hx], List.mem_append.2 (Or.inl hii), List.mem_append.2 (Or.inr (by simp)), ?_⟩
      rw [List.idxOf_append, if_pos hii, List.idxOf_append, if_neg hki]
      have := List.idxOf_lt_length_of_mem hii
      omega
    · have eg : ((tree L m).2.1.set k (i : Int)).getD x 0 = (tree L m).2.1.getD x 0 := by
        simp only [List.getD_eq_getElem?_getD]; rw [List.getElem?_set_ne (Ne.symm e)]
      rw [eg]
      rcases ih x hx with h | ⟨j, h2, h3, h4, h5⟩
      · exact Or.inl h
      · right
        exact ⟨j, h2, List.mem_append.2 (Or.inl h3), List.mem_append.2 (Or.inl h4), by rw [List.idxOf_append, if_pos h3, List.idxOf_append, if_pos h4]; exact h5⟩
theorem tree_rnk {L : List (Int × Int)} {n : Nat} {I : List Nat} {up : List Int} {s : Int} (hn : L.length = n) (h1 : 1 ≤ n) (ht : tree L (n - 1) = (I, up, s)) : Rnk n up I.idxOf := by
  obtain ⟨j1, j2, j3⟩ := tree_jn hn h1 (n - 1) (by omega)
  have tr := tree_tr hn h1 (n - 1) (by omega)
  rw [ht] at j1 j2 j3 tr
  simp only at j1 j2 j3 tr
  refine ⟨j3, fun i hi k hk => ?_, fun i hi => ?_⟩
  · rcases tr.2 i hi with h | ⟨j, e, hj, _, hlt⟩
    · omega
    · have : j = k := by omega
      subst this
      exact ⟨j1.lt j hj, hlt⟩
  · have := List.idxOf_lt_length_of_mem (j1.full (by omega) hi)
    omega
/-- The tree's round. -/
def ttL (L : List (Int × Int)) : List Int := if stopsB L then (wk (tree L (L.length - 1)).2.1 L.length 0).map fun x : Nat => (x : Int) else []
def ttI (L : List (Int × Int)) : Int := if stopsB L then tour L (ttL L) else 0
end Go.Proofs.Ytnfcedccjfnceaa.Rt
namespace Go.Proofs.Ytnfcedccjfnceaa.Rt

def costN (L : List (Int × Int)) (b : List Nat) : Int := tour L (b.map fun x : Nat => (x : Int))
/-- As the model seeks: the first best of the bests. -/
def bo (L : List (Int × Int)) (n : Nat) : Nat → List Nat → List Nat
  | 0, b => b
  | f + 1, b => (fb (costN L) none ((outs b n).map fun k => bo L n f (b ++ [k]))).getD []
def boTo (L : List (Int × Int)) (n f : Nat) (b : List Nat) (k : Nat) : Option (List Nat) := fb (costN L) none ((outs b k).map fun x => bo L n f (b ++ [x]))
theorem boTo_succ (L : List (Int × Int)) (n f : Nat) (b : List Nat) (k : Nat) : boTo L n f b (k + 1) = if b.contains k then boTo L n f b k else comb (costN L) (boTo L n f b k) (some (bo L n f (b ++ [k]))) := by
  unfold boTo
  rw [outs_succ]
  split
  · rfl
  · rw [List.map_append, fb_append]; rfl
/-- As the program yields: all orders that begin so. -/
def ords (n : Nat) : Nat → List Nat → List (List Nat)
  | 0, b => [b]
  | f + 1, b => (outs b n).flatMap fun k => ords n f (b ++ [k])
/-- The orders of the first k that may come next. -/
def ordsTo (n f : Nat) (b : List Nat) (k : Nat) : List (List Nat) := (outs b k).flatMap fun x => ords n f (b ++ [x])
theorem ordsTo_succ (n f : Nat) (b : List Nat) (k : Nat) : ordsTo n f b (k + 1) = if b.contains k then ordsTo n f b k else ordsTo n f b k ++ ords n f (b ++ [k]) := by
  unfold ordsTo
  rw [outs_succ]
  split
  · rfl
  · rw [List.flatMap_append]; simp
/-- A beginning: no two alike, f are to come. -/
structure Bg (n f : Nat) (b : List Nat) : Prop where
  nd : b.Nodup
  lt : ∀ x ∈ b, x < n
  len : b.length + f = n
theorem Bg.add {n f : Nat} {b : List Nat} (h : Bg n (f + 1) b) {k : Nat} (hk : k < n) (hm : ¬ k ∈ b) : Bg n f (b ++ [k]) :=
  ⟨by rw [List.nodup_append]; exact ⟨h.nd, by simp, fun x hx y hy e => by simp at hy; subst hy; subst e; exact hm hx⟩, fun x hx => by
    rcases List.mem_append.1 hx with hx | hx
    · exact h.lt x hx
    · simp at hx; omega, by have := h.len; simp; omega⟩
theorem mem_outs {b : List Nat} {k x : Nat} (h : x ∈ outs b k) : x < k ∧ ¬ x ∈ b := by
  have := List.mem_filter.1 h
  exact ⟨List.mem_range.1 this.1, by simpa using this.2⟩
theorem outs_ne {n f : Nat} {b : List Nat} (h : Bg n (f + 1) b) : outs b n ≠ [] := by
  have : ∃ k, k < n ∧ ¬ k ∈ b := Classical.byContradiction fun hno => by
    have := (List.nodup_range (n := n)).length_le_of_subset (l₂ := b) (fun x hx => Classical.byContradiction fun hm => hno ⟨x, List.mem_range.1 hx, hm⟩)
    rw [List.length_range] at this; have := h.len; omega
  obtain ⟨k, hk, hm⟩ := this
  have h0 : k ∈ outs b n := List.mem_filter.2 ⟨List.mem_range.2 hk, by simpa using hm⟩
  intro e; rw [e] at h0; cases h0
/-- The first best of many is the first best of the bests of each. -/
theorem fb_flat {α β : Type} (f : β → Int) (g : α → List β) (h : α → β) : ∀ (l : List α), (∀ x ∈ l, fb f none (g x) = some (h x)) → fb f none (l.flatMap g) = fb f none (l.map h)
  | [], _ => rfl
  | x :: l, hx => by
    rw [List.flatMap_cons, List.map_cons, fb_append, hx x (by simp), fb_comb f (l.flatMap g), fb_flat f g h l (fun y hy => hx y (by simp [hy]))]
    exact (fb_comb f (l.map h) (some (h x))).symm
theorem bo_all (L : List (Int × Int)) (n : Nat) : ∀ (f : Nat) {b : List Nat}, Bg n f b → fb (costN L) none (ords n f b) = some (bo L n f b) ∧ Bg n 0 (bo L n f b)
  | 0, b, h => ⟨rfl, h⟩
  | f + 1, b, h => by
    have e := fb_flat (costN L) (fun k => ords n f (b ++ [k])) (fun k => bo L n f (b ++ [k])) (outs b n) fun x hx => (bo_all L n f (h.add (mem_outs hx).1 (mem_outs hx).2)).1
    obtain ⟨y, hy, hm⟩ := fb_some (costN L) ((outs b n).map fun k => bo L n f (b ++ [k])) none (Or.inr (by simp [outs_ne h]))
    have ey : bo L n (f + 1) b = y := by
      show (fb (costN L) none ((outs b n).map fun k => bo L n f (b ++ [k]))).getD [] = y
      rw [hy]; rfl
    refine ⟨?_, ?_⟩
    · show fb (costN L) none ((outs b n).flatMap fun k => ords n f (b ++ [k])) = _
      rw [e, hy, ey]
    · rw [ey]
      rcases hm with hm | hm
      · cases hm
      · obtain ⟨k, hk, rfl⟩ := List.mem_map.1 hm
        exact (bo_all L n f (h.add (mem_outs hk).1 (mem_outs hk).2)).2
/-- Each of all orders is one. -/
theorem ords_bg (n : Nat) : ∀ (f : Nat) {b : List Nat}, Bg n f b → ∀ x ∈ ords n f b, Bg n 0 x
  | 0, b, h, x, hx => by simp [ords] at hx; subst hx; exact h
  | f + 1, b, h, x, hx => by
    obtain ⟨k, hk, hx⟩ := List.mem_flatMap.1 hx
    exact ords_bg n f (h.add (mem_outs hk).1 (mem_outs hk).2) x hx
/-- What is best so far is none, or an order. -/
theorem boTo_some {L : List (Int × Int)} {n f k : Nat} {b : List Nat} (h : Bg n (f + 1) b) (hk : k ≤ n) {x : List Nat} (hx : boTo L n f b k = some x) : Bg n 0 x := by
  by_cases h0 : (outs b k) = []
  · unfold boTo at hx; rw [h0] at hx; cases hx
  · obtain ⟨y, hy, hm⟩ := fb_some (costN L) ((outs b k).map fun k => bo L n f (b ++ [k])) none (Or.inr (by simp [h0]))
    have e : y = x := by unfold boTo at hx; rw [hx] at hy; cases hy; rfl
    subst e
    rcases hm with hm | hm
    · cases hm
    · obtain ⟨j, hj, rfl⟩ := List.mem_map.1 hm
      exact (bo_all L n f (h.add (by have := (mem_outs hj).1; omega) (mem_outs hj).2)).2
theorem boTo_end {L : List (Int × Int)} {n f : Nat} {b : List Nat} : bo L n (f + 1) b = (boTo L n f b n).getD [] := rfl
theorem boTo_full (L : List (Int × Int)) {n f : Nat} {b : List Nat} (h : Bg n (f + 1) b) : boTo L n f b n = some (bo L n (f + 1) b) := by
  obtain ⟨y, hy, _⟩ := fb_some (costN L) ((outs b n).map fun k => bo L n f (b ++ [k])) none (Or.inr (by simp [outs_ne h]))
  have e : boTo L n f b n = some y := hy
  rw [boTo_end, e]; rfl
theorem bg_zero {n : Nat} (h : 1 ≤ n) : Bg n (n - 1) [0] := ⟨by simp, fun x hx => by simp at hx; omega, by simp; omega⟩
theorem bg_in {L : List (Int × Int)} {n f : Nat} {b : List Nat} (hn : L.length = n) (h : Bg n f b) : InB L (b.map fun x : Nat => (x : Int)) := fun i hi => by
  have hi' : i < b.length := by simpa using hi
  refine ⟨b.getD i 0, by simp [List.getD_eq_getElem?_getD, List.getElem?_eq_getElem hi'], ?_⟩
  rw [hn]
  refine h.lt _ ?_
  rw [List.getD_eq_getElem?_getD, List.getElem?_eq_getElem hi']
  exact List.getElem_mem hi'
/-- What BestTour answers. -/
def btN (L : List (Int × Int)) : List Nat := bo L L.length (L.length - 1) [0]
def btL (L : List (Int × Int)) : List Int := if stopsB L then (btN L).map fun x : Nat => (x : Int) else []
def btI (L : List (Int × Int)) : Int := if stopsB L then tour L (btL L) else 0
end Go.Proofs.Ytnfcedccjfnceaa.Rt
namespace Go.Proofs.Ytnfcedccjfnceaa.Tr

abbrev Wy := Nat → Nat → Int
def wE (w : Wy) : List (Nat × Nat) → Int
  | [] => 0
  | e :: r => w e.1 e.2 + wE w r
theorem wE_app (w : Wy) : ∀ l r, wE w (l ++ r) = wE w l + wE w r
  | [], r => by simp [wE]
  | e :: l, r => by simp only [List.cons_append, wE, wE_app w l r]; omega
theorem wE_ge {w : Wy} (h : ∀ a b, 0 ≤ w a b) : ∀ l, 0 ≤ wE w l
  | [] => Int.le_refl _
  | e :: l => by have := h e.1 e.2; have := wE_ge h l; simp only [wE]; omega
/-- A link, whichever way round. -/
def Lk (E : List (Nat × Nat)) (a b : Nat) : Prop := (a, b) ∈ E ∨ (b, a) ∈ E
theorem Lk.sub {E E' : List (Nat × Nat)} {a b : Nat} (h : Lk E a b) (hs : ∀ x, x ∈ E → x ∈ E') : Lk E' a b := h.elim (fun h => Or.inl (hs _ h)) (fun h => Or.inr (hs _ h))
/-- Joined with one of S by links. -/
inductive Conn (E : List (Nat × Nat)) (S : List Nat) : Nat → Prop
  | base {u : Nat} : u ∈ S → Conn E S u
  | step {u v : Nat} : Lk E u v → Conn E S v → Conn E S u
/-- Joined outside of S. -/
inductive Out (E : List (Nat × Nat)) (S : List Nat) (v : Nat) : Nat → Prop
  | base : v ∉ S → Out E S v v
  | step {u x : Nat} : Out E S v u → Lk E u x → x ∉ S → Out E S v x
theorem Out.not {E : List (Nat × Nat)} {S : List Nat} {v u : Nat} (h : Out E S v u) : u ∉ S := by
  cases h with
  | base h => exact h
  | step _ _ h => exact h
theorem Out.cons {E : List (Nat × Nat)} {S : List Nat} {v x u : Nat} (hv : v ∉ S) (hl : Lk E v x) (h : Out E S x u) : Out E S v u := by
  induction h with
  | base h => exact Out.step (Out.base hv) hl h
  | step _ h2 h3 ih => exact Out.step ih h2 h3
/-- The link by which one outside comes into S. -/
theorem enter {E : List (Nat × Nat)} {S : List Nat} {v : Nat} (h : Conn E S v) : v ∉ S → ∃ a b, Out E S v a ∧ b ∈ S ∧ Lk E a b := by
  induction h with
  | base h => intro hn; exact absurd h hn
  | @step u x hl _ ih =>
    intro hn
    by_cases hx : x ∈ S
    · exact ⟨u, x, Out.base hn, hx, hl⟩
    · obtain ⟨a, b, h1, h2, h3⟩ := ih hx
      exact ⟨a, b, Out.cons hn hl h1, h2, h3⟩
/-- Without that link all are joined with S and the one. -/
theorem without {E1 E2 : List (Nat × Nat)} {f : Nat × Nat} {S S' : List Nat} {v a b : Nat} (hS : ∀ x, x ∈ S' ↔ x = v ∨ x ∈ S) (hf : f = (a, b) ∨ f = (b, a)) (ha : Out (E1 ++ f :: E2) S v a) (hb : b ∈ S) {u : Nat} (h : Conn (E1 ++ f :: E2) S u) : Conn (E1 ++ E2) S' u := by
  have mem : ∀ g, g ∈ E1 ++ f :: E2 → g = f ∨ g ∈ E1 ++ E2 := fun g hg => by
    simp only [List.mem_append, List.mem_cons] at hg ⊢
    rcases hg with h | h | h
    · exact Or.inr (Or.inl h)
    · exact Or.inl h
    · exact Or.inr (Or.inr h)
  have keep : ∀ x y, x ∉ S → y ∉ S → Lk (E1 ++ f :: E2) x y → Lk (E1 ++ E2) x y := by
    intro x y hx hy hl
    rcases hl with hl | hl
    · rcases mem _ hl with e | e
      · rcases hf with hf | hf
        · rw [hf] at e; cases e; exact absurd hb hy
        · rw [hf] at e; cases e; exact absurd hb hx
      · exact Or.inl e
    · rcases mem _ hl with e | e
      · rcases hf with hf | hf
        · rw [hf] at e; cases e; exact absurd hb hx
        · rw [hf] at e; cases e; exact absurd hb hy
      · exact Or.inr e
  have flip : ∀ {x y}, Lk (E1 ++ E2) x y → Lk (E1 ++ E2) y x := fun h => h.symm
  have hall : ∀ x, Out (E1 ++ f :: E2) S v x → Conn (E1 ++ E2) S' x := by
    intro x hx
    induction hx with
    | base _ => exact Conn.base ((hS v).2 (Or.inl rfl))
    | step h1 h2 h3 ih => exact Conn.step (flip (keep _ _ h1.not h3 h2)) ih
  have hav := hall a ha
  induction h with
  | base h => exact Conn.base ((hS _).2 (Or.inr h))
  | @step u x hl _ ih =>
    have hgo : Lk (E1 ++ E2) u x ∨ u = a ∨ u = b := by
      rcases hl with hl | hl
      · rcases mem _ hl with e | e
        · rcases hf with hf | hf
          · rw [hf] at e; cases e; exact Or.inr (Or.inl rfl)
          · rw [hf] at e; cases e; exact Or.inr (Or.inr rfl)
        · exact Or.inl (Or.inl e)
      · rcases mem _ hl with e | e
        · rcases hf with hf | hf
          · rw [hf] at e; cases e; exact Or.inr (Or.inr rfl)
          · rw [hf] at e; cases e; exact Or.inr (Or.inl rfl)
        · exact Or.inl (Or.inr e)
    rcases hgo with h | rfl | rfl
    · exact Conn.step h ih
    · exact hav
    · exact Conn.base ((hS _).2 (Or.inr hb))
/-- What is still to be joined, each time the nearest, to those of S. -/
inductive Prim (n : Nat) (w : Wy) : List Nat → Int → Prop
  | done {S : List Nat} : (∀ u, u < n → u ∈ S) → Prim n w S 0
  | more {S S' : List Nat} {v y : Nat} {d : Int} : v < n → v ∉ S → y ∈ S → (∀ u, u < n → u ∉ S → ∀ x, x ∈ S → w v y ≤ w u x) → (∀ x, x ∈ S' ↔ x = v ∨ x ∈ S) → Prim n w S' d → Prim n w S (w v y + d)
/-- No links that join all are shorter. -/
theorem Prim.least {n : Nat} {w : Wy} (hs : ∀ a b, w a b = w b a) (h0 : ∀ a b, 0 ≤ w a b) {S : List Nat} {d : Int} (h : Prim n w S d) : ∀ {E : List (Nat × Nat)}, (∀ e, e ∈ E → e.1 < n ∧ e.2 < n) → (∀ u, u < n → Conn E S u) → d ≤ wE w E := by
  induction h with
  | done _ => intro E _ _; exact wE_ge h0 E
  | @more S S' v y d hv hvS hy hmin hS' _ ih =>
    intro E hE hall
    obtain ⟨a, b, h1, h2, h3⟩ := enter (hall v hv) hvS
    have : ∃ f, (f = (a, b) ∨ f = (b, a)) ∧ f ∈ E := by
      rcases h3 with h3 | h3
      · exact ⟨_, Or.inl rfl, h3⟩
      · exact ⟨_, Or.inr rfl, h3⟩
    obtain ⟨f, hf, hfE⟩ := this
    have han : a < n := by
      have := hE f hfE
      rcases hf with hf | hf
      · rw [hf] at this; exact this.1
      · rw [hf] at this; exact this.2
    obtain ⟨E1, E2, rfl⟩ := List.append_of_mem hfE
    have hd := ih (E := E1 ++ E2) (fun e he => hE e (by
      simp only [List.mem_append, List.mem_cons] at he ⊢
      rcases he with h | h
      · exact Or.inl h
      · exact Or.inr (Or.inr h))) (fun u hu => without hS' hf h1 h2 (hall u hu))
    have hm := hmin a han h1.not b h2
    have hwf : w f.1 f.2 = w a b := by
      rcases hf with hf | hf
      · rw [hf]
      · rw [hf]; exact hs b a
    rw [wE_app] at hd ⊢
    simp only [wE]
    omega

/-- The way by x, then all of a list, to z. -/
def way (w : Wy) : Nat → List Nat → Nat → Int
  | x, [], z => w x z
  | x, a :: l, z => w x a + way w a l z
theorem way_by {w : Wy} (ht : ∀ a b c, w a c ≤ w a b + w b c) (x k : Nat) (l : List Nat) (z : Nat) : way w x l z ≤ w x k + way w k l z := by
  cases l with
  | nil => exact ht x k z
  | cons a l => simp only [way]; have := ht x k a; omega
/-- A stop and all behind it. -/
def walk (n : Nat) (up : Nat → Int) : Nat → Nat → List Nat
  | 0, _ => []
  | f + 1, k => k :: (List.range n).flatMap fun i => if up i = (k : Int) then walk n up f i else []
def tsumTo (w : Wy) (up : Nat → Int) (t : Nat → Int) (k : Nat) : Nat → Int
  | 0 => 0
  | m + 1 => tsumTo w up t k m + if up m = (k : Int) then w k m + t m else 0
/-- All links behind a stop. -/
def tsum (n : Nat) (w : Wy) (up : Nat → Int) : Nat → Nat → Int
  | 0, _ => 0
  | f + 1, k => tsumTo w up (tsum n w up f) k n
theorem forest {w : Wy} (hs : ∀ a b, w a b = w b a) (ht : ∀ a b c, w a c ≤ w a b + w b c) {up : Nat → Int} {W : Nat → List Nat} {t : Nat → Int} (hW : ∀ c x B z, way w x (W c ++ B) z ≤ w x c + 2 * t c + way w c B z) (k : Nat) : ∀ m B z, way w k ((List.range m).flatMap (fun i => if up i = (k : Int) then W i else []) ++ B) z ≤ 2 * tsumTo w up t k m + way w k B z
  | 0, B, z => by simp [tsumTo]
  | m + 1, B, z => by
    have e : (List.range (m + 1)).flatMap (fun i => if up i = (k : Int) then W i else []) ++ B = (List.range m).flatMap (fun i => if up i = (k : Int) then W i else []) ++ ((if up m = (k : Int) then W m else []) ++ B) := by
      rw [List.range_succ, List.flatMap_append, List.append_assoc]; simp
    rw [e]
    have h1 := forest hs ht (up := up) hW k m ((if up m = (k : Int) then W m else []) ++ B) z
    by_cases hm : up m = (k : Int)
    · rw [if_pos hm] at h1 ⊢
      have h2 := hW m k B z
      have h3 := way_by ht m k B z
      have h4 := hs m k
      simp only [tsumTo, if_pos hm]
      omega
    · rw [if_neg hm] at h1 ⊢
      simp only [tsumTo, if_neg hm]
      simp only [List.nil_append] at h1 ⊢
      omega
/-- As the tree goes: at most twice as long. -/
theorem walk_le {n : Nat} {w : Wy} (hs : ∀ a b, w a b = w b a) (ht : ∀ a b c, w a c ≤ w a b + w b c) (up : Nat → Int) : ∀ f k x B z, way w x (walk n up f k ++ B) z ≤ w x k + 2 * tsum n w up f k + way w k B z
  | 0, k, x, B, z => by
    have := way_by ht x k B z
    simp only [walk, tsum, List.nil_append]; omega
  | f + 1, k, x, B, z => by
    have h1 := forest hs ht (W := walk n up f) (t := tsum n w up f) (fun c x B z => walk_le hs ht up f c x B z) k n B z (up := up)
    simp only [walk, tsum, List.cons_append, way]
    omega
end Go.Proofs.Ytnfcedccjfnceaa.Tr
namespace Go.Proofs.Ytnfcedccjfnceaa.Rt

def csN (b : List Nat) : List Int := b.map fun x : Nat => (x : Int)
theorem csN_nth (b : List Nat) (i : Nat) : Od.nth (csN b) i = b.getD i 0 := by
  unfold Od.nth csN
  by_cases h : i < b.length
  · simp [List.getD_eq_getElem?_getD, List.getElem?_map, List.getElem?_eq_getElem h]
  · simp [List.getD_eq_getElem?_getD, List.getElem?_map, List.getElem?_eq_none (by omega : b.length ≤ i)]
theorem path_shift (L : List (Int × Int)) (x y : Nat) (l : List Nat) : ∀ k, path L (csN (x :: y :: l)) (k + 1) = wy L x y + path L (csN (y :: l)) k
  | 0 => by simp [path, csN_nth]
  | k + 1 => by
    rw [path, path_shift L x y l k]
    simp only [path, csN_nth, List.getD_cons_succ]
    omega
theorem path_way (L : List (Int × Int)) (z : Nat) : ∀ (l : List Nat) (x : Nat), path L (csN (x :: l)) l.length + wy L ((x :: l).getD l.length 0) z = Tr.way (wy L) x l z
  | [], x => by simp [path, Tr.way]
  | y :: l, x => by
    have ih := path_way L z l y
    simp only [List.length_cons, path_shift, List.getD_cons_succ, Tr.way]
    omega
/-- A round is a way back. -/
theorem tour_way (L : List (Int × Int)) (x : Nat) (l : List Nat) : tour L (csN (x :: l)) = Tr.way (wy L) x l x := by
  unfold tour
  have e : (csN (x :: l)).length - 1 = l.length := by simp [csN]
  rw [e, csN_nth, csN_nth, ← path_way L x l x]
  simp
theorem way_app (w : Tr.Wy) (y : Nat) (r : List Nat) (z : Nat) : ∀ (l : List Nat) (x : Nat), Tr.way w x (l ++ y :: r) z = Tr.way w x l y + Tr.way w y r z
  | [], x => rfl
  | a :: l, x => by simp only [List.cons_append, Tr.way, way_app w y r z l a]; omega
/-- Turned, it is as long. -/
theorem tour_turn (L : List (Int × Int)) (A C : List Nat) (x : Nat) : tour L (csN (A ++ x :: C)) = tour L (csN (x :: C ++ A)) := by
  cases A with
  | nil => simp
  | cons a A =>
    rw [List.cons_append, List.cons_append, tour_way, tour_way, way_app, way_app]
    omega
/-- All orders that begin so are among them. -/
theorem ords_mem (n : Nat) : ∀ (f : Nat) {b r : List Nat}, Bg n 0 (b ++ r) → r.length = f → b ++ r ∈ ords n f b
  | 0, b, r, _, hr => by
    have : r = [] := List.length_eq_zero_iff.1 hr
    subst this; simp [ords]
  | f + 1, b, [], _, hr => by simp at hr
  | f + 1, b, k :: r, h, hr => by
    have e : b ++ k :: r = (b ++ [k]) ++ r := by simp
    have hm := ords_mem n f (b := b ++ [k]) (r := r) (by rw [← e]; exact h) (by simpa using hr)
    refine List.mem_flatMap.2 ⟨k, List.mem_filter.2 ⟨List.mem_range.2 (h.lt k (by simp)), ?_⟩, by rw [e]; exact hm⟩
    have := h.nd
    rw [List.nodup_append] at this
    simp
    intro hk
    exact this.2.2 k hk k (by simp) rfl
theorem bg_all {n : Nat} {b : List Nat} (h : Bg n 0 b) {x : Nat} (hx : x < n) : x ∈ b := Classical.byContradiction fun hm => by
  have hl := h.len
  have nd : (b ++ [x]).Nodup := by rw [List.nodup_append]; exact ⟨h.nd, by simp, fun a ha c hc e => by simp at hc; subst hc; subst e; exact hm ha⟩
  have := nd.length_le_of_subset (l₂ := List.range n) (fun y hy => by
    rcases List.mem_append.1 hy with hy | hy
    · exact List.mem_range.2 (h.lt y hy)
    · simp at hy; subst hy; exact List.mem_range.2 hx)
  simp at this; omega
/-- No round is shorter than the best. -/
theorem best_le {L : List (Int × Int)} {n : Nat} {b : List Nat} (hn : L.length = n) (h1 : 1 ≤ n) (h : Bg n 0 b) : costN L (btN L) ≤ costN L b := by
  obtain ⟨A, C, rfl⟩ := List.append_of_mem (bg_all h (x := 0) (by omega))
  have e : costN L (A ++ 0 :: C) = costN L (0 :: C ++ A) := tour_turn L A C 0
  have hp : (A ++ 0 :: C).Perm (0 :: C ++ A) := List.perm_append_comm
  have hb : Bg n 0 ([0] ++ (C ++ A)) := ⟨by have := (hp.nodup_iff).1 h.nd; simpa using this, fun x hx => h.lt x ((hp.mem_iff).2 (by simpa using hx)), by have := h.len; simp at this ⊢; omega⟩
  have hm := ords_mem n (n - 1) hb (by have := h.len; simp at this ⊢; omega)
  have hf := (bo_all L n (n - 1) (bg_zero h1)).1
  have := (fb_least (costN L) _ none hf).1 _ hm
  rw [e]
  unfold btN
  rw [hn]
  simpa using this
theorem bg_ord {n : Nat} {b : List Nat} (h : Bg n 0 b) : Od.ordB (csN b) n = true := by
  have hl := h.len
  rw [Od.ordB_iff]
  have ge : ∀ i, i < n → (csN b).getD i 0 = ((b.getD i 0 : Nat) : Int) := fun i hi => by
    unfold csN; simp [List.getD_eq_getElem?_getD, List.getElem?_map, List.getElem?_eq_getElem (show i < b.length by omega)]
  refine ⟨by simp [csN]; omega, fun i hi => ?_, fun i j hi hj e => ?_⟩
  · rw [ge i hi]
    have : b.getD i 0 < n := h.lt _ (by rw [List.getD_eq_getElem?_getD, List.getElem?_eq_getElem (show i < b.length by omega)]; exact List.getElem_mem _)
    omega
  · rw [ge i hi, ge j hj] at e
    have e' : b.getD i 0 = b.getD j 0 := by omega
    simp only [List.getD_eq_getElem?_getD, List.getElem?_eq_getElem (show i < b.length by omega), List.getElem?_eq_getElem (show j < b.length by omega), Option.getD_some] at e'
    rcases Nat.lt_trichotomy i j with hlt | rfl | hgt
    · exact absurd e' (List.pairwise_iff_getElem.1 h.nd i j (by omega) (by omega) hlt)
    · rfl
    · exact absurd e'.symm (List.pairwise_iff_getElem.1 h.nd j i (by omega) (by omega) hgt)
theorem ord_bg {n : Nat} {os : List Int} (h : Od.ordB os n = true) : ∃ b, os = csN b ∧ Bg n 0 b := by
  have h' := Od.ordB_iff.1 h
  obtain ⟨hl, hin, hinj⟩ := h'
  have e : os = csN (os.map Int.toNat) := by
    unfold csN
    rw [List.map_map]
    apply List.ext_getElem (by simp)
    intro i h1 h2
    have := hin i (by omega)
    simp only [List.getD_eq_getElem?_getD, List.getElem?_eq_getElem h1, Option.getD_some] at this
    simp; omega
  refine ⟨_, e, ?_, fun x hx => ?_, by simp [hl]⟩
  · refine List.pairwise_iff_getElem.2 fun i j hi hj hlt hij => ?_
    have hi' : i < n := by simp at hi; omega
    have hj' : j < n := by simp at hj; omega
    have a1 := hin i hi'
    have a2 := hin j hj'
    have a3 := hinj i j hi' hj'
    simp only [List.getElem_map] at hij
    simp only [List.getD_eq_getElem?_getD, List.getElem?_eq_getElem (show i < os.length by omega), List.getElem?_eq_getElem (show j < os.length by omega), Option.getD_some] at a1 a2 a3
    have := a3 (by omega)
    omega
  · obtain ⟨z, hz, rfl⟩ := List.mem_map.1 hx
    obtain ⟨i, hi, rfl⟩ := List.getElem_of_mem hz
    have := hin i (by omega)
    simp only [List.getD_eq_getElem?_getD, List.getElem?_eq_getElem hi, Option.getD_some] at this
    omega
/-- Who goes up to k in t steps is behind k. -/
theorem pit_wk {n : Nat} {up : List Int} (hl : up.length = n) : ∀ (t f k : Nat) {x : Nat}, t ≤ f → pit up t x = some k → x ∈ wk up f k
  | 0, f, k, x, _, h => by
    have : x = k := by simpa [pit] using h
    subst this
    cases f <;> simp [wk]
  | t + 1, 0, k, x, hf, _ => by omega
  | t + 1, f + 1, k, x, hf, h => by
    have h' : (pit up t x).bind (par up) = some k := h
    cases hp : pit up t x with
    | none => rw [hp] at h'; cases h'
    | some i =>
      rw [hp] at h'
      obtain ⟨hi, e⟩ := of_par hl (show par up i = some k from h')
      have hm := pit_wk hl t f i (by omega) hp
      exact List.mem_cons.2 (Or.inr (List.mem_flatMap.2 ⟨i, List.mem_range.2 (by omega), by rw [if_pos e]; exact hm⟩))
/-- Each stop goes up to the first. -/
theorem pit_zero {n : Nat} {up : List Int} {r : Nat → Nat} (h : Rnk n up r) (hu : ∀ x, x < n → x ≠ 0 → ∃ j : Nat, up.getD x 0 = (j : Int) ∧ j < n) : ∀ (m x : Nat), x < n → r x ≤ m → ∃ t, t ≤ r x ∧ pit up t x = some 0
  | m, x, hx, hm => by
    by_cases h0 : x = 0
    · exact ⟨0, Nat.zero_le _, by rw [h0]; rfl⟩
    · obtain ⟨j, hj, hjn⟩ := hu x hx h0
      have hr := (h.up1 x hx j hj).2
      cases m with
      | zero => omega
      | succ m =>
        obtain ⟨t, ht, hp⟩ := pit_zero h hu m j hjn (by omega)
        refine ⟨1 + t, by omega, ?_⟩
        rw [pit_add]
        have : pit up 1 x = some j := by
          show (some x).bind (par up) = some j
          exact par_of h.len hx hj
        rw [this]; exact hp
theorem wk_bg {n : Nat} {up : List Int} {r : Nat → Nat} (h : Rnk n up r) (h1 : 1 ≤ n) (hu : ∀ x, x < n → x ≠ 0 → ∃ j : Nat, up.getD x 0 = (j : Int) ∧ j < n) : Bg n 0 (wk up n 0) := by
  have nd := wk_nodup h n 0
  have lt := wk_lt h.len n 0 (by omega)
  have all : ∀ x, x < n → x ∈ wk up n 0 := fun x hx => by
    obtain ⟨t, ht, hp⟩ := pit_zero h hu (r x) x hx (Nat.le_refl _)
    have := h.bd x hx
    exact pit_wk h.len t n 0 (by omega) hp
  refine ⟨nd, lt, ?_⟩
  have p : (wk up n 0).Perm (List.range n) := (List.perm_ext_iff_of_nodup nd List.nodup_range).2 fun x => ⟨fun hx => List.mem_range.2 (lt x hx), fun hx => all x (List.mem_range.1 hx)⟩
  have := p.length_eq
  simpa using this
/-- All ways behind a stop. -/
def ts (L : List (Int × Int)) (up : List Int) : Nat → Nat → Int
  | 0, _ => 0
  | f + 1, k => Tr.tsumTo (wy L) (fun i => up.getD i 0) (ts L up f) k up.length
theorem spot_any' {L : List (Int × Int)} (ha : allS L = true) (i : Nat) : spotB (L.getD i (0, 0)) = true := by
  by_cases h : i < L.length
  · exact allS_at ha h
  · rw [List.getD_eq_getElem?_getD, List.getElem?_eq_none (by omega)]; rfl
theorem wk_le {L : List (Int × Int)} (ha : allS L = true) (up : List Int) : ∀ (f k x : Nat) (B : List Nat) (z : Nat), Tr.way (wy L) x (wk up f k ++ B) z ≤ wy L x k + 2 * ts L up f k + Tr.way (wy L) k B z
  | 0, k, x, B, z => by simp only [wk, ts, List.cons_append, List.nil_append, Tr.way]; omega
  | f + 1, k, x, B, z => by
    have h1 := Tr.forest (w := wy L) (fun a b => way_turn _ _) (fun a b c => way_third (spot_any' ha a) (spot_any' ha b) (spot_any' ha c)) (up := fun i => up.getD i 0) (W := wk up f) (t := ts L up f) (fun c x B z => wk_le ha up f c x B z) k up.length B z
    simp only [wk, ts, List.cons_append, Tr.way]
    omega
def upC (L : List (Int × Int)) (up : List Int) (i : Nat) : Int := if up.getD i 0 = -1 then 0 else wy L (up.getD i 0).toNat i
theorem ups_range (L : List (Int × Int)) (up : List Int) : ∀ n, ups L up n = ((List.range n).map (upC L up)).sum
  | 0 => rfl
  | n + 1 => by rw [List.range_succ, List.map_append, List.sum_append, ← ups_range L up n]; simp [ups, upC]
theorem ts_sum (L : List (Int × Int)) (up : List Int) : ∀ (f k : Nat), ((wk up f k).map (upC L up)).sum = upC L up k + ts L up f k
  | 0, k => by simp [wk, ts]
  | f + 1, k => by
    have h : ∀ m, (((List.range m).flatMap fun i => if up.getD i 0 = (k : Int) then wk up f i else []).map (upC L up)).sum = Tr.tsumTo (wy L) (fun i => up.getD i 0) (ts L up f) k m := fun m => by
      induction m with
      | zero => rfl
      | succ m ih =>
        rw [List.range_succ, List.flatMap_append, List.map_append, List.sum_append, ih]
        by_cases e : up.getD m 0 = (k : Int)
        · have hc : upC L up m = wy L k m := by unfold upC; rw [e, if_neg (by omega)]; simp
          have := ts_sum L up f m
          simp only [List.flatMap_cons, List.flatMap_nil, List.append_nil, if_pos e, Tr.tsumTo, this, hc]
        · simp only [List.flatMap_cons, List.flatMap_nil, List.append_nil, if_neg e, Tr.tsumTo, List.map_nil, List.sum_nil]
    simp only [wk, List.map_cons, List.sum_cons, h, ts]
theorem sum_perm {f : Nat → Int} {A B : List Nat} (p : A.Perm B) : (A.map f).sum = (B.map f).sum := by
  induction p with
  | nil => rfl
  | cons x _ ih => simp only [List.map_cons, List.sum_cons, ih]
  | swap x y l => simp only [List.map_cons, List.sum_cons]; omega
  | trans _ _ ih1 ih2 => exact ih1.trans ih2
theorem bg_perm {n : Nat} {b : List Nat} (h : Bg n 0 b) : b.Perm (List.range n) := (List.perm_ext_iff_of_nodup h.nd List.nodup_range).2 fun _ => ⟨fun hx => List.mem_range.2 (h.lt _ hx), fun hx => bg_all h (List.mem_range.1 hx)⟩
theorem tree_prim {L : List (Int × Int)} {n : Nat} (hn : L.length = n) (h1 : 1 ≤ n) : ∀ j m, m + j = n - 1 → Tr.Prim n (wy L) (tree L m).1 ((tree L (n - 1)).2.2 - (tree L m).2.2)
  | 0, m, hm => by
    obtain ⟨j1, j2, _⟩ := tree_jn hn h1 m (by omega)
    obtain rfl : m = n - 1 := by omega
    rw [Int.sub_self]
    exact Tr.Prim.done fun u hu => j1.full (by omega) hu
  | j + 1, m, hm => by
    obtain ⟨j1, j2, _⟩ := tree_jn hn h1 m (by omega)
    obtain ⟨k, i, hb, hk, hki, hi, hii⟩ := best_some L j1 (by omega)
    have e := tree_step (m := m) (I := (tree L m).1) (up := (tree L m).2.1) (s := (tree L m).2.2) hn rfl hb
    have ih := tree_prim hn h1 j (m + 1) (by omega)
    have e2 : (tree L (n - 1)).2.2 - (tree L m).2.2 = wy L k i + ((tree L (n - 1)).2.2 - (tree L (m + 1)).2.2) := by rw [show (tree L (m + 1)).2.2 = (tree L m).2.2 + wy L k i by rw [e]]; omega
    rw [e2]
    refine Tr.Prim.more hk hki hii (fun u hu hu' x hx => best_least hb hu hu' (j1.lt x hx) hx) (fun x => ?_) ih
    rw [show (tree L (m + 1)).1 = (tree L m).1 ++ [k] by rw [e]]
    simp only [List.mem_append, List.mem_singleton]
    exact Or.comm
/-- The links of a way. -/
def pe : List Nat → List (Nat × Nat)
  | [] => []
  | [_] => []
  | x :: y :: l => (x, y) :: pe (y :: l)
theorem pe_mem : ∀ (b : List Nat) {e : Nat × Nat}, e ∈ pe b → e.1 ∈ b ∧ e.2 ∈ b
  | [], _, h => by simp [pe] at h
  | [_], _, h => by simp [pe] at h
  | x :: y :: l, e, h => by
    rcases List.mem_cons.1 h with rfl | h
    · simp
    · have := pe_mem (y :: l) h
      exact ⟨List.mem_cons.2 (Or.inr this.1), List.mem_cons.2 (Or.inr this.2)⟩
theorem pe_le {L : List (Int × Int)} (ha : allS L = true) (z : Nat) : ∀ (l : List Nat) (x : Nat), Tr.wE (wy L) (pe (x :: l)) ≤ Tr.way (wy L) x l z
  | [], x => by
    simp only [pe, Tr.wE, Tr.way]
    exact (way_bd (spot_any' ha x) (spot_any' ha z)).1
  | y :: l, x => by
    have := pe_le ha z l y
    simp only [pe, Tr.wE, Tr.way]
    omega
theorem pe_conn {E : List (Nat × Nat)} {S : List Nat} : ∀ (l : List Nat) (x : Nat), (∀ e ∈ pe (x :: l), e ∈ E) → Tr.Conn E S x → ∀ u ∈ x :: l, Tr.Conn E S u
  | [], x, _, hx, u, hu => by simp at hu; subst hu; exact hx
  | y :: l, x, hE, hx, u, hu => by
    have hy : Tr.Conn E S y := Tr.Conn.step (Or.inr (hE (x, y) (by simp [pe]))) hx
    rcases List.mem_cons.1 hu with rfl | hu
    · exact hx
    · exact pe_conn l y (fun e he => hE e (by simp [pe, he])) hy u hu
/-- No round that begins with the first is shorter than the tree. -/
theorem tree_tour {L : List (Int × Int)} {n : Nat} {l : List Nat} (hn : L.length = n) (h1 : 1 ≤ n) (ha : allS L = true) (h : Bg n 0 (0 :: l)) : (tree L (n - 1)).2.2 ≤ costN L (0 :: l) := by
  have hp := tree_prim hn h1 (n - 1) 0 (by omega)
  have e0 : (tree L 0).2.2 = 0 := rfl
  have e1 : (tree L 0).1 = [0] := rfl
  rw [e0, e1, Int.sub_zero] at hp
  have hle : (tree L (n - 1)).2.2 ≤ Tr.wE (wy L) (pe (0 :: l)) := hp.least (w := wy L) (fun a b => way_turn _ _) (fun a b => (way_bd (spot_any' ha a) (spot_any' ha b)).1) (E := pe (0 :: l)) (fun e he => ⟨h.lt _ (pe_mem _ he).1, h.lt _ (pe_mem _ he).2⟩) (fun u hu => pe_conn l 0 (fun _ h => h) (Tr.Conn.base (by simp)) u (bg_all h hu))
  have h2 := pe_le ha 0 l 0
  have h3 : costN L (0 :: l) = Tr.way (wy L) 0 l 0 := tour_way L 0 l
  omega
theorem bo_pre (L : List (Int × Int)) (n : Nat) : ∀ (f : Nat) {b : List Nat}, Bg n f b → ∃ r, bo L n f b = b ++ r
  | 0, b, _ => ⟨[], by simp [bo]⟩
  | f + 1, b, h => by
    obtain ⟨y, hy, hm⟩ := fb_some (costN L) ((outs b n).map fun k => bo L n f (b ++ [k])) none (Or.inr (by simp [outs_ne h]))
    have ey : bo L n (f + 1) b = y := by
      show (fb (costN L) none ((outs b n).map fun k => bo L n f (b ++ [k]))).getD [] = y
      rw [hy]; rfl
    rcases hm with hm | hm
    · cases hm
    · obtain ⟨k, hk, rfl⟩ := List.mem_map.1 hm
      obtain ⟨r, hr⟩ := bo_pre L n f (h.add (mem_outs hk).1 (mem_outs hk).2)
      exact ⟨k :: r, by rw [ey, hr]; simp⟩
/-- What the law asks of the rounds. -/
theorem tours_facts {L : List (Int × Int)} {n : Nat} (hn : L.length = n) (h : stopsB L = true) :
    Od.ordB (btL L) n = true ∧ Od.ordB (ttL L) n = true ∧ btI L = tour L (btL L) ∧ ttI L = tour L (ttL L) ∧ (∀ os, Od.ordB os n = true → btI L ≤ tour L os) ∧ ttI L ≤ 2 * toI L ∧ toI L ≤ btI L ∧ (btL L).getD 0 0 = 0 ∧ (ttL L).getD 0 0 = 0 := by
  have hl := stops_len h
  rw [hn] at hl
  have ha := stops_all h
  obtain ⟨f1, f2, f3, f4, _⟩ := tree_facts hn h
  have e1 : toL L = (tree L (n - 1)).2.1 := by unfold toL; rw [h, hn]; rfl
  have e2 : toI L = (tree L (n - 1)).2.2 := by unfold toI; rw [h, hn]; rfl
  have hr := tree_rnk (I := (tree L (n - 1)).1) (up := (tree L (n - 1)).2.1) (s := (tree L (n - 1)).2.2) hn hl.1 rfl
  rw [← e1] at hr
  have bg := wk_bg hr hl.1 f3
  have et : ttL L = csN (wk (toL L) n 0) := by unfold ttL; rw [if_pos h, hn, ← e1]; rfl
  have eti : ttI L = tour L (ttL L) := by unfold ttI; rw [if_pos h]
  have eb : btL L = csN (btN L) := by unfold btL; rw [if_pos h]; rfl
  have ebi : btI L = tour L (btL L) := by unfold btI; rw [if_pos h]
  have bb : Bg n 0 (btN L) := by unfold btN; rw [hn]; exact (bo_all L n (n - 1) (bg_zero hl.1)).2
  obtain ⟨r, hbr⟩ := bo_pre L n (n - 1) (bg_zero hl.1)
  have hbr' : btN L = 0 :: r := by unfold btN; rw [hn, hbr]; rfl
  obtain ⟨q, hq⟩ : ∃ q, wk (toL L) n 0 = 0 :: q := by
    obtain ⟨m, rfl⟩ : ∃ m, n = m + 1 := ⟨n - 1, by omega⟩
    exact ⟨_, rfl⟩
  refine ⟨by rw [eb]; exact bg_ord bb, by rw [et]; exact bg_ord bg, ebi, eti, fun os ho => ?_, ?_, ?_, by rw [eb, hbr']; rfl, by rw [et, hq]; rfl⟩
  · obtain ⟨b, rfl, hb⟩ := ord_bg ho
    rw [ebi, eb]
    exact best_le hn hl.1 hb
  · have hs := ts_sum L (toL L) n 0
    rw [sum_perm (bg_perm bg), ← ups_range, f4] at hs
    have h0 : upC L (toL L) 0 = 0 := by unfold upC; rw [f2]; rfl
    have hw := wk_le ha (toL L) n 0 0 [] 0
    rw [List.append_nil, hq] at hw
    have hz : wy L 0 0 = 0 := way_self _
    simp only [Tr.way, hz] at hw
    rw [eti, et, hq, tour_way]
    omega
  · rw [e2, ebi, eb, hbr']
    exact tree_tour hn hl.1 ha (by rw [← hbr']; exact bb)
end Go.Proofs.Ytnfcedccjfnceaa.Rt
namespace Go.Proofs.Ytnfcedccjfnceaa.Fr
def g (a b : Int) : Int := (Int.gcd a b : Int)
def mkN (n d : Int) : Int := if d < 0 then (-n).tdiv (g n d) else n.tdiv (g n d)
def mkD (n d : Int) : Int := if d < 0 then (-d).tdiv (g n d) else d.tdiv (g n d)
def partB (n : Int) : Bool := decide (-1000000000 ≤ n ∧ n ≤ 1000000000)
def goodB (n d : Int) : Bool := decide (-1000000000 ≤ n ∧ n ≤ 1000000000 ∧ 1 ≤ d ∧ d ≤ 1000000000 ∧ g n d = 1)
def fitN (n d : Int) : Int := if goodB n d = true then n else 0
def fitD (n d : Int) : Int := if goodB n d = true then d else 0

theorem g_nonneg (a b : Int) : 0 ≤ g a b := by unfold g; omega
theorem g_pos (a b : Int) (h : b ≠ 0) : 0 < g a b := by
  unfold g
  have : 0 < Int.gcd a b := Int.gcd_pos_of_ne_zero_right a h
  omega
theorem g_step (a b : Int) : g b (a.tmod b) = g a b := by
  unfold g Int.gcd
  rw [Int.natAbs_tmod, Nat.gcd_comm b.natAbs, ← Nat.gcd_rec, Nat.gcd_comm]
theorem g_zero (a : Int) : g a 0 = a.natAbs := by unfold g; simp
theorem g_abs (a b : Int) : g a.natAbs b.natAbs = g a b := by unfold g Int.gcd; simp
theorem g_neg (a b : Int) : g (-a) (-b) = g a b := by unfold g Int.gcd; simp
theorem g_negl (a b : Int) : g (-a) b = g a b := by unfold g Int.gcd; simp
theorem g_negr (a b : Int) : g a (-b) = g a b := by unfold g Int.gcd; simp
theorem g_dvdl (a b : Int) : g a b ∣ a := Int.gcd_dvd_left a b
theorem g_dvdr (a b : Int) : g a b ∣ b := Int.gcd_dvd_right a b
theorem g_le (a b : Int) (h : b ≠ 0) : g a b ≤ b.natAbs := by
  have h1 : 0 < (b.natAbs : Int) := by omega
  have h2 : g a b ∣ (b.natAbs : Int) := by rw [Int.dvd_natAbs]; exact g_dvdr a b
  exact Int.le_of_dvd h1 h2
theorem tmod_lt (a b : Int) (h : b ≠ 0) : (a.tmod b).natAbs < b.natAbs := by
  rw [Int.natAbs_tmod]; exact Nat.mod_lt _ (by omega)
theorem tdiv_abs (a b : Int) : (a.tdiv b).natAbs ≤ a.natAbs := by
  rw [Int.natAbs_tdiv]; exact Nat.div_le_self _ _
theorem mk_iff (n d : Int) (h : 1 ≤ d) : (n = mkN n d ∧ d = mkD n d) ↔ g n d = 1 := by
  have hn : ¬ d < 0 := by omega
  unfold mkN mkD
  rw [if_neg hn, if_neg hn]
  constructor
  · rintro ⟨_, h2⟩
    obtain ⟨k, hk⟩ := g_dvdr n d
    have hp := g_pos n d (by omega)
    generalize g n d = G at *
    have e : d.tdiv G = k := by rw [hk]; exact Int.mul_tdiv_cancel_left k (by omega)
    rw [e] at h2
    subst h2
    exact Int.eq_of_mul_eq_mul_right (a := d) (by omega) (by omega)
  · intro e; rw [e]; simp
theorem mkN_abs (n d : Int) : (mkN n d).natAbs ≤ n.natAbs := by
  unfold mkN; split
  · have := tdiv_abs (-n) (g n d); omega
  · exact tdiv_abs _ _
theorem mkD_abs (n d : Int) : (mkD n d).natAbs ≤ d.natAbs := by
  unfold mkD; split
  · have := tdiv_abs (-d) (g n d); omega
  · exact tdiv_abs _ _
theorem goodB_iff (n d : Int) : goodB n d = true ↔ (-1000000000 ≤ n ∧ n ≤ 1000000000 ∧ 1 ≤ d ∧ d ≤ 1000000000 ∧ g n d = 1) := by unfold goodB; simp
theorem good_of_mk (n d : Int) (h1 : partB n = true) (h2 : partB d = true) (h3 : 0 < d) : goodB n d = ((n == mkN n d) && (d == mkD n d)) := by
  have := mk_iff n d (by omega)
  unfold partB at h1 h2
  simp at h1 h2
  rw [Bool.eq_iff_iff, goodB_iff]
  simp only [Bool.and_eq_true, beq_iff_eq, this]
  omega
theorem good_n1 (n d : Int) (h : partB n = false) : goodB n d = false := by
  unfold partB at h; unfold goodB; simp at h ⊢; omega
theorem good_n2 (n d : Int) (h : partB d = false) : goodB n d = false := by
  unfold partB at h; unfold goodB; simp at h ⊢; omega
theorem good_n3 (n d : Int) (h : d ≤ 0) : goodB n d = false := by
  unfold goodB; simp; omega
theorem mul_bd (x y : Int) (hx0 : -1000000000 ≤ x) (hx1 : x ≤ 1000000000) (hy0 : -1000000000 ≤ y) (hy1 : y ≤ 1000000000) : -1000000000000000000 ≤ x * y ∧ x * y ≤ 1000000000000000000 := by
  have h : (x * y).natAbs ≤ 1000000000 * 1000000000 := by rw [Int.natAbs_mul]; exact Nat.mul_le_mul (by omega) (by omega)
  omega
theorem good_bd (n d : Int) (h : goodB n d = true) : -1000000000 ≤ n ∧ n ≤ 1000000000 ∧ 1 ≤ d ∧ d ≤ 1000000000 := by
  rw [goodB_iff] at h; omega
theorem den_pos (d1 d2 : Int) (h1 : 1 ≤ d1) (h2 : 1 ≤ d2) : 1 ≤ d1 * d2 := by
  have : 0 < d1 * d2 := Int.mul_pos (by omega) (by omega)
  omega
def addN (n1 d1 n2 d2 : Int) : Int := if goodB n1 d1 && goodB n2 d2 then fitN (mkN (n1 * d2 + n2 * d1) (d1 * d2)) (mkD (n1 * d2 + n2 * d1) (d1 * d2)) else 0
def addD (n1 d1 n2 d2 : Int) : Int := if goodB n1 d1 && goodB n2 d2 then fitD (mkN (n1 * d2 + n2 * d1) (d1 * d2)) (mkD (n1 * d2 + n2 * d1) (d1 * d2)) else 0
def addB (n1 d1 n2 d2 : Int) : Bool := goodB n1 d1 && goodB n2 d2 && goodB (mkN (n1 * d2 + n2 * d1) (d1 * d2)) (mkD (n1 * d2 + n2 * d1) (d1 * d2))
def mulN (n1 d1 n2 d2 : Int) : Int := if goodB n1 d1 && goodB n2 d2 then fitN (mkN (n1 * n2) (d1 * d2)) (mkD (n1 * n2) (d1 * d2)) else 0
def mulD (n1 d1 n2 d2 : Int) : Int := if goodB n1 d1 && goodB n2 d2 then fitD (mkN (n1 * n2) (d1 * d2)) (mkD (n1 * n2) (d1 * d2)) else 0
def mulB (n1 d1 n2 d2 : Int) : Bool := goodB n1 d1 && goodB n2 d2 && goodB (mkN (n1 * n2) (d1 * d2)) (mkD (n1 * n2) (d1 * d2))
def divN (n1 d1 n2 d2 : Int) : Int := if goodB n1 d1 && goodB n2 d2 && n2 != 0 then fitN (mkN (n1 * d2) (d1 * n2)) (mkD (n1 * d2) (d1 * n2)) else 0
def divD (n1 d1 n2 d2 : Int) : Int := if goodB n1 d1 && goodB n2 d2 && n2 != 0 then fitD (mkN (n1 * d2) (d1 * n2)) (mkD (n1 * d2) (d1 * n2)) else 0
def divB (n1 d1 n2 d2 : Int) : Bool := goodB n1 d1 && goodB n2 d2 && n2 != 0 && goodB (mkN (n1 * d2) (d1 * n2)) (mkD (n1 * d2) (d1 * n2))
def flr (n d : Int) : Int := if n.tmod d < 0 then n.tdiv d - 1 else n.tdiv d
def lessB (n1 d1 n2 d2 : Int) : Bool := decide (n1 * d2 < n2 * d1)
/-- The sum from the front on, as far as each sum on the way is good. -/
def sumL : List (Int × Int) → Int → Int → Option (Int × Int)
  | [], n, d => some (n, d)
  | x :: r, n, d => if addB n d x.1 x.2 = true then sumL r (addN n d x.1 x.2) (addD n d x.1 x.2) else none
def sumN (l : List (Int × Int)) : Int := if l.length ≤ 50 then ((sumL l 0 1).getD (0, 0)).1 else 0
def sumD (l : List (Int × Int)) : Int := if l.length ≤ 50 then ((sumL l 0 1).getD (0, 0)).2 else 0
def sumB (l : List (Int × Int)) : Bool := decide (l.length ≤ 50) && (sumL l 0 1).isSome
theorem drop_get (xs : List (Int × Int)) (k : Nat) (h : k < xs.length) : xs.drop k = xs.getD k (0, 0) :: xs.drop (k + 1) := by
  rw [List.drop_eq_getElem_cons h, List.getD_eq_getElem?_getD, List.getElem?_eq_getElem h]; rfl
theorem sumL_step (xs : List (Int × Int)) (k : Nat) (n d : Int) (x : Int × Int) (h : k < xs.length) (hx : xs.getD k (0, 0) = x) (hb : addB n d x.1 x.2 = true) : sumL (xs.drop k) n d = sumL (xs.drop (k + 1)) (addN n d x.1 x.2) (addD n d x.1 x.2) := by
  rw [drop_get xs k h, hx]; simp [sumL, hb]
theorem sumL_stop (xs : List (Int × Int)) (k : Nat) (n d : Int) (x : Int × Int) (h : k < xs.length) (hx : xs.getD k (0, 0) = x) (hb : addB n d x.1 x.2 = false) : sumL (xs.drop k) n d = none := by
  rw [drop_get xs k h, hx]; simp [sumL, hb]
theorem sum_none (xs : List (Int × Int)) (h : sumL xs 0 1 = none) : sumN xs = 0 ∧ sumD xs = 0 ∧ sumB xs = false := by
  unfold sumN sumD sumB; rw [h]; simp
theorem sum_some (xs : List (Int × Int)) (hl : xs.length ≤ 50) (n d : Int) (h : sumL xs 0 1 = some (n, d)) : sumN xs = n ∧ sumD xs = d ∧ sumB xs = true := by
  unfold sumN sumD sumB; rw [h]; simp [hl]
theorem sum_long (xs : List (Int × Int)) (hl : 50 < xs.length) : sumN xs = 0 ∧ sumD xs = 0 ∧ sumB xs = false := by
  have : ¬ xs.length ≤ 50 := by omega
  unfold sumN sumD sumB; simp [this]
theorem cop_dvd (a b c : Int) (h : Int.gcd a b = 1) (hd : a ∣ b * c) : a ∣ c := by
  rw [← Int.natAbs_dvd_natAbs] at hd ⊢
  rw [Int.natAbs_mul] at hd
  exact Nat.Coprime.dvd_of_dvd_mul_left (show Nat.Coprime a.natAbs b.natAbs from h) hd
theorem frac_uniq (n1 d1 n2 d2 : Int) (h1 : goodB n1 d1 = true) (h2 : goodB n2 d2 = true) (h : n1 * d2 = n2 * d1) : n1 = n2 ∧ d1 = d2 := by
  rw [goodB_iff] at h1 h2
  obtain ⟨_, _, p1, _, g1⟩ := h1
  obtain ⟨_, _, p2, _, g2⟩ := h2
  have c1 : Int.gcd d1 n1 = 1 := by unfold g at g1; rw [Int.gcd_comm]; omega
  have c2 : Int.gcd d2 n2 = 1 := by unfold g at g2; rw [Int.gcd_comm]; omega
  have e1 : d1 ∣ d2 := by
    have : d1 ∣ n1 * d2 := by rw [h]; exact Int.dvd_mul_left _ _
    exact cop_dvd d1 n1 d2 c1 this
  have e2 : d2 ∣ d1 := by
    have : d2 ∣ n2 * d1 := by rw [← h]; exact Int.dvd_mul_left _ _
    exact cop_dvd d2 n2 d1 c2 this
  have ed : d1 = d2 := Int.dvd_antisymm (by omega) (by omega) e1 e2
  subst ed
  exact ⟨Int.eq_of_mul_eq_mul_right (by omega) h, rfl⟩
theorem less_cases (n1 d1 n2 d2 : Int) (h1 : goodB n1 d1 = true) (h2 : goodB n2 d2 = true) :
    (lessB n1 d1 n2 d2 = true ∧ lessB n2 d2 n1 d1 = false) ∨ (lessB n1 d1 n2 d2 = false ∧ lessB n2 d2 n1 d1 = true) ∨ (lessB n1 d1 n2 d2 = false ∧ lessB n2 d2 n1 d1 = false ∧ n1 = n2 ∧ d1 = d2) := by
  unfold lessB
  by_cases a : n1 * d2 < n2 * d1
  · left; simp [a]; omega
  · by_cases b : n2 * d1 < n1 * d2
    · right; left; simp [b]; omega
    · right; right
      have := frac_uniq n1 d1 n2 d2 h1 h2 (by omega)
      refine ⟨by simp; omega, by simp; omega, this.1, this.2⟩
def subN (n1 d1 n2 d2 : Int) : Int := if goodB n1 d1 && goodB n2 d2 then fitN (mkN (n1 * d2 - n2 * d1) (d1 * d2)) (mkD (n1 * d2 - n2 * d1) (d1 * d2)) else 0
def subD (n1 d1 n2 d2 : Int) : Int := if goodB n1 d1 && goodB n2 d2 then fitD (mkN (n1 * d2 - n2 * d1) (d1 * d2)) (mkD (n1 * d2 - n2 * d1) (d1 * d2)) else 0
def subB (n1 d1 n2 d2 : Int) : Bool := goodB n1 d1 && goodB n2 d2 && goodB (mkN (n1 * d2 - n2 * d1) (d1 * d2)) (mkD (n1 * d2 - n2 * d1) (d1 * d2))
theorem mkN_neg_iff (n d : Int) (hd : 0 < d) : mkN n d < 0 ↔ n < 0 := by
  have hg := g_pos n d (by omega)
  unfold mkN
  rw [if_neg (by omega)]
  obtain ⟨k, hk⟩ := g_dvdl n d
  generalize g n d = G at *
  have e : n.tdiv G = k := by rw [hk]; exact Int.mul_tdiv_cancel_left k (by omega)
  rw [e, hk]
  constructor
  · intro h; exact Int.mul_neg_of_pos_of_neg hg h
  · intro h
    rcases Int.lt_or_le k 0 with h' | h'
    · exact h'
    · have := Int.mul_nonneg (by omega : 0 ≤ G) h'; omega
theorem sub_less (n1 d1 n2 d2 : Int) (h1 : goodB n1 d1 = true) (h2 : goodB n2 d2 = true) (h : subB n1 d1 n2 d2 = true) : lessB n1 d1 n2 d2 = decide (subN n1 d1 n2 d2 < 0) := by
  have p1 := good_bd n1 d1 h1
  have p2 := good_bd n2 d2 h2
  unfold subB at h
  rw [h1, h2] at h
  simp at h
  unfold subN fitN
  rw [h1, h2]
  simp only [Bool.and_self, if_true, h]
  have := mkN_neg_iff (n1 * d2 - n2 * d1) (d1 * d2) (by have := den_pos d1 d2 p1.2.2.1 p2.2.2.1; omega)
  unfold lessB
  rw [Bool.eq_iff_iff]
  simp only [decide_eq_true_eq, this]
  omega
theorem flr_spec (n d : Int) (hd : 1 ≤ d) : flr n d * d ≤ n ∧ n < (flr n d + 1) * d := by
  have e := Int.tmod_add_mul_tdiv n d
  have hl := tmod_lt n d (by omega)
  unfold flr
  split
  · rename_i h
    constructor
    · have : (n.tdiv d - 1) * d = d * n.tdiv d - d := by rw [Int.sub_mul, Int.one_mul, Int.mul_comm]
      rw [this]; omega
    · have : (n.tdiv d - 1 + 1) * d = d * n.tdiv d := by rw [Int.sub_add_cancel, Int.mul_comm]
      rw [this]; omega
  · rename_i h
    constructor
    · rw [Int.mul_comm]; omega
    · have : (n.tdiv d + 1) * d = d * n.tdiv d + d := by rw [Int.add_mul, Int.one_mul, Int.mul_comm]
      rw [this]; omega
theorem sumL_snoc (ys : List (Int × Int)) (x : Int × Int) : ∀ n d, sumL (ys ++ [x]) n d = (sumL ys n d).bind fun p => if addB p.1 p.2 x.1 x.2 = true then some (addN p.1 p.2 x.1 x.2, addD p.1 p.2 x.1 x.2) else none := by
  induction ys with
  | nil => intro n d; simp [sumL]
  | cons y r ih =>
    intro n d
    simp only [List.cons_append, sumL]
    split
    · exact ih _ _
    · rfl
theorem sum_back (ys : List (Int × Int)) (x : Int × Int) (h : sumB (ys ++ [x]) = true) : sumB ys = true ∧ addB (sumN ys) (sumD ys) x.1 x.2 = true ∧ addN (sumN ys) (sumD ys) x.1 x.2 = sumN (ys ++ [x]) ∧ addD (sumN ys) (sumD ys) x.1 x.2 = sumD (ys ++ [x]) := by
  unfold sumB at h
  simp only [List.length_append, List.length_cons, List.length_nil, Bool.and_eq_true, decide_eq_true_eq] at h
  obtain ⟨hl, hs⟩ := h
  rw [sumL_snoc] at hs
  cases e : sumL ys 0 1 with
  | none => rw [e] at hs; simp at hs
  | some p =>
    rw [e] at hs
    simp only [Option.bind_some] at hs
    have hadd : addB p.1 p.2 x.1 x.2 = true := by
      cases hh : addB p.1 p.2 x.1 x.2
      · rw [hh] at hs; simp at hs
      · rfl
    have s1 := sum_some ys (by omega) p.1 p.2 e
    have e2 : sumL (ys ++ [x]) 0 1 = some (addN p.1 p.2 x.1 x.2, addD p.1 p.2 x.1 x.2) := by rw [sumL_snoc, e]; simp [hadd]
    have s2 := sum_some (ys ++ [x]) (by simp; omega) _ _ e2
    rw [s1.1, s1.2.1, s2.1, s2.2.1]
    exact ⟨s1.2.2, hadd, rfl, rfl⟩
end Go.Proofs.Ytnfcedccjfnceaa.Fr
namespace Go.Proofs.Ytnfcedccjfnceaa
open Go.RowKit

theorem World.drewN_drew (w : World) (k : Nat) : (w.drewN k).drew = w.drewN (k + 1) := rfl
theorem hide {p : Prop} (h : p) : Hid p := h
theorem ret_bool {a b : Bool} (h : a = b) : Ending.returned (.bool a) = .returned (.bool b) := by rw [h]
theorem ret_int {k : IntKind} {a b : Int} (h : a = b) : Ending.returned (.int k a) = .returned (.int k b) := by rw [h]

theorem wrap_id (a : Int) (h0 : -9000000000000000000 ≤ a) (h1 : a ≤ 9000000000000000000) : wrap64 a = a := by unfold wrap64; omega
theorem wrap_id' (a : Int) (h0 : -9223372036854775808 ≤ a) (h1 : a ≤ 9223372036854775807) : wrap64 a = a := by unfold wrap64; omega
theorem wrap_mul (x y : Int) (hx0 : -1000000000 ≤ x) (hx1 : x ≤ 1000000000) (hy0 : -1000000000 ≤ y) (hy1 : y ≤ 1000000000) : wrap64 (x * y) = x * y := by
  have := Fr.mul_bd x y hx0 hx1 hy0 hy1
  exact wrap_id _ (by omega) (by omega)
theorem mkN_neg (n d : Int) (h0 : -4000000000000000000 ≤ n) (h1 : n ≤ 4000000000000000000) (hd : d < 0) : wrap64 (-n.tdiv (Fr.g (-n) (-d))) = Fr.mkN n d := by
  have := Fr.tdiv_abs n (Fr.g (-n) (-d))
  rw [wrap_id _ (by omega) (by omega)]
  unfold Fr.mkN; rw [if_pos hd, Fr.g_neg, Int.neg_tdiv]
theorem mkD_neg (n d : Int) (h0 : -4000000000000000000 ≤ d) (hd : d < 0) : wrap64 (-d.tdiv (Fr.g (-n) (-d))) = Fr.mkD n d := by
  have := Fr.tdiv_abs d (Fr.g (-n) (-d))
  rw [wrap_id _ (by omega) (by omega)]
  unfold Fr.mkD; rw [if_pos hd, Fr.g_neg, Int.neg_tdiv]
theorem mkN_pos (n d : Int) (hd : 0 < d) : n.tdiv (Fr.g n d) = Fr.mkN n d := by
  unfold Fr.mkN; rw [if_neg (by omega)]
theorem wrap_mkN (n d : Int) (h0 : -4000000000000000000 ≤ n) (h1 : n ≤ 4000000000000000000) : wrap64 (Fr.mkN n d) = Fr.mkN n d := by
  have := Fr.mkN_abs n d
  exact wrap_id _ (by omega) (by omega)
theorem mkD_pos (n d : Int) (hd : 0 < d) : d / Fr.g n d = Fr.mkD n d := by
  unfold Fr.mkD; rw [if_neg (by omega), Int.tdiv_eq_ediv_of_nonneg (by omega)]

end Go.Proofs.Ytnfcedccjfnceaa
namespace Go.Proofs.Ytnfcedccjfnceaa
open Go.RowKit

theorem bcell {W w1 : World} (hb : Below W.heap.size W w1) : (∀ b o, b < W.heap.size → w1.cell? ⟨b, o, none⟩ = W.cell? ⟨b, o, none⟩) ∧ (∀ b o, b < W.heap.size → w1.frozen? ⟨b, o, none⟩ = W.frozen? ⟨b, o, none⟩) :=
  ⟨fun b o h => hb.cell (p := ⟨b, o, none⟩) h, fun b o h => hb.frozen (p := ⟨b, o, none⟩) h⟩

end Go.Proofs.Ytnfcedccjfnceaa
namespace Go.Proofs.Ytnfcedccjfnceaa
open Go.RowKit

theorem lt3 {a b : Nat} (h : a + 1 + 1 < b) : a < b ∧ a + 1 < b := ⟨by omega, by omega⟩
theorem fracs_no (P : Program) (f : FuncId) (args : Array Value) (w : World) (a b : Int) (c : Bool) (ha : a = 0) (hb : b = 0) (hc : c = false)
    (h : Calls P f args w fun e w' => e = .returned (.tuple #[.agg #[.int .i64 0, .int .i64 0], .bool false]) ∧ Below w.heap.size w w') :
    Calls P f args w fun e w' => e = .returned (.tuple #[.agg #[.int .i64 a, .int .i64 b], .bool c]) ∧ Below w.heap.size w w' := by
  subst ha; subst hb; subst hc; exact h



end Go.Proofs.Ytnfcedccjfnceaa
namespace Go.Proofs.Ytnfcedccjfnceaa
open Go.RowKit

set_option maxRecDepth 100000 in
set_option maxHeartbeats 400000 in
theorem in_yes {n lo hi : Int} {w : World} (h1 : lo ≤ n) (h2 : n ≤ hi) :
    Calls Try.prog 34 #[.int .i64 n, .int .i64 lo, .int .i64 hi] w fun e w' => e = .returned (.bool true) ∧ w' = w := by
  go_enter Try.func34, Try.ntmps34
  go_wp2
  go_ret
  exact ⟨rfl, rfl⟩

set_option maxRecDepth 100000 in
set_option maxHeartbeats 400000 in
theorem in_no {n lo hi : Int} {w : World} (h : n < lo ∨ hi < n) :
    Calls Try.prog 34 #[.int .i64 n, .int .i64 lo, .int .i64 hi] w fun e w' => e = .returned (.bool false) ∧ w' = w := by
  by_cases h1 : lo ≤ n
  · have h2 : ¬ n ≤ hi := by omega
    clear h
    go_enter Try.func34, Try.ntmps34
    go_wp2
    go_ret
    exact ⟨rfl, rfl⟩
  · clear h
    go_enter Try.func34, Try.ntmps34
    go_wp2
    go_ret
    exact ⟨rfl, rfl⟩

set_option maxRecDepth 100000 in
set_option maxHeartbeats 400000 in
theorem abs_any (a : Int) (w : World) (h0 : -4000000000000000000 ≤ a) (h1 : a ≤ 4000000000000000000) :
    Calls Try.prog 59 #[.int .i64 a] w fun e w' => e = .returned (.int .i64 (a.natAbs : Int)) ∧ w' = w := by
  by_cases h : a < 0
  · go_enter Try.func59, Try.ntmps59
    go_wp2
    go_ret
    exact ⟨ret_int (by omega), rfl⟩
  · go_enter Try.func59, Try.ntmps59
    go_wp2
    go_ret
    exact ⟨ret_int (by omega), rfl⟩

end Go.Proofs.Ytnfcedccjfnceaa
namespace Go.Proofs.Ytnfcedccjfnceaa
open Go.RowKit

end Go.Proofs.Ytnfcedccjfnceaa
namespace Go.Proofs.Ytnfcedccjfnceaa
open Go.RowKit


theorem lt_of_some {W : World} {b o : Nat} (h : (W.cell? ⟨b, o, none⟩).isSome = true) : b < W.heap.size := by
  apply Nat.lt_of_not_le
  intro hle
  have : W.heap[b]? = none := by simp; omega
  simp [World.cell?, this] at h
theorem bsome {W w1 : World} (hb : Below W.heap.size W w1) : (∀ b o, (W.cell? ⟨b, o, none⟩).isSome = true → w1.cell? ⟨b, o, none⟩ = W.cell? ⟨b, o, none⟩) ∧ (∀ b o, (W.cell? ⟨b, o, none⟩).isSome = true → w1.frozen? ⟨b, o, none⟩ = W.frozen? ⟨b, o, none⟩) :=
  ⟨fun b o h => hb.cell (p := ⟨b, o, none⟩) (lt_of_some h), fun b o h => hb.frozen (p := ⟨b, o, none⟩) (lt_of_some h)⟩
theorem new_var {W w1 : World} (hb : Below W.heap.size W w1) (b : Nat) (v0 v1 : Value) (h0 : W.cell? ⟨b, 0, none⟩ = some v0) (h1 : W.cell? ⟨b, 1, none⟩ = some v1) (h2 : W.frozen? ⟨b, 0, none⟩ = false) (h3 : W.frozen? ⟨b, 1, none⟩ = false) :
    w1.cell? ⟨b, 0, none⟩ = some v0 ∧ w1.cell? ⟨b, 1, none⟩ = some v1 ∧ w1.frozen? ⟨b, 0, none⟩ = false ∧ w1.frozen? ⟨b, 1, none⟩ = false := by
  obtain ⟨hc, hf⟩ := bsome hb
  exact ⟨(hc _ _ (by rw [h0]; rfl)).trans h0, (hc _ _ (by rw [h1]; rfl)).trans h1, (hf _ _ (by rw [h0]; rfl)).trans h2, (hf _ _ (by rw [h1]; rfl)).trans h3⟩
theorem new_first {w w1 : World} {a b : Obj} {v0 v1 : Value} {t : TypeId} (hb : Below (((w.alloc a).alloc b).alloc (.cells #[v0, v1] t)).drew.heap.size (((w.alloc a).alloc b).alloc (.cells #[v0, v1] t)).drew w1) :
    w1.cell? ⟨w.heap.size + 1 + 1, 0, none⟩ = some v0 ∧ w1.cell? ⟨w.heap.size + 1 + 1, 1, none⟩ = some v1 ∧ w1.frozen? ⟨w.heap.size + 1 + 1, 0, none⟩ = false ∧ w1.frozen? ⟨w.heap.size + 1 + 1, 1, none⟩ = false :=
  new_var hb _ v0 v1 (by simp [go_sem]) (by simp [go_sem]) (by simp [go_sem]) (by simp [go_sem])
theorem last_cell {W w1 : World} (hb : Below W.heap.size W w1) (o : Nat) : (W.cell? ⟨W.heap.size - 1, o, none⟩).isSome = true → w1.cell? ⟨W.heap.size - 1, o, none⟩ = W.cell? ⟨W.heap.size - 1, o, none⟩ := (bsome hb).1 _ _
theorem last_frozen {W w1 : World} (hb : Below W.heap.size W w1) (o : Nat) : (W.cell? ⟨W.heap.size - 1, o, none⟩).isSome = true → w1.frozen? ⟨W.heap.size - 1, o, none⟩ = W.frozen? ⟨W.heap.size - 1, o, none⟩ := (bsome hb).2 _ _
theorem set1 {W : World} {b i : Nat} {x : Value} (h : (W.cell? ⟨b, i, none⟩).isSome = true) : (W.setCell ⟨b, i, none⟩ x).cell? ⟨b, i, none⟩ = some x := by
  obtain ⟨v, hv⟩ := Option.isSome_iff_exists.1 h
  exact World.cell?_setCell_same _ _ _ hv
theorem set2 {W : World} {b : Nat} {x y : Value} (h0 : (W.cell? ⟨b, 0, none⟩).isSome = true) (h1 : (W.cell? ⟨b, 1, none⟩).isSome = true) :
    ((W.setCell ⟨b, 0, none⟩ x).setCell ⟨b, 1, none⟩ y).cell? ⟨b, 0, none⟩ = some x ∧ ((W.setCell ⟨b, 0, none⟩ x).setCell ⟨b, 1, none⟩ y).cell? ⟨b, 1, none⟩ = some y ∧ b < ((W.setCell ⟨b, 0, none⟩ x).setCell ⟨b, 1, none⟩ y).heap.size := by
  refine ⟨?_, ?_, ?_⟩
  · rw [World.cell?_setCell_other _ _ _ _ (by simp)]; exact set1 h0
  · exact set1 (by rw [World.cell?_setCell_other _ _ _ _ (by simp)]; exact h1)
  · simpa using lt_of_some h0
theorem held_below {w w1 w2 : World} {n1 d1 n2 d2 : Int}
    (s : w1.cell? ⟨w.heap.size, 0, none⟩ = some (.int .i64 n1) ∧ w1.cell? ⟨w.heap.size, 1, none⟩ = some (.int .i64 d1) ∧ w1.cell? ⟨w.heap.size + 1, 0, none⟩ = some (.int .i64 n2) ∧ w1.cell? ⟨w.heap.size + 1, 1, none⟩ = some (.int .i64 d2) ∧ Below w.heap.size w w1 ∧ w.heap.size + 1 < w1.heap.size)
    (hb : Below w1.heap.size w1 w2) :
    w2.cell? ⟨w.heap.size, 0, none⟩ = some (.int .i64 n1) ∧ w2.cell? ⟨w.heap.size, 1, none⟩ = some (.int .i64 d1) ∧ w2.cell? ⟨w.heap.size + 1, 0, none⟩ = some (.int .i64 n2) ∧ w2.cell? ⟨w.heap.size + 1, 1, none⟩ = some (.int .i64 d2) ∧ Below w.heap.size w w2 ∧ w.heap.size + 1 < w2.heap.size := by
  obtain ⟨s0, s1, s2, s3, s4, s5⟩ := s
  obtain ⟨hc, _⟩ := bcell hb
  exact ⟨(hc _ _ (by omega)).trans s0, (hc _ _ (by omega)).trans s1, (hc _ _ s5).trans s2, (hc _ _ s5).trans s3, s4.trans (hb.mono (by omega)), Nat.lt_of_lt_of_le s5 hb.size⟩
theorem below_alloc_drew (w : World) (o : Obj) : Below w.drew.heap.size w.drew (w.alloc o).drew := (Below.refl _ w.drew).alloc (Nat.le_refl _) o
theorem below_alloc (w : World) (o : Obj) : Below w.heap.size w (w.alloc o) := (Below.refl _ _).alloc (Nat.le_refl _) o
theorem held_start (w : World) (n1 d1 n2 d2 : Int) (t : TypeId) :
    ((w.alloc (.cells #[.int .i64 n1, .int .i64 d1] t)).alloc (.cells #[.int .i64 n2, .int .i64 d2] t)).cell? ⟨w.heap.size, 0, none⟩ = some (.int .i64 n1) ∧ ((w.alloc (.cells #[.int .i64 n1, .int .i64 d1] t)).alloc (.cells #[.int .i64 n2, .int .i64 d2] t)).cell? ⟨w.heap.size, 1, none⟩ = some (.int .i64 d1) ∧ ((w.alloc (.cells #[.int .i64 n1, .int .i64 d1] t)).alloc (.cells #[.int .i64 n2, .int .i64 d2] t)).cell? ⟨w.heap.size + 1, 0, none⟩ = some (.int .i64 n2) ∧ ((w.alloc (.cells #[.int .i64 n1, .int .i64 d1] t)).alloc (.cells #[.int .i64 n2, .int .i64 d2] t)).cell? ⟨w.heap.size + 1, 1, none⟩ = some (.int .i64 d2) ∧ Below w.heap.size w ((w.alloc (.cells #[.int .i64 n1, .int .i64 d1] t)).alloc (.cells #[.int .i64 n2, .int .i64 d2] t)) ∧ w.heap.size + 1 < ((w.alloc (.cells #[.int .i64 n1, .int .i64 d1] t)).alloc (.cells #[.int .i64 n2, .int .i64 d2] t)).heap.size :=
  ⟨by simp, by simp, by simp, by simp, ((Below.refl _ _).alloc (Nat.le_refl _) _).alloc (by simp) _, by simp⟩
theorem held_alloc {w w1 : World} {n1 d1 n2 d2 : Int} {o : Obj}
    (s : w1.cell? ⟨w.heap.size, 0, none⟩ = some (.int .i64 n1) ∧ w1.cell? ⟨w.heap.size, 1, none⟩ = some (.int .i64 d1) ∧ w1.cell? ⟨w.heap.size + 1, 0, none⟩ = some (.int .i64 n2) ∧ w1.cell? ⟨w.heap.size + 1, 1, none⟩ = some (.int .i64 d2) ∧ Below w.heap.size w w1 ∧ w.heap.size + 1 < w1.heap.size) :
    (w1.alloc o).cell? ⟨w.heap.size, 0, none⟩ = some (.int .i64 n1) ∧ (w1.alloc o).cell? ⟨w.heap.size, 1, none⟩ = some (.int .i64 d1) ∧ (w1.alloc o).cell? ⟨w.heap.size + 1, 0, none⟩ = some (.int .i64 n2) ∧ (w1.alloc o).cell? ⟨w.heap.size + 1, 1, none⟩ = some (.int .i64 d2) ∧ Below w.heap.size w (w1.alloc o) ∧ w.heap.size + 1 < (w1.alloc o).heap.size := held_below s (below_alloc _ _)
theorem held_drew {w w1 : World} {n1 d1 n2 d2 : Int}
    (s : w1.cell? ⟨w.heap.size, 0, none⟩ = some (.int .i64 n1) ∧ w1.cell? ⟨w.heap.size, 1, none⟩ = some (.int .i64 d1) ∧ w1.cell? ⟨w.heap.size + 1, 0, none⟩ = some (.int .i64 n2) ∧ w1.cell? ⟨w.heap.size + 1, 1, none⟩ = some (.int .i64 d2) ∧ Below w.heap.size w w1 ∧ w.heap.size + 1 < w1.heap.size) :
    w1.drew.cell? ⟨w.heap.size, 0, none⟩ = some (.int .i64 n1) ∧ w1.drew.cell? ⟨w.heap.size, 1, none⟩ = some (.int .i64 d1) ∧ w1.drew.cell? ⟨w.heap.size + 1, 0, none⟩ = some (.int .i64 n2) ∧ w1.drew.cell? ⟨w.heap.size + 1, 1, none⟩ = some (.int .i64 d2) ∧ Below w.heap.size w w1.drew ∧ w.heap.size + 1 < w1.drew.heap.size := held_below s ((Below.refl _ _).drew)
theorem held_set {w w1 : World} {n1 d1 n2 d2 : Int} {b i : Nat} {v : Value}
    (s : w1.cell? ⟨w.heap.size, 0, none⟩ = some (.int .i64 n1) ∧ w1.cell? ⟨w.heap.size, 1, none⟩ = some (.int .i64 d1) ∧ w1.cell? ⟨w.heap.size + 1, 0, none⟩ = some (.int .i64 n2) ∧ w1.cell? ⟨w.heap.size + 1, 1, none⟩ = some (.int .i64 d2) ∧ Below w.heap.size w w1 ∧ w.heap.size + 1 < w1.heap.size)
    (hb : w.heap.size + 1 < b) :
    (w1.setCell ⟨b, i, none⟩ v).cell? ⟨w.heap.size, 0, none⟩ = some (.int .i64 n1) ∧ (w1.setCell ⟨b, i, none⟩ v).cell? ⟨w.heap.size, 1, none⟩ = some (.int .i64 d1) ∧ (w1.setCell ⟨b, i, none⟩ v).cell? ⟨w.heap.size + 1, 0, none⟩ = some (.int .i64 n2) ∧ (w1.setCell ⟨b, i, none⟩ v).cell? ⟨w.heap.size + 1, 1, none⟩ = some (.int .i64 d2) ∧ Below w.heap.size w (w1.setCell ⟨b, i, none⟩ v) ∧ w.heap.size + 1 < (w1.setCell ⟨b, i, none⟩ v).heap.size := by
  obtain ⟨s0, s1, s2, s3, s4, s5⟩ := s
  have hb' : Below b w1 (w1.setCell ⟨b, i, none⟩ v) := (Below.refl b w1).setCell (p := ⟨b, i, none⟩) (Nat.le_refl b) v
  exact ⟨(hb'.cell (p := ⟨_, _, none⟩) (by show w.heap.size < b; omega)).trans s0, (hb'.cell (p := ⟨_, _, none⟩) (by show w.heap.size < b; omega)).trans s1, (hb'.cell (p := ⟨_, _, none⟩) hb).trans s2, (hb'.cell (p := ⟨_, _, none⟩) hb).trans s3, s4.setCell (by show w.heap.size ≤ b; omega) v, by simpa using s5⟩
theorem held2_below {w wc w1 w2 : World} {n1 d1 n2 d2 RN RD : Int} {b : Nat}
    (s : w1.cell? ⟨w.heap.size, 0, none⟩ = some (.int .i64 n1) ∧ w1.cell? ⟨w.heap.size, 1, none⟩ = some (.int .i64 d1) ∧ w1.cell? ⟨w.heap.size + 1, 0, none⟩ = some (.int .i64 n2) ∧ w1.cell? ⟨w.heap.size + 1, 1, none⟩ = some (.int .i64 d2) ∧ w1.cell? ⟨b, 0, none⟩ = some (.int .i64 RN) ∧ w1.cell? ⟨b, 1, none⟩ = some (.int .i64 RD) ∧ Below w.heap.size w w1 ∧ w.heap.size + 1 < w1.heap.size ∧ wc.heap.size ≤ w1.heap.size ∧ b < wc.heap.size)
    (hb : Below w1.heap.size w1 w2) :
    w2.cell? ⟨w.heap.size, 0, none⟩ = some (.int .i64 n1) ∧ w2.cell? ⟨w.heap.size, 1, none⟩ = some (.int .i64 d1) ∧ w2.cell? ⟨w.heap.size + 1, 0, none⟩ = some (.int .i64 n2) ∧ w2.cell? ⟨w.heap.size + 1, 1, none⟩ = some (.int .i64 d2) ∧ w2.cell? ⟨b, 0, none⟩ = some (.int .i64 RN) ∧ w2.cell? ⟨b, 1, none⟩ = some (.int .i64 RD) ∧ Below w.heap.size w w2 ∧ w.heap.size + 1 < w2.heap.size ∧ wc.heap.size ≤ w2.heap.size ∧ b < wc.heap.size := by
  obtain ⟨s0, s1, s2, s3, s4, s5, s6, s7, s8, s9⟩ := s
  obtain ⟨hc, _⟩ := bcell hb
  exact ⟨(hc _ _ (by omega)).trans s0, (hc _ _ (by omega)).trans s1, (hc _ _ s7).trans s2, (hc _ _ s7).trans s3, (hc _ _ (by omega)).trans s4, (hc _ _ (by omega)).trans s5, s6.trans (hb.mono (by omega)), Nat.lt_of_lt_of_le s7 hb.size, Nat.le_trans s8 hb.size, s9⟩
theorem held2_set {w wc w1 : World} {n1 d1 n2 d2 RN RD : Int} {b c i : Nat} {v : Value}
    (s : w1.cell? ⟨w.heap.size, 0, none⟩ = some (.int .i64 n1) ∧ w1.cell? ⟨w.heap.size, 1, none⟩ = some (.int .i64 d1) ∧ w1.cell? ⟨w.heap.size + 1, 0, none⟩ = some (.int .i64 n2) ∧ w1.cell? ⟨w.heap.size + 1, 1, none⟩ = some (.int .i64 d2) ∧ w1.cell? ⟨b, 0, none⟩ = some (.int .i64 RN) ∧ w1.cell? ⟨b, 1, none⟩ = some (.int .i64 RD) ∧ Below w.heap.size w w1 ∧ w.heap.size + 1 < w1.heap.size ∧ wc.heap.size ≤ w1.heap.size ∧ b < wc.heap.size)
    (hx : w.heap.size + 1 < c) (hy : wc.heap.size ≤ c) :
    (w1.setCell ⟨c, i, none⟩ v).cell? ⟨w.heap.size, 0, none⟩ = some (.int .i64 n1) ∧ (w1.setCell ⟨c, i, none⟩ v).cell? ⟨w.heap.size, 1, none⟩ = some (.int .i64 d1) ∧ (w1.setCell ⟨c, i, none⟩ v).cell? ⟨w.heap.size + 1, 0, none⟩ = some (.int .i64 n2) ∧ (w1.setCell ⟨c, i, none⟩ v).cell? ⟨w.heap.size + 1, 1, none⟩ = some (.int .i64 d2) ∧ (w1.setCell ⟨c, i, none⟩ v).cell? ⟨b, 0, none⟩ = some (.int .i64 RN) ∧ (w1.setCell ⟨c, i, none⟩ v).cell? ⟨b, 1, none⟩ = some (.int .i64 RD) ∧ Below w.heap.size w (w1.setCell ⟨c, i, none⟩ v) ∧ w.heap.size + 1 < (w1.setCell ⟨c, i, none⟩ v).heap.size ∧ wc.heap.size ≤ (w1.setCell ⟨c, i, none⟩ v).heap.size ∧ b < wc.heap.size := by
  obtain ⟨s0, s1, s2, s3, s4, s5, s6, s7, s8, s9⟩ := s
  have hb' : Below c w1 (w1.setCell ⟨c, i, none⟩ v) := (Below.refl c w1).setCell (p := ⟨c, i, none⟩) (Nat.le_refl c) v
  have hc : ∀ x o, x < c → (w1.setCell ⟨c, i, none⟩ v).cell? ⟨x, o, none⟩ = w1.cell? ⟨x, o, none⟩ := fun x o h => hb'.cell (p := ⟨x, o, none⟩) h
  exact ⟨(hc _ _ (by omega)).trans s0, (hc _ _ (by omega)).trans s1, (hc _ _ (by omega)).trans s2, (hc _ _ (by omega)).trans s3, (hc _ _ (by omega)).trans s4, (hc _ _ (by omega)).trans s5, s6.setCell (by show w.heap.size ≤ c; omega) v, by simpa using s7, by simpa using s8, s9⟩
end Go.Proofs.Ytnfcedccjfnceaa
namespace Go.Proofs.Ytnfcedccjfnceaa
open Go.RowKit

/-- All old blocks but 'c' are as they were. -/
structure Kp (c : Nat) (w w' : World) : Prop where
  os : w'.os = w.os
  tape : w'.tape = w.tape
  output : w'.output = w.output
  size : w.heap.size ≤ w'.heap.size
  block : ∀ k, k < w.heap.size → k ≠ c → w'.heap[k]? = w.heap[k]?
theorem Kp.refl (c : Nat) (w : World) : Kp c w w := ⟨rfl, rfl, rfl, Nat.le_refl _, fun _ _ _ => rfl⟩
theorem Kp.trans {c : Nat} {a b d : World} (h : Kp c a b) (k : Kp c b d) : Kp c a d :=
  ⟨k.os.trans h.os, k.tape.trans h.tape, k.output.trans h.output, Nat.le_trans h.size k.size, fun i hi hne => (k.block i (Nat.lt_of_lt_of_le hi h.size) hne).trans (h.block i hi hne)⟩
theorem Kp.of_below {c : Nat} {a b : World} (h : Below a.heap.size a b) : Kp c a b := ⟨h.os, h.tape, h.output, h.size, fun k hk _ => h.block k hk⟩
theorem Kp.below {c B : Nat} {a b : World} (h : Kp c a b) (hB : B ≤ c) (hs : B ≤ a.heap.size) : Below B a b := ⟨h.os, h.tape, h.output, h.size, fun k hk => h.block k (by omega) (by omega)⟩
theorem Kp.cell {c : Nat} {w w' : World} (h : Kp c w w') {b o : Nat} (hb : b < w.heap.size) (hne : b ≠ c) : w'.cell? ⟨b, o, none⟩ = w.cell? ⟨b, o, none⟩ := World.cell?_of_block (w := w) (h.block b hb hne)
theorem Kp.frozen {c : Nat} {w w' : World} (h : Kp c w w') {b o : Nat} (hb : b < w.heap.size) (hne : b ≠ c) : w'.frozen? ⟨b, o, none⟩ = w.frozen? ⟨b, o, none⟩ := World.frozen?_of_block (w := w) (h.block b hb hne)
theorem Kp.drewN {c : Nat} {a w : World} (h : Kp c a w) (n : Nat) : Kp c a (w.drewN n) := ⟨h.os, h.tape, h.output, h.size, h.block⟩
theorem Kp.setCell {c : Nat} {a w : World} (h : Kp c a w) (o : Nat) (v : Value) : Kp c a (w.setCell ⟨c, o, none⟩ v) :=
  ⟨h.os, h.tape, h.output, by simpa using h.size, fun k hk hne => (Below.heap_setCell w ⟨c, o, none⟩ v k hne).trans (h.block k hk hne)⟩

/-- The bytes that the cursor reads lie in old memory. -/
def Bytes (w : World) (a : Option Addr) (len : Nat) : Prop := len = 0 ∨ ∃ b off, a = some ⟨b, off, none⟩ ∧ ∀ i, i < len → ∃ z : Int, w.cell? ⟨b, off + i, none⟩ = some (.int .u8 z) ∧ 0 ≤ z ∧ z ≤ 255
/-- A cursor lies in block c; it has read at most N bytes. -/
def Cur (w : World) (c : Nat) (a : Option Addr) (len cap N : Nat) : Prop :=
  c < w.heap.size ∧ w.cell? ⟨c, 0, none⟩ = some (.slice a len cap) ∧ (∃ at_ : Nat, w.cell? ⟨c, 1, none⟩ = some (.int .i64 at_) ∧ at_ ≤ N) ∧ (∃ s : Int, w.cell? ⟨c, 2, none⟩ = some (.int .u64 s) ∧ 0 ≤ s ∧ s < 18446744073709551616) ∧
  w.frozen? ⟨c, 1, none⟩ = false ∧ w.frozen? ⟨c, 2, none⟩ = false ∧ Bytes w a len ∧ (∀ b off, a = some ⟨b, off, none⟩ → 0 < len → b ≠ c ∧ b < w.heap.size)

theorem u64_bd (x : Int) : 0 ≤ IntKind.u64.wrap x ∧ IntKind.u64.wrap x < 18446744073709551616 := by
  simp [IntKind.wrap, IntKind.bits, IntKind.signed]; omega

theorem and255 (E : Int) (h0 : 0 ≤ E) (h1 : E ≤ 18446744073709551615) : 0 ≤ wrap64 (bits BinOp.and IntKind.u64 E 255) ∧ wrap64 (bits BinOp.and IntKind.u64 E 255) ≤ 255 := by
  have h := bits_and_u64_nat E.toNat 255 (by omega) (by omega)
  rw [show (255 : Nat) = 2 ^ 8 - 1 by decide, Nat.and_two_pow_sub_one_eq_mod, Int.toNat_of_nonneg h0] at h
  have h2 : bits BinOp.and IntKind.u64 E 255 = ((E.toNat % 2 ^ 8 : Nat) : Int) := h
  rw [h2, wrap_id _ (by omega) (by omega)]
  omega

set_option maxRecDepth 100000 in
set_option maxHeartbeats 1000000 in
theorem next_in (c b off len cap at_ : Nat) (s z : Int) (w : World) (h0 : w.cell? ⟨c, 0, none⟩ = some (.slice (some ⟨b, off, none⟩) len cap)) (h1 : w.cell? ⟨c, 1, none⟩ = some (.int .i64 at_)) (h2 : w.cell? ⟨c, 2, none⟩ = some (.int .u64 s))
    (f1 : w.frozen? ⟨c, 1, none⟩ = false) (f2 : w.frozen? ⟨c, 2, none⟩ = false) (hN : at_ ≤ 1000000000) (hlt : at_ < len) (hz : w.cell? ⟨b, off + at_, none⟩ = some (.int .u8 z)) (z0 : 0 ≤ z) (z1 : z ≤ 255) :
    Calls Try.prog 60 #[.pointer (some ⟨c, 0, none⟩)] w fun e w' => e = .returned (.int .i64 z) ∧ ∃ k k' s', 0 ≤ s' ∧ s' < 18446744073709551616 ∧ w' = ((((w.drewN k).setCell ⟨c, 1, none⟩ (.int .i64 ((at_ : Int) + 1))).setCell ⟨c, 2, none⟩ (.int .u64 s')).drewN k') := by
  have i0 : (0 : Int) ≤ (at_ : Int) := by omega
  have i1 : (at_ : Int) < (len : Int) := by omega
  go_enter Try.func60, Try.ntmps60
  go_wp2
  go_quiet (fail)
  go_wp2
  go_quiet (fail)
  go_wp2
  go_quiet (fail)
  go_wp2
  go_ret
  exact ⟨rfl, _, _, _, (u64_bd _).1, (u64_bd _).2, rfl⟩

set_option maxRecDepth 100000 in
set_option maxHeartbeats 1000000 in
theorem next_out (c len cap at_ : Nat) (a : Option Addr) (s : Int) (w : World) (h0 : w.cell? ⟨c, 0, none⟩ = some (.slice a len cap)) (h1 : w.cell? ⟨c, 1, none⟩ = some (.int .i64 at_)) (h2 : w.cell? ⟨c, 2, none⟩ = some (.int .u64 s))
    (f1 : w.frozen? ⟨c, 1, none⟩ = false) (f2 : w.frozen? ⟨c, 2, none⟩ = false) (hN : at_ ≤ 1000000000) (hlt : len ≤ at_) :
    Calls Try.prog 60 #[.pointer (some ⟨c, 0, none⟩)] w fun e w' => ∃ z : Int, e = .returned (.int .i64 z) ∧ 0 ≤ z ∧ z ≤ 255 ∧ ∃ k k' s', 0 ≤ s' ∧ s' < 18446744073709551616 ∧ w' = ((((w.drewN k).setCell ⟨c, 1, none⟩ (.int .i64 ((at_ : Int) + 1))).setCell ⟨c, 2, none⟩ (.int .u64 s')).drewN k') := by
  have i1 : ¬ (at_ : Int) < (len : Int) := by omega
  have i2 : ¬ (at_ : Int) + 1 ≤ (len : Int) := by omega
  go_enter Try.func60, Try.ntmps60
  go_wp2
  go_quiet (fail)
  go_wp2
  go_quiet (fail)
  go_wp2
  have hq := u64_bd (IntKind.u64.wrap (IntKind.u64.wrap (s * 6364136223846793005)) + 1442695040888963407)
  have hb := and255 (IntKind.u64.wrap (IntKind.u64.wrap (IntKind.u64.wrap (s * 6364136223846793005)) + 1442695040888963407) / 1099511627776) (by omega) (by omega)
  go_ret
  exact ⟨_, rfl, hb.1, hb.2, _, _, _, hq.1, hq.2, rfl⟩

/-- What 'next' leaves behind. -/
theorem cur_next {c len cap at_ N k k' : Nat} {a : Option Addr} {s' : Int} {w : World} (hc : Cur w c a len cap N) (hN : at_ ≤ N) (hs0 : 0 ≤ s') (hs1 : s' < 18446744073709551616) :
    Cur ((((w.drewN k).setCell ⟨c, 1, none⟩ (.int .i64 ((at_ : Int) + 1))).setCell ⟨c, 2, none⟩ (.int .u64 s')).drewN k') c a len cap (N + 1) ∧ Kp c w ((((w.drewN k).setCell ⟨c, 1, none⟩ (.int .i64 ((at_ : Int) + 1))).setCell ⟨c, 2, none⟩ (.int .u64 s')).drewN k') := by
  obtain ⟨h0, h1, ⟨x, h2, _⟩, ⟨y, h3, _, _⟩, h4, h5, h6, h7⟩ := hc
  have hk : Kp c w ((((w.drewN k).setCell ⟨c, 1, none⟩ (.int .i64 ((at_ : Int) + 1))).setCell ⟨c, 2, none⟩ (.int .u64 s')).drewN k') := ((((Kp.refl c w).drewN k).setCell _ _).setCell _ _).drewN k'
  refine ⟨⟨?_, ?_, ⟨at_ + 1, ?_, by omega⟩, ⟨s', ?_, hs0, hs1⟩, ?_, ?_, ?_, ?_⟩, hk⟩
  · exact Nat.lt_of_lt_of_le h0 hk.size
  · simpa [go_sem] using h1
  · simp [go_sem, h2]
  · simp [go_sem, h3]
  · simpa [go_sem] using h4
  · simpa [go_sem] using h5
  · rcases h6 with h | ⟨b, off, rfl, hb⟩
    · exact Or.inl h
    · refine Or.inr ⟨b, off, rfl, fun i hi => ?_⟩
      obtain ⟨hne, hlt⟩ := h7 b off rfl (by omega)
      obtain ⟨z, hz, hz'⟩ := hb i hi
      exact ⟨z, (hk.cell hlt hne).trans hz, hz'⟩
  · intro b off e hl
    obtain ⟨hne, hlt⟩ := h7 b off e hl
    exact ⟨hne, Nat.lt_of_lt_of_le hlt hk.size⟩

theorem next_any {c len cap N : Nat} {a : Option Addr} {w : World} (hc : Cur w c a len cap N) (hN : N ≤ 1000000000) :
    Calls Try.prog 60 #[.pointer (some ⟨c, 0, none⟩)] w fun e w' => ∃ z : Int, e = .returned (.int .i64 z) ∧ 0 ≤ z ∧ z ≤ 255 ∧ Cur w' c a len cap (N + 1) ∧ Kp c w w' := by
  have hc' := hc
  obtain ⟨h0, h1, ⟨at_, h2, h2'⟩, ⟨y, h3, h3', h3''⟩, h4, h5, h6, h7⟩ := hc
  by_cases hlt : at_ < len
  · rcases h6 with h | ⟨b, off, rfl, hb⟩
    · omega
    · obtain ⟨z, hz, z0, z1⟩ := hb at_ hlt
      refine (next_in c b off len cap at_ y z w h1 h2 h3 h4 h5 (by omega) hlt hz z0 z1).mono ?_
      rintro e w' ⟨rfl, k, k', s', s0, s1, rfl⟩
      exact ⟨z, rfl, z0, z1, cur_next hc' h2' s0 s1⟩
  · refine (next_out c len cap at_ a y w h1 h2 h3 h4 h5 (by omega) (by omega)).mono ?_
    rintro e w' ⟨z, rfl, z0, z1, k, k', s', s0, s1, rfl⟩
    exact ⟨z, rfl, z0, z1, cur_next hc' h2' s0 s1⟩
end Go.Proofs.Ytnfcedccjfnceaa
namespace Go.Proofs.Ytnfcedccjfnceaa
open Go.RowKit

theorem Cur.below {w w' : World} {c len cap N : Nat} {a : Option Addr} (h : Cur w c a len cap N) (hb : Below w.heap.size w w') : Cur w' c a len cap N := by
  obtain ⟨h0, h1, ⟨x, h2, h2'⟩, ⟨y, h3, h3', h3''⟩, h4, h5, h6, h7⟩ := h
  obtain ⟨hc, hf⟩ := bcell hb
  refine ⟨Nat.lt_of_lt_of_le h0 hb.size, (hc _ _ h0).trans h1, ⟨x, (hc _ _ h0).trans h2, h2'⟩, ⟨y, (hc _ _ h0).trans h3, h3', h3''⟩, (hf _ _ h0).trans h4, (hf _ _ h0).trans h5, ?_, ?_⟩
  · rcases h6 with h | ⟨b, off, rfl, hbb⟩
    · exact Or.inl h
    · refine Or.inr ⟨b, off, rfl, fun i hi => ?_⟩
      obtain ⟨hne, hlt⟩ := h7 b off rfl (by omega)
      obtain ⟨z, hz, hz'⟩ := hbb i hi
      exact ⟨z, (hc _ _ hlt).trans hz, hz'⟩
  · intro b off e hl
    obtain ⟨hne, hlt⟩ := h7 b off e hl
    exact ⟨hne, Nat.lt_of_lt_of_le hlt hb.size⟩
theorem Cur.le {w : World} {c len cap N M : Nat} {a : Option Addr} (h : Cur w c a len cap N) (hNM : N ≤ M) : Cur w c a len cap M := by
  obtain ⟨h0, h1, ⟨x, h2, h2'⟩, h3, h4, h5, h6, h7⟩ := h
  exact ⟨h0, h1, ⟨x, h2, by omega⟩, h3, h4, h5, h6, h7⟩

set_option maxRecDepth 100000 in
set_option maxHeartbeats 400000 in
theorem pick_one {c len cap N : Nat} {a : Option Addr} {w : World} (n : Int) (h : n ≤ 1) (hc : Cur w c a len cap N) :
    Calls Try.prog 47 #[.pointer (some ⟨c, 0, none⟩), .int .i64 n] w fun e w' => ∃ r : Int, e = .returned (.int .i64 r) ∧ 0 ≤ r ∧ (r < n ∨ r = 0) ∧ Cur w' c a len cap (N + 2) ∧ Kp c w w' := by
  have HC := hide hc
  clear hc
  go_enter Try.func47, Try.ntmps47
  go_wp2_with fail
  go_ret
  exact ⟨0, rfl, by omega, by omega, HC.out.le (by omega), Kp.refl _ _⟩

set_option maxRecDepth 100000 in
set_option maxHeartbeats 400000 in
theorem pick_mid {c len cap N : Nat} {a : Option Addr} {w : World} (n : Int) (h0 : 1 < n) (h1 : n ≤ 200) (hc : Cur w c a len cap N) (hN : N ≤ 900000000) :
    Calls Try.prog 47 #[.pointer (some ⟨c, 0, none⟩), .int .i64 n] w fun e w' => ∃ r : Int, e = .returned (.int .i64 r) ∧ 0 ≤ r ∧ (r < n ∨ r = 0) ∧ Cur w' c a len cap (N + 2) ∧ Kp c w w' := by
  have HC := hide hc
  clear hc
  have h2 : ¬ n ≤ 1 := by omega
  have h3 : ¬ 200 < n := by omega
  have hne : (n == 0) = false := by simp; omega
  go_enter Try.func47, Try.ntmps47
  go_wp2_with fail
  refine (next_any HC.out (by omega)).mono ?_
  rintro e w1 ⟨z, rfl, z0, z1, hc1, hk1⟩
  have HC1 := hide hc1
  clear hc1
  have hr0 := Int.emod_nonneg z (show n ≠ 0 by omega)
  have hr1 := Int.emod_lt_of_pos z (show 0 < n by omega)
  go_wp2_with fail
  go_ret
  exact ⟨_, rfl, hr0, Or.inl hr1, HC1.out.le (by omega), hk1⟩

set_option maxRecDepth 100000 in
set_option maxHeartbeats 400000 in
theorem pick_big {c len cap N : Nat} {a : Option Addr} {w : World} (n : Int) (h0 : 200 < n) (h1 : n ≤ 1000000000) (hc : Cur w c a len cap N) (hN : N ≤ 900000000) :
    Calls Try.prog 47 #[.pointer (some ⟨c, 0, none⟩), .int .i64 n] w fun e w' => ∃ r : Int, e = .returned (.int .i64 r) ∧ 0 ≤ r ∧ (r < n ∨ r = 0) ∧ Cur w' c a len cap (N + 2) ∧ Kp c w w' := by
  have HC := hide hc
  clear hc
  have h2 : ¬ n ≤ 1 := by omega
  have hne : (n == 0) = false := by simp; omega
  go_enter Try.func47, Try.ntmps47
  go_wp2_with fail
  refine (next_any HC.out (by omega)).mono ?_
  rintro e w1 ⟨z, rfl, z0, z1, hc1, hk1⟩
  have HC1 := hide hc1
  clear hc1
  go_wp2_with fail
  refine (next_any HC1.out (by omega)).mono ?_
  rintro e w2 ⟨y, rfl, y0, y1, hc2, hk2⟩
  have HC2 := hide hc2
  clear hc2
  have hr0 := Int.emod_nonneg (z * 256 + y) (show n ≠ 0 by omega)
  have hr1 := Int.emod_lt_of_pos (z * 256 + y) (show 0 < n by omega)
  go_wp2_with fail
  go_ret
  exact ⟨_, rfl, hr0, Or.inl hr1, HC2.out, hk1.trans hk2⟩

theorem pick_any {c len cap N : Nat} {a : Option Addr} {w : World} (n : Int) (h1 : n ≤ 1000000000) (hc : Cur w c a len cap N) (hN : N ≤ 900000000) :
    Calls Try.prog 47 #[.pointer (some ⟨c, 0, none⟩), .int .i64 n] w fun e w' => ∃ r : Int, e = .returned (.int .i64 r) ∧ 0 ≤ r ∧ (r < n ∨ r = 0) ∧ Cur w' c a len cap (N + 2) ∧ Kp c w w' := by
  by_cases ha : n ≤ 1
  · exact pick_one n ha hc
  · by_cases hb : n ≤ 200
    · exact pick_mid n (by omega) hb hc hN
    · exact pick_big n (by omega) h1 hc hN

set_option maxRecDepth 100000 in
set_option maxHeartbeats 400000 in
theorem one_any {c len cap N : Nat} {a : Option Addr} {w : World} (n : Int) (h1 : n ≤ 1000000000) (hc : Cur w c a len cap N) (hN : N ≤ 900000000) :
    Calls Try.prog 48 #[.pointer (some ⟨c, 0, none⟩), .int .i64 n] w fun e w' => ∃ r : Bool, e = .returned (.bool r) ∧ Cur w' c a len cap (N + 2) ∧ Kp c w w' := by
  have HC := hide hc
  clear hc
  go_enter Try.func48, Try.ntmps48
  go_wp2_with fail
  refine (pick_any n h1 HC.out hN).mono ?_
  rintro e w1 ⟨r, rfl, r0, r1, hc1, hk1⟩
  go_wp2_with fail
  go_ret
  exact ⟨_, rfl, hc1, hk1⟩

set_option maxRecDepth 100000 in
set_option maxHeartbeats 400000 in
theorem among_any {c len cap N b l k : Nat} {a : Option Addr} {w : World} (hc : Cur w c a len cap N) (hN : N ≤ 900000000) (hl : 0 < l) (hl1 : l ≤ 1000000) (hb : b < w.heap.size) (hne : b ≠ c)
    (hz : ∀ i, i < l → ∃ z : Int, w.cell? ⟨b, i, none⟩ = some (.int .i64 z)) :
    Calls Try.prog 49 #[.pointer (some ⟨c, 0, none⟩), .slice (some ⟨b, 0, none⟩) l k] w fun e w' => ∃ r : Int, e = .returned (.int .i64 r) ∧ Cur w' c a len cap (N + 2) ∧ Kp c w w' := by
  have HC := hide hc
  have HZ := hide hz
  clear hc hz
  go_enter Try.func49, Try.ntmps49
  go_wp2_with fail
  refine (pick_any (l : Int) (by omega) HC.out hN).mono ?_
  rintro e w1 ⟨r, rfl, r0, r1, hc1, hk1⟩
  have HC1 := hide hc1
  clear hc1
  obtain ⟨i, rfl⟩ := Int.eq_ofNat_of_zero_le r0
  have hi : i < l := by omega
  have hi' : (i : Int) < (l : Int) := by omega
  obtain ⟨z, hcell⟩ := HZ.out i hi
  have hcell' : w1.cell? ⟨b, i, none⟩ = some (.int .i64 z) := (hk1.cell hb hne).trans hcell
  clear r1
  go_wp2_with fail
  go_ret
  exact ⟨_, rfl, HC1.out, hk1⟩
end Go.Proofs.Ytnfcedccjfnceaa
namespace Go.Proofs.Ytnfcedccjfnceaa
open Go.RowKit

theorem Kp.alloc {c : Nat} {a w : World} (h : Kp c a w) (o : Obj) : Kp c a (w.alloc o) := h.trans (Kp.of_below (below_alloc w o))
theorem Kp.setNew {c B : Nat} {a w : World} (h : Kp c a w) (hB : a.heap.size ≤ B) (o : Nat) (v : Value) : Kp c a (w.setCell ⟨B, o, none⟩ v) :=
  ⟨h.os, h.tape, h.output, by simpa using h.size, fun k hk hne => (Below.heap_setCell w ⟨B, o, none⟩ v k (by show k ≠ B; omega)).trans (h.block k hk hne)⟩
theorem Cur.set {w : World} {c len cap N B o : Nat} {a : Option Addr} {v : Value} (h : Cur w c a len cap N) (hB : B ≠ c) (hb : ∀ b off, a = some ⟨b, off, none⟩ → 0 < len → b ≠ B) : Cur (w.setCell ⟨B, o, none⟩ v) c a len cap N := by
  obtain ⟨h0, h1, ⟨x, h2, h2'⟩, ⟨y, h3, h3', h3''⟩, h4, h5, h6, h7⟩ := h
  have hc : ∀ i j, i ≠ B → (w.setCell ⟨B, o, none⟩ v).cell? ⟨i, j, none⟩ = w.cell? ⟨i, j, none⟩ := fun i j hi => World.cell?_of_block (w := w) (Below.heap_setCell w ⟨B, o, none⟩ v i hi)
  have hf : ∀ x, (w.setCell ⟨B, o, none⟩ v).frozen? x = w.frozen? x := fun x => World.frozen?_setCell _ _ _ _
  refine ⟨by simpa using h0, (hc _ _ (Ne.symm hB)).trans h1, ⟨x, (hc _ _ (Ne.symm hB)).trans h2, h2'⟩, ⟨y, (hc _ _ (Ne.symm hB)).trans h3, h3', h3''⟩, (hf _).trans h4, (hf _).trans h5, ?_, ?_⟩
  · rcases h6 with h | ⟨b, off, rfl, hbb⟩
    · exact Or.inl h
    · refine Or.inr ⟨b, off, rfl, fun i hi => ?_⟩
      obtain ⟨z, hz, hz'⟩ := hbb i hi
      exact ⟨z, (hc _ _ (hb b off rfl (by omega))).trans hz, hz'⟩
  · intro b off e hl
    obtain ⟨hne, hlt⟩ := h7 b off e hl
    exact ⟨hne, by simpa using hlt⟩
theorem Kp.var {c : Nat} {W w1 : World} (hk : Kp c W w1) (b : Nat) (hb : b < W.heap.size) (hne : b ≠ c) (v0 v1 : Value) (h0 : W.cell? ⟨b, 0, none⟩ = some v0) (h1 : W.cell? ⟨b, 1, none⟩ = some v1) (h2 : W.frozen? ⟨b, 0, none⟩ = false) (h3 : W.frozen? ⟨b, 1, none⟩ = false) :
    w1.cell? ⟨b, 0, none⟩ = some v0 ∧ w1.cell? ⟨b, 1, none⟩ = some v1 ∧ w1.frozen? ⟨b, 0, none⟩ = false ∧ w1.frozen? ⟨b, 1, none⟩ = false :=
  ⟨(hk.cell hb hne).trans h0, (hk.cell hb hne).trans h1, (hk.frozen hb hne).trans h2, (hk.frozen hb hne).trans h3⟩
theorem six_cells (w : World) (t : TypeId) (z0 z1 z2 z3 z4 z5 : Int) : ∀ i, i < 6 → ∃ z : Int, (w.alloc (.cells #[.int .i64 z0, .int .i64 z1, .int .i64 z2, .int .i64 z3, .int .i64 z4, .int .i64 z5] t)).cell? ⟨w.heap.size, i, none⟩ = some (.int .i64 z) := by
  intro i hi
  have : i = 0 ∨ i = 1 ∨ i = 2 ∨ i = 3 ∨ i = 4 ∨ i = 5 := by omega
  rcases this with rfl | rfl | rfl | rfl | rfl | rfl
  · exact ⟨z0, by simp⟩
  · exact ⟨z1, by simp⟩
  · exact ⟨z2, by simp⟩
  · exact ⟨z3, by simp⟩
  · exact ⟨z4, by simp⟩
  · exact ⟨z5, by simp⟩

/-- Bytes that were handed in: they lie in old memory. -/
def Src (w : World) (a : Option Addr) (len : Nat) : Prop := Bytes w a len ∧ ∀ b off, a = some ⟨b, off, none⟩ → 0 < len → b < w.heap.size
theorem Src.below {w w' : World} {a : Option Addr} {len : Nat} (h : Src w a len) (hb : Below w.heap.size w w') : Src w' a len := by
  obtain ⟨h6, h7⟩ := h
  obtain ⟨hc, _⟩ := bcell hb
  refine ⟨?_, fun b off e hl => Nat.lt_of_lt_of_le (h7 b off e hl) hb.size⟩
  rcases h6 with h | ⟨b, off, rfl, hbb⟩
  · exact Or.inl h
  · refine Or.inr ⟨b, off, rfl, fun i hi => ?_⟩
    obtain ⟨z, hz, hz'⟩ := hbb i hi
    exact ⟨z, (hc _ _ (h7 b off rfl (by omega))).trans hz, hz'⟩
theorem cur_new {w : World} {a : Option Addr} {len cap : Nat} (h : Src w a len) : Cur (w.alloc (.cells #[.slice a len cap, .int .i64 0, .int .u64 0] 48)) w.heap.size a len cap 0 := by
  have h' := h.below (below_alloc w (.cells #[.slice a len cap, .int .i64 0, .int .u64 0] 48))
  exact ⟨by simp, by simp, ⟨0, by simp, Nat.le_refl _⟩, ⟨0, by simp, by omega, by omega⟩, by simp [go_sem], by simp [go_sem], h'.1, fun b off e hl => ⟨by have := h.2 b off e hl; omega, h'.2 b off e hl⟩⟩

end Go.Proofs.Ytnfcedccjfnceaa
namespace Go.Proofs.Ytnfcedccjfnceaa
open Go.RowKit

def ints (xs : List Int) : List Value := xs.map fun x => .int .i64 x
theorem ints_len (xs : List Int) : (ints xs).length = xs.length := by simp [ints]
theorem ints_snoc (xs : List Int) (x : Int) : ints (xs ++ [x]) = ints xs ++ [.int .i64 x] := by simp [ints]
theorem ints_get (xs : List Int) (j : Nat) (h : j < xs.length) : (ints xs)[j]? = some (.int .i64 (xs.getD j 0)) := by
  simp [ints, h]
theorem ints_set (xs : List Int) (j : Nat) (x : Int) : (ints xs).set j (.int .i64 x) = ints (xs.set j x) := by simp [ints, List.map_set]

/-- A slice of whole numbers, as it lies in memory. -/
def IRow (w : World) (v : Value) (xs : List Int) : Prop :=
  (xs = [] ∧ ∃ a c, v = .slice a 0 c) ∨ ∃ b o c, v = .slice (some ⟨b, o, none⟩) xs.length c ∧ b < w.heap.size ∧ ∀ i, i < xs.length → w.cell? ⟨b, o + i, none⟩ = some (.int .i64 (xs.getD i 0))
theorem IRow.below {w w' : World} {v : Value} {xs : List Int} (h : IRow w v xs) (hb : Below w.heap.size w w') : IRow w' v xs := by
  rcases h with h | ⟨b, o, c, hv, hlt, hc⟩
  · exact Or.inl h
  · exact Or.inr ⟨b, o, c, hv, Nat.lt_of_lt_of_le hlt hb.size, fun i hi => (hb.cell (p := ⟨b, o + i, none⟩) hlt).trans (hc i hi)⟩
theorem irow_owns {w : World} {base e : Nat} {v : Value} {xs : List Int} (h : w.ownsRow base e 1 v xs.length (ints xs)) : IRow w v xs := by
  rcases h.2 with ⟨hv, hn⟩ | ⟨g, cap, cur, hv, hb, hg, r⟩
  · exact Or.inl ⟨List.length_eq_zero_iff.1 hn, none, 0, hn ▸ hv⟩
  · subst hv
    refine Or.inr ⟨g, 0, cap, rfl, (Array.getElem?_eq_some_iff.1 hg).1, fun i hi => ?_⟩
    rw [Nat.zero_add, h.cellAt i (by simpa using hi), ints_get xs i hi]
end Go.Proofs.Ytnfcedccjfnceaa
namespace Go.Proofs.Ytnfcedccjfnceaa
open Go.RowKit

/-- A slice of whole numbers, wherever it lies: its address, and what it holds. -/
def ARow (w : World) (a : Option Addr) (xs : List Int) : Prop := xs = [] ∨ ∃ b off, a = some ⟨b, off, none⟩ ∧ b < w.heap.size ∧ ∀ i, i < xs.length → w.cell? ⟨b, off + i, none⟩ = some (.int .i64 (xs.getD i 0))
theorem ARow.keep {w w' : World} {a : Option Addr} {xs : List Int} (h : ARow w a xs) (hs : w.heap.size ≤ w'.heap.size) (hB : ∀ b, b < w.heap.size → w'.heap[b]? = w.heap[b]?) : ARow w' a xs := by
  rcases h with h | ⟨b, off, ha, hb, hc⟩
  · exact Or.inl h
  · exact Or.inr ⟨b, off, ha, Nat.lt_of_lt_of_le hb hs, fun i hi => (World.cell?_of_block (w := w) (a := ⟨b, off + i, none⟩) (hB b hb)).trans (hc i hi)⟩
theorem ARow.below {w w' : World} {a : Option Addr} {xs : List Int} (h : ARow w a xs) (hB : Below w.heap.size w w') : ARow w' a xs := h.keep hB.size hB.block
theorem ARow.alloc {w : World} {a : Option Addr} {xs : List Int} (h : ARow w a xs) (o : Obj) : ARow (w.alloc o) a xs := h.below ((Below.refl _ _).alloc (Nat.le_refl _) _)
theorem ARow.drewN {w : World} {a : Option Addr} {xs : List Int} (h : ARow w a xs) (q : Nat) : ARow (w.drewN q) a xs := h
theorem ARow.at {w : World} {a : Option Addr} {xs : List Int} (h : ARow w a xs) {i : Nat} (hi : i < xs.length) : ∃ b off, a = some ⟨b, off, none⟩ ∧ w.cell? ⟨b, off + i, none⟩ = some (.int .i64 (xs.getD i 0)) := by
  rcases h with h | ⟨b, off, ha, _, hc⟩
  · rw [h] at hi; simp at hi
  · exact ⟨b, off, ha, hc i hi⟩
theorem ARow.at' {w : World} {a : Option Addr} {xs : List Int} (h : ARow w a xs) {i : Nat} (hi : i < xs.length) : ∃ b off, a = some ⟨b, off, none⟩ ∧ ∀ o, (w.alloc o).cell? ⟨b, off + i, none⟩ = some (.int .i64 (xs.getD i 0)) := by
  rcases h with h | ⟨b, off, ha, hb, hc⟩
  · rw [h] at hi; simp at hi
  · exact ⟨b, off, ha, fun o => (((Below.refl _ _).alloc (Nat.le_refl _) o).cell (p := ⟨b, off + i, none⟩) hb).trans (hc i hi)⟩
theorem arow_owns {w : World} {base e : Nat} {g n cap : Nat} {xs : List Int} (hn : n = xs.length) (h : w.ownsRow base e 1 (.slice (some ⟨g, 0, none⟩) n cap) n (ints xs)) : ARow w (some ⟨g, 0, none⟩) xs := by
  subst hn
  rcases irow_owns h with ⟨h, _⟩ | ⟨b, o, c, hv, hlt, hc⟩
  · exact Or.inl h
  · cases hv; exact Or.inr ⟨_, _, rfl, hlt, hc⟩

set_option maxRecDepth 100000 in
set_option maxHeartbeats 400000 in
theorem between_any (n lo hi : Int) (w : World) :
    Calls Try.prog 31 #[.int .i64 n, .int .i64 lo, .int .i64 hi] w fun e w' => e = .returned (.bool (Pf.inB n lo hi)) ∧ w' = w := by
  unfold Pf.inB
  by_cases h1 : lo ≤ n
  · by_cases h2 : n ≤ hi
    · go_enter Try.func31, Try.ntmps31
      go_wp2
      go_ret
      exact ⟨by simp [h1, h2], rfl⟩
    · go_enter Try.func31, Try.ntmps31
      go_wp2
      go_ret
      exact ⟨by simp [show ¬ n ≤ hi by omega], rfl⟩
  · go_enter Try.func31, Try.ntmps31
    go_wp2
    go_ret
    exact ⟨by simp [show ¬ lo ≤ n by omega], rfl⟩
theorem between_eq {n lo hi : Int} {w : World} {b : Bool} (h : Pf.inB n lo hi = b) :
    Calls Try.prog 31 #[.int .i64 n, .int .i64 lo, .int .i64 hi] w fun e w' => e = .returned (.bool b) ∧ w' = w := h ▸ between_any n lo hi w

theorem in_eq {n lo hi : Int} {w : World} {b : Bool} (h : Pf.inB n lo hi = b) :
    Calls Try.prog 34 #[.int .i64 n, .int .i64 lo, .int .i64 hi] w fun e w' => e = .returned (.bool b) ∧ w' = w := by
  cases b
  · exact in_no (Pf.inB_no h)
  · exact in_yes (Pf.inB_yes h).1 (Pf.inB_yes h).2
end Go.Proofs.Ytnfcedccjfnceaa
namespace Go.Proofs.Ytnfcedccjfnceaa
open Go.RowKit

theorem infoI : ∃ i, Try.prog.info? 3 = some i ∧ i.zero = some (.int .i64 0) ∧ i.size = 1 ∧ i.bytes = 8 := by
  have h : (Try.prog.info? 3).map (fun i => (i.zero, i.size, i.bytes)) = some (some (.int .i64 0), 1, 8) := by kernel_rfl
  obtain ⟨i, hi, hzz⟩ := Option.map_eq_some_iff.1 h
  simp only [Prod.mk.injEq] at hzz
  exact ⟨i, hi, hzz.1, hzz.2.1, hzz.2.2⟩
/-- A slice of values of one cell each. -/
def VRow (w : World) (a : Option Addr) (vs : List Value) : Prop := vs = [] ∨ ∃ b off, a = some ⟨b, off, none⟩ ∧ b < w.heap.size ∧ ∀ j u, vs[j]? = some u → w.cell? ⟨b, off + j, none⟩ = some u
theorem VRow.below {w w' : World} {a : Option Addr} {vs : List Value} (h : VRow w a vs) (hb : Below w.heap.size w w') : VRow w' a vs := by
  rcases h with h | ⟨b, off, ha, hl, hc⟩
  · exact Or.inl h
  · exact Or.inr ⟨b, off, ha, Nat.lt_of_lt_of_le hl hb.size, fun j u hj => (hb.cell (p := ⟨b, off + j, none⟩) hl).trans (hc j u hj)⟩
theorem ARow.vrow {w : World} {a : Option Addr} {xs : List Int} (h : ARow w a xs) : VRow w a (ints xs) := by
  rcases h with h | ⟨b, off, ha, hl, hc⟩
  · exact Or.inl (by rw [h]; rfl)
  · refine Or.inr ⟨b, off, ha, hl, fun j u hj => ?_⟩
    have hjl : j < xs.length := by
      have := (List.getElem?_eq_some_iff.1 hj).1
      simpa [ints] using this
    rw [hc j hjl]
    rw [ints_get xs j hjl] at hj
    exact hj
theorem c_ints (xs : List Int) : ∀ u ∈ ints xs, u.oneCell' = true := by
  intro u hu
  simp only [ints, List.mem_map] at hu
  obtain ⟨x, _, rfl⟩ := hu; rfl
theorem add_plain' (b o j : Nat) : (⟨b, o, none⟩ : Addr).add j = ⟨b, o + j, none⟩ := by unfold Addr.add; split <;> simp_all
/-- Append of whatever list of values, onto an owned one. -/
theorem run_append_v {P : Program} (w : World) (base : Nat) (t ty e : TypeId) (i : TypeInfo) (z : Value) (bytes : Nat) (ht : P.underlying t = some (.slice e)) (hi : P.info? e = some i) (hz : i.zero = some z)
    (hsize : i.size = 1) (hby : i.bytes = bytes) (hzs : z.cells.size = 1) (v : Value) (n : Nat) (xs : List Value) (hown : w.ownsRow base e 1 v n xs)
    (a : Option Addr) (m c : Nat) (news : List Value) (hm : news.length = m) (hv : VRow w a news) (h1 : ∀ u ∈ news, u.oneCell' = true) (h63 : n + m ≤ maxLen) (hbytes : (n + m) * bytes ≤ 140737488355328) (hbase : base ≤ w.heap.size) :
    ∃ v' w', (Builtin.append_ #[t, t] ty #[v, .slice a m c]).run P w = .ok v' w' ∧ w'.ownsRow base e 1 v' (n + m) (xs ++ news) ∧ w.grownBy w' v.ownBlock := by
  cases a with
  | none =>
    have hn : news = [] := by
      rcases hv with h | ⟨b, off, h, _⟩
      · exact h
      · cases h
    subst hn
    have : m = 0 := by simpa using hm.symm
    subst this
    refine ⟨v, w, ?_, by simpa using hown, World.grownBy.refl _ _⟩
    rcases hown.2 with ⟨rfl, rfl⟩ | ⟨g, cap, cur, rfl, _, _, hnc, _⟩
    · simp [Builtin.append_, run_underlying ht, sizeOf, typeInfo, hi, Builtin.lenOf, Builtin.firstCells]
    · simp [Builtin.append_, run_underlying ht, sizeOf, typeInfo, hi, Builtin.lenOf, Builtin.firstCells, hnc, storeCells]
  | some ad =>
    obtain ⟨v', w', hr, h2, h3, _⟩ := run_append_own (P := P) w base t ty e i z 1 bytes ht hi hz hsize hby hzs (by decide) v n xs hown ad m c news (by omega) (fun j u hj => by
      rcases hv with h | ⟨b, off, h, _, hc⟩
      · rw [h] at hj; simp at hj
      · cases h; rw [add_plain']; exact hc j u hj) h1 h63 hbytes hbase
    exact ⟨v', w', hr, h2, h3⟩
theorem grown_under' {w w' : World} {base e s n k : Nat} {v : Value} {xs : List Value} (hg : w.grownBy w' v.ownBlock) (h : w.ownsRow base e s v n xs) (hk : k ≤ base) (hs : k ≤ w.heap.size) : Below k w w' :=
  ⟨hg.os, hg.tape, hg.output, hg.size, fun b hb => hg.block b (by omega) (fun he => by have := h.lt b he.symm; omega)⟩
theorem vrow_new (w : World) (u : Value) (e : TypeId) : VRow (w.alloc (.cells #[u] e)) (some ⟨w.heap.size, 0, none⟩) [u] := by
  refine Or.inr ⟨w.heap.size, 0, rfl, by simp, fun j x hj => ?_⟩
  have : j = 0 := by
    have := (List.getElem?_eq_some_iff.1 hj).1
    simpa using this
  subst this
  have : x = u := by simpa using hj.symm
  subst this
  simp
/-- One value more behind an owned list of ints. -/
theorem push_int {w : World} {base n : Nat} {v : Value} {xs : List Value} {x : Int} (hown : w.ownsRow base 3 1 v n xs) (hn : n ≤ 100000) (hb : base ≤ w.heap.size) :
    ∃ v' w', (∀ ty, (Builtin.append_ #[24, 24] ty #[v, .slice (some ⟨w.heap.size, 0, none⟩) 1 1]).run Try.prog (w.alloc (.cells #[.int .i64 x] 3)) = .ok v' w') ∧ w'.ownsRow base 3 1 v' (n + 1) (xs ++ [.int .i64 x]) ∧ w.grownBy w' v.ownBlock := by
  obtain ⟨i0, hi, hz0, hz1, hz2⟩ := infoI
  obtain ⟨v', w', h1, h2, h3⟩ := run_append_v (P := Try.prog) (w.alloc (.cells #[.int .i64 x] 3)) base 24 0 3 i0 _ 8 Try.underlying24 hi hz0 hz1 hz2 rfl v n xs (hown.alloc _) (some ⟨w.heap.size, 0, none⟩) 1 1 [.int .i64 x] rfl (vrow_new w _ 3) (fun u hu => by simp at hu; subst hu; rfl) (by unfold maxLen; omega) (by omega) (by simp; omega)
  refine ⟨v', w', fun _ => h1, h2, ?_⟩
  have hg := World.grownBy_alloc w (.cells #[.int .i64 x] 3) v.ownBlock
  exact ⟨h3.os.trans hg.os, h3.tape.trans hg.tape, h3.output.trans hg.output, Nat.le_trans hg.size h3.size, fun b hb hne => (h3.block b (Nat.lt_of_lt_of_le hb hg.size) hne).trans (hg.block b hb hne)⟩
/-- An owned list is nothing, or lies somewhere. -/
theorem own_form {w : World} {base e s n : Nat} {v : Value} {xs : List Value} (h : w.ownsRow base e s v n xs) : ∃ a c, v = .slice a n c := by
  rcases h.2 with ⟨rfl, rfl⟩ | ⟨g, cap, cur, rfl, _⟩
  · exact ⟨none, 0, rfl⟩
  · exact ⟨_, _, rfl⟩
end Go.Proofs.Ytnfcedccjfnceaa
namespace Go.Proofs.Ytnfcedccjfnceaa
open Go.RowKit
end Go.Proofs.Ytnfcedccjfnceaa
namespace Go.Proofs.Ytnfcedccjfnceaa
open Go.RowKit

theorem makeI_run (n : Nat) (hn : n ≤ 1048576) (w : World) : (Instr.makeSlice 24 (.int .i64 (n : Int)) (.int .i64 (n : Int))).run Try.prog w = .ok (.slice (some ⟨w.heap.size, 0, none⟩) n n) (w.alloc (.cells (madeCells #[.int .i64 0] n) 3)) := by
  have h : (Try.prog.info? 3).map (fun i => (i.zero, i.size, i.bytes)) = some (some (.int .i64 0), 1, 8) := by kernel_rfl
  obtain ⟨i, hi, hzz⟩ := Option.map_eq_some_iff.1 h
  simp only [Prod.mk.injEq] at hzz
  obtain ⟨hz, hs, hb⟩ := hzz
  have := run_make (P := Try.prog) w 24 3 i _ Try.underlying24 hi hz .i64 .i64 (n : Int) (n : Int) (by omega) (by omega) (by rw [hb]; omega) (by omega)
  simpa [hs, Value.cells] using this
theorem made_own (w : World) (n : Nat) (hn : n ≤ 1048576) : (w.alloc (.cells (madeCells #[.int .i64 0] n) 3)).ownsRow w.heap.size 3 1 (.slice (some ⟨w.heap.size, 0, none⟩) n n) n (ints (List.replicate n 0)) := by
  have h := World.ownsRow_lit (base := w.heap.size) (e := 3) (size := 1) w (madeCells #[.int .i64 0] n) n (Nat.le_refl _) (by unfold maxLen; omega) (by simp [madeCells])
  rw [toList_madeCells_one] at h
  simpa [ints] using h
theorem getD_set_take (xs ys : List Int) (k : Nat) (hy : ys.length = xs.length) (hk : k < xs.length) (h : ys.take k = xs.take k) : (ys.set k (xs.getD k 0)).take (k + 1) = xs.take (k + 1) := by
  rw [List.take_add_one, List.take_add_one, List.take_set_of_le (Nat.le_refl _), h]
  congr 1
  simp [hk, hy]

end Go.Proofs.Ytnfcedccjfnceaa
