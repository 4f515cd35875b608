/-
  In one: Rk, Pf, Kg, Math, A, Xi, B, D, Pa, Pb, Ia12, Ic12, Ig12, Ik12, Yf, Pg, C, E, F, Hl11, Hv, Pm, Pn, Ih12, Io12.
-/
import Derived.Sort.WalkA
import Derived.Test.YtnchkgblpnompaaRows
import Derived.WalkKit
import Derived.WalkSpells
import Derived.WalkLawsBesides
import Derived.Deep.QuietTactic
import Derived.BigQuiet
import Derived.Laws.StructEq
import Derived.OwnWalk
import Derived.Laws.AppendOwn
import Derived.Laws.OwnMore
import Derived.Deep.RegionHeld3
import Derived.Lib.AppendZeros
import Derived.Deep.AppendLies
namespace Go.Proofs.Ytnchkgblpnompaa.Rk
open Go.Sort

/-- The value of the good with number i. -/
def val (vs : List Int) (i : Nat) : Int := vs.getD i 0
/-- Inserted ahead of the first one that is less. -/
def insL (vs : List Int) (i : Nat) : List Nat → List Nat
  | [] => [i]
  | x :: r => if val vs x ≥ val vs i then x :: insL vs i r else i :: x :: r
/-- The first k numbers, ranked. -/
def upto (vs : List Int) : Nat → List Nat
  | 0 => []
  | k + 1 => insL vs k (upto vs k)
def rank (vs : List Int) : List Nat := upto vs vs.length

theorem insL_len (vs : List Int) (i : Nat) : ∀ l, (insL vs i l).length = l.length + 1
  | [] => rfl
  | x :: r => by unfold insL; split <;> simp [insL_len vs i r]
theorem upto_len (vs : List Int) : ∀ k, (upto vs k).length = k
  | 0 => rfl
  | k + 1 => by rw [upto, insL_len, upto_len vs k]
theorem rank_len (vs : List Int) : (rank vs).length = vs.length := upto_len _ _
theorem insL_perm (vs : List Int) (i : Nat) : ∀ l, (insL vs i l).Perm (i :: l)
  | [] => List.Perm.refl _
  | x :: r => by
    unfold insL; split
    · exact ((insL_perm vs i r).cons x).trans (List.Perm.swap i x r)
    · exact List.Perm.refl _
theorem upto_perm (vs : List Int) : ∀ k, (upto vs k).Perm (List.range k)
  | 0 => List.Perm.refl _
  | k + 1 => by
    rw [upto, List.range_succ]
    exact ((insL_perm vs k _).trans ((upto_perm vs k).cons k)).trans (List.perm_append_singleton k (List.range k)).symm
theorem rank_perm (vs : List Int) : (rank vs).Perm (List.range vs.length) := upto_perm _ _
theorem upto_mem {vs : List Int} {k x : Nat} (h : x ∈ upto vs k) : x < k := by simpa using (upto_perm vs k).mem_iff.1 h
theorem rank_mem {vs : List Int} {x : Nat} (h : x ∈ rank vs) : x < vs.length := upto_mem h
theorem mem_insL {vs : List Int} {i x : Nat} {l : List Nat} : x ∈ insL vs i l ↔ x = i ∨ x ∈ l := by
  rw [(insL_perm vs i l).mem_iff, List.mem_cons]

/-- From the greatest one down. -/
def Down (vs : List Int) (l : List Nat) : Prop := l.Pairwise fun a b => val vs a ≥ val vs b
theorem insL_down (vs : List Int) (i : Nat) : ∀ l, Down vs l → Down vs (insL vs i l)
  | [], _ => by simp [insL, Down]
  | x :: r, h => by
    have h' := List.pairwise_cons.1 h
    unfold insL; split
    · rename_i hx
      refine List.pairwise_cons.2 ⟨fun y hy => ?_, insL_down vs i r h'.2⟩
      rcases mem_insL.1 hy with rfl | hy
      · exact hx
      · exact h'.1 y hy
    · rename_i hx
      refine List.pairwise_cons.2 ⟨fun y hy => ?_, h⟩
      rcases List.mem_cons.1 hy with rfl | hy
      · omega
      · have := h'.1 y hy; omega
theorem upto_down (vs : List Int) : ∀ k, Down vs (upto vs k)
  | 0 => List.Pairwise.nil
  | k + 1 => insL_down vs k _ (upto_down vs k)
theorem rank_down (vs : List Int) : Down vs (rank vs) := upto_down _ _

/-- Of alike ones the first one first. -/
def Stays (vs : List Int) (l : List Nat) : Prop := l.Pairwise fun a b => val vs a > val vs b ∨ (val vs a = val vs b ∧ a < b)
theorem insL_stays (vs : List Int) (i : Nat) : ∀ l, (∀ x ∈ l, x < i) → Stays vs l → Stays vs (insL vs i l)
  | [], _, _ => by simp [insL, Stays]
  | x :: r, hl, h => by
    have h' := List.pairwise_cons.1 h
    unfold insL; split
    · rename_i hx
      refine List.pairwise_cons.2 ⟨fun y hy => ?_, insL_stays vs i r (fun z hz => hl z (List.mem_cons_of_mem _ hz)) h'.2⟩
      rcases mem_insL.1 hy with rfl | hy
      · have := hl x (List.mem_cons_self ..); omega
      · exact h'.1 y hy
    · rename_i hx
      refine List.pairwise_cons.2 ⟨fun y hy => ?_, h⟩
      rcases List.mem_cons.1 hy with rfl | hy
      · left; omega
      · have := h'.1 y hy; left; omega
theorem upto_stays (vs : List Int) : ∀ k, Stays vs (upto vs k)
  | 0 => List.Pairwise.nil
  | k + 1 => insL_stays vs k _ (fun _ hx => upto_mem hx) (upto_stays vs k)
theorem rank_stays (vs : List Int) : Stays vs (rank vs) := upto_stays _ _

/-- Where it is inserted. -/
theorem insL_at (vs : List Int) (i : Nat) : ∀ (l : List Nat) (k : Nat), k ≤ l.length → (∀ j, j < k → val vs (l.getD j 0) ≥ val vs i) → (k < l.length → val vs (l.getD k 0) < val vs i) → insL vs i l = l.take k ++ i :: l.drop k
  | [], k, hk, _, _ => by simp at hk; subst hk; rfl
  | x :: r, 0, _, _, h2 => by
    have := h2 (by simp)
    unfold insL; rw [if_neg (by simpa using this)]; rfl
  | x :: r, k + 1, hk, h1, h2 => by
    have := h1 0 (by omega)
    unfold insL; rw [if_pos (by simpa using this), insL_at vs i r k (by simpa using hk) (fun j hj => by simpa using h1 (j + 1) (by omega)) (fun h => by simpa using h2 (by simpa using h))]
    rfl

/-- Of a list that goes down, inserted from behind. -/
theorem insL_behind (vs : List Int) (i : Nat) : ∀ (l : List Nat) (p : Nat), Down vs (l ++ [p]) → insL vs i (l ++ [p]) = if val vs i > val vs p then insL vs i l ++ [p] else l ++ [p, i]
  | [], p, _ => by
    simp only [List.nil_append, insL]
    split <;> split <;> first | rfl | omega
  | x :: r, p, h => by
    have h' := List.pairwise_cons.1 h
    have hp := h'.1 p (by simp)
    have ih := insL_behind vs i r p h'.2
    simp only [List.cons_append, insL]
    split
    · rename_i hx
      rw [ih]; split <;> rfl
    · rename_i hx
      rw [if_pos (by omega)]; rfl

/-- The comparison by which the program sorts: a ahead of b, where a's value is greater. -/
def lt (vs : List Int) (m : Nat) (a b : Fin (m + 1)) : Bool := decide (val vs b < val vs a)
def arr (m : Nat) (l : List (Fin (m + 1))) : Array (Fin (m + 1)) := l.toArray

theorem swp_list {α : Type} [Inhabited α] (A : List α) (p x : α) (S : List α) : swp (A ++ p :: x :: S).toArray (A.length + 1) A.length = (A ++ x :: p :: S).toArray := by
  unfold swp
  simp

theorem get_list {α : Type} [Inhabited α] (A : List α) (p : α) (S : List α) : (A ++ p :: S).toArray[A.length]! = p := by simp

def vals (m : Nat) (l : List (Fin (m + 1))) : List Nat := l.map (·.val)

theorem inner (vs : List Int) (m : Nat) (i : Fin (m + 1)) : ∀ (n : Nat) (A S : List (Fin (m + 1))), A.length = n → Down vs (vals m A) → ∃ B, insInner (lt vs m) 0 n (A ++ i :: S).toArray = (B ++ S).toArray ∧ vals m B = insL vs i.val (vals m A)
  | 0, A, S, hn, _ => by
    obtain rfl := List.length_eq_zero_iff.1 hn
    exact ⟨[i], rfl, rfl⟩
  | n + 1, A, S, hn, hd => by
    obtain ⟨A', p, rfl⟩ : ∃ A' p, A = A' ++ [p] := ⟨A.dropLast, A.getLast (by intro e; simp [e] at hn), (List.dropLast_concat_getLast _).symm⟩
    have hA' : A'.length = n := by simpa using hn
    have e1 : vals m (A' ++ [p]) = vals m A' ++ [p.val] := by simp [vals]
    have hd' : Down vs (vals m A') := by
      rw [e1] at hd; exact (List.pairwise_append.1 hd).1
    rw [e1, insL_behind vs i.val _ _ (e1 ▸ hd)]
    have g1 : (A' ++ [p] ++ i :: S).toArray[n + 1]! = i := by
      have := get_list (A' ++ [p]) i S
      rw [hn] at this
      exact this
    have g2 : (A' ++ [p] ++ i :: S).toArray[n]! = p := by
      have := get_list A' p (i :: S)
      rw [List.append_assoc]
      rw [hA'] at this
      exact this
    rw [insInner, g1, g2]
    by_cases h : val vs p.val < val vs i.val
    · have hl : lt vs m i p = true := decide_eq_true h
      rw [if_pos (by simp [hl]), if_pos h]
      have hs : swp (A' ++ [p] ++ i :: S).toArray (n + 1) n = (A' ++ i :: p :: S).toArray := by
        have := swp_list A' p i S
        rw [hA'] at this
        rw [List.append_assoc]
        exact this
      rw [hs]
      obtain ⟨B, hB, hv⟩ := inner vs m i n A' (p :: S) hA' hd'
      exact ⟨B ++ [p], by rw [hB, List.append_assoc]; rfl, by simp [vals] at hv ⊢; exact hv⟩
    · have hl : lt vs m i p = false := decide_eq_false h
      rw [if_neg (by simp [hl]), if_neg (by omega)]
      exact ⟨A' ++ [p, i], by simp, by simp [vals]⟩

/-- The whole sort of the numbers 0, 1, .. m. -/
theorem outer (vs : List Int) (m : Nat) : ∀ (r k : Nat) (A S : List (Fin (m + 1))), A.length = k → vals m A = upto vs k → vals m S = (List.range' k (m + 1 - k)) → k ≤ m + 1 → m + 1 - k = r →
    ∃ B, insOuter (lt vs m) 0 (m + 1) k (A ++ S).toArray = B.toArray ∧ vals m B = upto vs (m + 1)
  | 0, k, A, S, hA, hv, hS, hk, hr => by
    have e : k = m + 1 := by omega
    subst e
    rw [insOuter_stop _ _ _ _ _ (by omega)]
    have : S = [] := by simpa [vals] using hS
    subst this
    exact ⟨A, by simp, hv⟩
  | r + 1, k, A, S, hA, hv, hS, hk, hr => by
    have hlt : k < m + 1 := by omega
    rw [insOuter_go _ _ _ _ _ hlt]
    have e : m + 1 - k = (m + 1 - (k + 1)) + 1 := by omega
    rw [e, List.range'_succ] at hS
    obtain ⟨s, S', rfl⟩ : ∃ s S', S = s :: S' := by
      cases S with
      | nil => simp [vals] at hS
      | cons s S' => exact ⟨s, S', rfl⟩
    simp [vals] at hS
    obtain ⟨B, hB, hvB⟩ := inner vs m s k A S' hA (by rw [hv]; exact upto_down vs k)
    rw [hB]
    rw [hv, hS.1] at hvB
    exact outer vs m r (k + 1) B S' (by have := congrArg List.length hvB; simpa [vals, insL_len, upto_len] using this) hvB (by simpa [vals] using hS.2) (by omega) (by omega)

theorem sorted (vs : List Int) (m : Nat) (d : Array (Fin (m + 1))) (hd : vals m d.toList = List.range (m + 1)) (hv : vs.length = m + 1) :
    ∃ B, insertionSort (lt vs m) d 0 (m + 1) = B.toArray ∧ vals m B = rank vs := by
  unfold insertionSort rank
  rw [hv]
  obtain ⟨l, rfl⟩ : ∃ l : List (Fin (m + 1)), d = l.toArray := ⟨d.toList, by simp⟩
  simp only at hd
  rw [List.range_succ_eq_map] at hd
  obtain ⟨s, S, rfl⟩ : ∃ s S, l = s :: S := by
    cases l with
    | nil => simp [vals] at hd
    | cons s S' => exact ⟨s, S', rfl⟩
  simp only [vals, List.map_cons, List.cons.injEq] at hd
  refine outer vs m m 1 [s] S rfl ?_ ?_ (by omega) (by omega)
  · simp [vals, upto, insL, hd.1]
  · show S.map (·.val) = _
    rw [hd.2, Nat.add_sub_cancel]
    apply List.ext_getElem
    · simp
    · intro j h1 h2
      simp; omega
end Go.Proofs.Ytnchkgblpnompaa.Rk
namespace Go.Proofs.Ytnchkgblpnompaa.Pf

theorem getD_lt {α : Type} (xs : List α) (d : α) {i : Nat} (h : i < xs.length) : xs.getD i d = xs[i] := by simp [h]
def inB (n lo hi : Int) : Bool := decide (lo ≤ n) && decide (n ≤ hi)
theorem inB_yes {n lo hi : Int} (h : inB n lo hi = true) : lo ≤ n ∧ n ≤ hi := by simpa [inB] using h
theorem inB_of {n lo hi : Int} (h1 : lo ≤ n) (h2 : n ≤ hi) : inB n lo hi = true := by simp [inB, h1, h2]
theorem inB_no {n lo hi : Int} (h : inB n lo hi = false) : n < lo ∨ hi < n := by
  by_cases h1 : lo ≤ n
  · right; simp [inB, h1] at h; omega
  · left; omega
def allB (xs : List Int) (lo hi : Int) : Bool := xs.all fun x => inB x lo hi
theorem allB_get {xs : List Int} {lo hi : Int} (h : allB xs lo hi = true) {i : Nat} (hi' : i < xs.length) : inB (xs.getD i 0) lo hi = true := by
  have := List.all_eq_true.1 h (xs.getD i 0) (by rw [getD_lt _ _ hi']; exact List.getElem_mem hi')
  exact this
theorem allB_of {xs : List Int} {lo hi : Int} (h : ∀ i, i < xs.length → inB (xs.getD i 0) lo hi = true) : allB xs lo hi = true := by
  refine List.all_eq_true.2 fun x hx => ?_
  obtain ⟨i, hi', rfl⟩ := List.getElem_of_mem hx
  have := h i hi'
  rwa [getD_lt _ _ hi'] at this
theorem allB_not {xs : List Int} {lo hi : Int} {i : Nat} (hi' : i < xs.length) (h : inB (xs.getD i 0) lo hi = false) : allB xs lo hi = false := by
  cases e : allB xs lo hi
  · rfl
  · rw [allB_get e hi'] at h; cases h

/-- One good of a profile: how often, how much. -/
def goodAt (p f : Int) : Bool := inB p 0 10000 && inB f 0 10000000 && ((p == 0) == (f == 0))
def goodP (ps fs : List Int) : Bool := decide (ps.length = fs.length) && decide (ps.length ≤ 12) && (List.range ps.length).all fun i => goodAt (ps.getD i 0) (fs.getD i 0)
theorem goodP_len {ps fs : List Int} (h : goodP ps fs = true) : ps.length = fs.length ∧ ps.length ≤ 12 := by
  simp only [goodP, Bool.and_eq_true, decide_eq_true_eq] at h
  exact h.1
theorem goodP_at {ps fs : List Int} (h : goodP ps fs = true) {i : Nat} (hi : i < ps.length) : goodAt (ps.getD i 0) (fs.getD i 0) = true := by
  simp only [goodP, Bool.and_eq_true, decide_eq_true_eq] at h
  exact List.all_eq_true.1 h.2 i (by simpa using hi)
theorem goodP_of {ps fs : List Int} (h1 : ps.length = fs.length) (h2 : ps.length ≤ 12) (h : ∀ i, i < ps.length → goodAt (ps.getD i 0) (fs.getD i 0) = true) : goodP ps fs = true := by
  simp only [goodP, Bool.and_eq_true, decide_eq_true_eq]
  exact ⟨⟨h1, h2⟩, List.all_eq_true.2 fun i hi => h i (by simpa using hi)⟩
theorem goodP_ne {ps fs : List Int} (h : ps.length ≠ fs.length) : goodP ps fs = false := by simp [goodP, h]
theorem goodP_many {ps fs : List Int} (h : 12 < ps.length) : goodP ps fs = false := by simp [goodP, show ¬ ps.length ≤ 12 by omega]
theorem goodP_not {ps fs : List Int} {i : Nat} (hi : i < ps.length) (h : goodAt (ps.getD i 0) (fs.getD i 0) = false) : goodP ps fs = false := by
  cases e : goodP ps fs
  · rfl
  · rw [goodP_at e hi] at h; cases h
theorem goodAt_bd {p f : Int} (h : goodAt p f = true) : 0 ≤ p ∧ p ≤ 10000 ∧ 0 ≤ f ∧ f ≤ 10000000 ∧ (p = 0 ↔ f = 0) := by
  simp only [goodAt, Bool.and_eq_true] at h
  have h1 := inB_yes h.1.1
  have h2 := inB_yes h.1.2
  refine ⟨h1.1, h1.2, h2.1, h2.2, ?_⟩
  have h3 := h.2
  by_cases a : p = 0 <;> by_cases b : f = 0 <;> simp [a, b] at h3 ⊢
theorem goodP_picks {ps fs : List Int} (h : goodP ps fs = true) : allB ps 0 10000 = true :=
  allB_of fun i hi => by have := goodAt_bd (goodP_at h hi); exact inB_of this.1 this.2.1
theorem goodP_flow {ps fs : List Int} (h : goodP ps fs = true) : allB fs 0 10000000 = true :=
  allB_of fun i hi => by have := goodAt_bd (goodP_at h (i := i) (by have := goodP_len h; omega)); exact inB_of this.2.2.1 this.2.2.2.1
theorem goodP_split {ps fs : List Int} (h1 : ps.length = fs.length) (h2 : ps.length ≤ 12) (h3 : allB ps 0 10000 = true) (h4 : allB fs 0 10000000 = true) (h : ∀ i, i < ps.length → ((ps.getD i 0 == 0) == (fs.getD i 0 == 0)) = true) : goodP ps fs = true :=
  goodP_of h1 h2 fun i hi => by simp only [goodAt, Bool.and_eq_true]; exact ⟨⟨allB_get h3 hi, allB_get h4 (by omega)⟩, h i hi⟩
theorem goodP_npicks {ps fs : List Int} (h : allB ps 0 10000 = false) : goodP ps fs = false := by
  cases e : goodP ps fs
  · rfl
  · rw [goodP_picks e] at h; cases h
theorem goodP_nflow {ps fs : List Int} (h : allB fs 0 10000000 = false) : goodP ps fs = false := by
  cases e : goodP ps fs
  · rfl
  · rw [goodP_flow e] at h; cases h
theorem goodP_nzero {ps fs : List Int} {i : Nat} (hi : i < ps.length) (h : ((ps.getD i 0 == 0) == (fs.getD i 0 == 0)) = false) : goodP ps fs = false :=
  goodP_not hi (by unfold goodAt; rw [h, Bool.and_false])

theorem take_sum_succ (xs : List Int) (k : Nat) (h : k < xs.length) : (xs.take (k + 1)).sum = (xs.take k).sum + xs.getD k 0 := by
  rw [List.take_succ_eq_append_getElem h, List.sum_append, getD_lt _ _ h]; simp
theorem sum_bd {lo hi : Int} : ∀ {xs : List Int}, allB xs lo hi = true → lo * xs.length ≤ xs.sum ∧ xs.sum ≤ hi * xs.length
  | [], _ => by simp
  | x :: r, h => by
    simp only [allB, List.all_cons, Bool.and_eq_true] at h
    have ih := sum_bd (xs := r) h.2
    have hx := inB_yes h.1
    simp only [List.sum_cons, List.length_cons, Int.natCast_add, Int.natCast_one, Int.mul_add, Int.mul_one]
    omega
theorem allB_take {xs : List Int} {lo hi : Int} (h : allB xs lo hi = true) (k : Nat) : allB (xs.take k) lo hi = true :=
  List.all_eq_true.2 fun x hx => List.all_eq_true.1 h x (List.mem_of_mem_take hx)
end Go.Proofs.Ytnchkgblpnompaa.Pf
namespace Go.Proofs.Ytnchkgblpnompaa.Bx

abbrev Fn := Nat → Int
theorem if_ge {c : Prop} [Decidable c] {x : Int} (h : 0 ≤ x) : 0 ≤ if c then x else 0 := by
  split
  · exact h
  · exact Int.le_refl _
def sumTo (f : Fn) : Nat → Int
  | 0 => 0
  | k + 1 => sumTo f k + f k
theorem sum_add (f g : Fn) : ∀ n, sumTo (fun i => f i + g i) n = sumTo f n + sumTo g n
  | 0 => rfl
  | n + 1 => by simp only [sumTo]; rw [sum_add f g n]; omega
theorem sum_le {f g : Fn} : ∀ n, (∀ i, i < n → f i ≤ g i) → sumTo f n ≤ sumTo g n
  | 0, _ => Int.le_refl _
  | n + 1, h => by
    have h1 := sum_le n (fun i hi => h i (by omega))
    have h2 := h n (by omega)
    simp only [sumTo]; omega
theorem sum_eq {f g : Fn} (n : Nat) (h : ∀ i, i < n → f i = g i) : sumTo f n = sumTo g n :=
  Int.le_antisymm (sum_le n fun i hi => Int.le_of_eq (h i hi)) (sum_le n fun i hi => Int.le_of_eq (h i hi).symm)
theorem sum_const (c : Int) : ∀ n : Nat, sumTo (fun _ => c) n = c * (n : Int)
  | 0 => by simp [sumTo]
  | n + 1 => by simp only [sumTo]; rw [sum_const c n, Int.natCast_succ, Int.mul_add]; omega
theorem sum_pos {f : Fn} (n : Nat) (h : ∀ i, i < n → 0 ≤ f i) : 0 ≤ sumTo f n := by
  have := sum_le (f := fun _ => 0) n h
  rw [sum_const] at this
  omega
theorem sum_mono {f : Fn} {m : Nat} : ∀ n, m ≤ n → (∀ i, i < n → 0 ≤ f i) → sumTo f m ≤ sumTo f n
  | 0, h, _ => by
    have : m = 0 := by omega
    subst this; exact Int.le_refl _
  | n + 1, h, hp => by
    by_cases e : m = n + 1
    · subst e; exact Int.le_refl _
    · have h1 := sum_mono (f := f) (m := m) n (by omega) (fun i hi => hp i (by omega))
      have h2 := hp n (by omega)
      simp only [sumTo]; omega
/-- Just one counts. -/
theorem sum_only {f : Fn} {x : Nat} : ∀ n, x < n → (∀ i, i < n → i ≠ x → f i = 0) → sumTo f n = f x
  | 0, h, _ => by omega
  | n + 1, h, hz => by
    simp only [sumTo]
    by_cases e : x = n
    · subst e
      have : sumTo f x = sumTo (fun _ => 0) x := sum_eq x fun i hi => hz i (by omega) (by omega)
      rw [this, sum_const]; omega
    · rw [sum_only n (by omega) (fun i hi hne => hz i (by omega) hne), hz n (by omega) (fun e' => e e'.symm)]; omega
theorem sum_ge_one {f : Fn} {x n : Nat} (hx : x < n) (hp : ∀ i, i < n → 0 ≤ f i) : f x ≤ sumTo f n := by
  have h1 : sumTo (fun i => if i = x then f x else 0) n = f x := by
    rw [sum_only n hx]
    · simp
    · intro i _ hne; simp [hne]
  rw [← h1]
  refine sum_le n fun i hi => ?_
  by_cases e : i = x
  · subst e; simp
  · simp [e]; exact hp i hi
theorem sum_ge_two {f : Fn} {x y n : Nat} (hx : x < n) (hy : y < n) (hxy : x ≠ y) (hp : ∀ i, i < n → 0 ≤ f i) : f x + f y ≤ sumTo f n := by
  have h1 : sumTo (fun i => if i = x then f x else 0) n = f x := by
    rw [sum_only n hx]
    · simp
    · intro i _ hne; simp [hne]
  have h2 : sumTo (fun i => if i = y then f y else 0) n = f y := by
    rw [sum_only n hy]
    · simp
    · intro i _ hne; simp [hne]
  rw [← h1, ← h2, ← sum_add]
  refine sum_le n fun i hi => ?_
  by_cases e : i = x
  · subst e; simp [hxy]
  · by_cases e' : i = y
    · subst e'; simp [e]
    · simp [e, e']; exact hp i hi

/-- What lies in a box of the first k. -/
def lev (q : Nat → Nat) (x : Fn) (k b : Nat) : Int := sumTo (fun j => if q j = b then x j else 0) k
theorem lev_succ (q : Nat → Nat) (x : Fn) (k b : Nat) : lev q x (k + 1) b = lev q x k b + if q k = b then x k else 0 := rfl
theorem lev_sum (q : Nat → Nat) (x : Fn) (n : Nat) : ∀ N, sumTo (fun b => lev q x N b) n = sumTo (fun i => if q i < n then x i else 0) N
  | 0 => by
    have : sumTo (fun b => lev q x 0 b) n = sumTo (fun _ => 0) n := sum_eq n fun i _ => rfl
    rw [this, sum_const]; simp [sumTo]
  | N + 1 => by
    have e : sumTo (fun b => lev q x (N + 1) b) n = sumTo (fun b => lev q x N b + if q N = b then x N else 0) n := sum_eq n fun i _ => rfl
    rw [e, sum_add, lev_sum q x n N]
    simp only [sumTo]
    congr 1
    by_cases h : q N < n
    · rw [if_pos h, sum_only n h]
      · simp
      · intro i _ hne; rw [if_neg (fun e => hne e.symm)]
    · rw [if_neg h]
      have : sumTo (fun b => if q N = b then x N else 0) n = sumTo (fun _ => 0) n := sum_eq n fun i hi => by
        rw [if_neg]; omega
      rw [this, sum_const]; omega
theorem lev_all {q : Nat → Nat} {x : Fn} {n N : Nat} (h : ∀ i, i < N → q i < n) : sumTo (fun b => lev q x N b) n = sumTo x N := by
  rw [lev_sum]
  exact sum_eq N fun i hi => by rw [if_pos (h i hi)]
theorem lev_nonneg {q : Nat → Nat} {x : Fn} {k : Nat} (hx : ∀ i, i < k → 0 ≤ x i) (b : Nat) : 0 ≤ lev q x k b :=
  sum_pos k fun i hi => if_ge (hx i hi)
theorem lev_mono {q : Nat → Nat} {x : Fn} {k m : Nat} (hkm : k ≤ m) (hx : ∀ i, i < m → 0 ≤ x i) (b : Nat) : lev q x k b ≤ lev q x m b :=
  sum_mono m hkm fun i hi => if_ge (hx i hi)
theorem lev_one {q : Nat → Nat} {x : Fn} {k i b : Nat} (hi : i < k) (e : q i = b) (hx : ∀ i, i < k → 0 ≤ x i) : x i ≤ lev q x k b := by
  have := sum_ge_one (f := fun j => if q j = b then x j else 0) hi (fun j hj => if_ge (hx j hj))
  rw [if_pos e] at this
  exact this
theorem lev_two {q : Nat → Nat} {x : Fn} {k i j b : Nat} (hi : i < k) (hj : j < k) (hij : i ≠ j) (e : q i = b) (e' : q j = b) (hx : ∀ i, i < k → 0 ≤ x i) : x i + x j ≤ lev q x k b := by
  have := sum_ge_two (f := fun j => if q j = b then x j else 0) hi hj hij (fun j hj => if_ge (hx j hj))
  rw [if_pos e, if_pos e'] at this
  exact this
theorem lev_le {q : Nat → Nat} {x y : Fn} {k b : Nat} (h : ∀ i, i < k → q i = b → x i ≤ y i) : lev q x k b ≤ lev q y k b :=
  sum_le k fun i hi => by
    by_cases e : q i = b
    · simp [e]; exact h i hi e
    · simp [e]
theorem lev_scale (q : Nat → Nat) (c : Int) (b : Nat) : ∀ k, lev q (fun _ => c) k b = c * lev q (fun _ => 1) k b
  | 0 => by simp [lev, sumTo]
  | k + 1 => by
    rw [lev_succ, lev_succ, lev_scale q c b k, Int.mul_add]
    split <;> simp
theorem lev_none {q : Nat → Nat} {x : Fn} {k b : Nat} (h : ∀ i, i < k → q i ≠ b) : lev q x k b = 0 := by
  have : lev q x k b = sumTo (fun _ => 0) k := sum_eq k fun i hi => by rw [if_neg (h i hi)]
  rw [this, sum_const]; omega
theorem lev_some {q : Nat → Nat} {x : Fn} {k b : Nat} (h : lev q x k b ≠ 0) : ∃ i, i < k ∧ q i = b := by
  apply Classical.byContradiction
  intro hn
  exact h (lev_none fun i hi e => hn ⟨i, hi, e⟩)
theorem lev_only {q : Nat → Nat} {x : Fn} {k i b : Nat} (hi : i < k) (e : q i = b) (h : ∀ j, j < k → j ≠ i → q j ≠ b) : lev q x k b = x i := by
  have := sum_only (f := fun j => if q j = b then x j else 0) k hi (fun j hj hne => by rw [if_neg (h j hj hne)])
  rw [if_pos e] at this
  exact this
/-- How many lie in a box of the first k. -/
abbrev num (q : Nat → Nat) (k b : Nat) : Int := lev q (fun _ => 1) k b
theorem num_one {q : Nat → Nat} {k i b : Nat} (hi : i < k) (e : q i = b) : 1 ≤ num q k b := lev_one (x := fun _ => 1) hi e (fun _ _ => by omega)
theorem num_two {q : Nat → Nat} {k i j b : Nat} (hi : i < k) (hj : j < k) (hij : i ≠ j) (e : q i = b) (e' : q j = b) : 2 ≤ num q k b := lev_two (x := fun _ => 1) hi hj hij e e' (fun _ _ => by omega)
theorem num_alone {q : Nat → Nat} {k i b : Nat} (hi : i < k) (e : q i = b) (h : num q k b ≤ 1) : ∀ j, j < k → j ≠ i → q j ≠ b := by
  intro j hj hne e'
  have := num_two hj hi hne e' e
  omega

/-- A packing into n boxes. -/
structure Pk (x : Fn) (N n : Nat) (p : Nat → Nat) : Prop where
  lt : ∀ i, i < N → p i < n
  le : ∀ b, b < n → lev p x N b ≤ 20
/-- Each item in the first box in which it had room. -/
structure FF (x : Fn) (N : Nat) (q : Nat → Nat) : Prop where
  full : ∀ i, i < N → ∀ b, b < q i → 20 < lev q x i b + x i
  room : ∀ i, i < N → lev q x i (q i) + x i ≤ 20
structure It (x : Fn) (N : Nat) : Prop where
  lo : ∀ i, i < N → 1 ≤ x i
  hi : ∀ i, i < N → x i ≤ 20
theorem It.ge {x : Fn} {N : Nat} (h : It x N) {k : Nat} (hk : k ≤ N) : ∀ i, i < k → 0 ≤ x i := fun i hi => by have := h.lo i (by omega); omega
/-- Boxes are begun in order. -/
theorem FF.before {x : Fn} {N : Nat} {q : Nat → Nat} (h : FF x N q) (hx : It x N) {i b : Nat} (hi : i < N) (hb : b < q i) : ∃ j, j < i ∧ q j = b := by
  have h1 := h.full i hi b hb
  have h2 := hx.hi i hi
  exact lev_some (x := x) (k := i) (by omega)
theorem FF.le {x : Fn} {N : Nat} {q : Nat → Nat} (h : FF x N q) : ∀ k, k ≤ N → ∀ b, lev q x k b ≤ 20
  | 0, _, b => by simp [lev, sumTo]
  | k + 1, hk, b => by
    rw [lev_succ]
    by_cases e : q k = b
    · subst e; simp; exact h.room k (by omega)
    · simp [e]; exact FF.le h k (by omega) b
/-- Two boxes together have more than one has room for. -/
theorem FF.two {x : Fn} {N : Nat} {q : Nat → Nat} (h : FF x N q) (hx : It x N) {i b : Nat} (hi : i < N) (hb : b < q i) : 20 < lev q x N b + lev q x N (q i) := by
  have h1 := h.full i hi b hb
  have h2 := lev_mono (q := q) (show i ≤ N by omega) (hx.ge (Nat.le_refl _)) b
  have h3 := lev_one (q := q) hi rfl (hx.ge (Nat.le_refl _))
  omega
/-- The boxes used: s of them. -/
structure Many (q : Nat → Nat) (N s : Nat) : Prop where
  lt : ∀ i, i < N → q i < s
  all : ∀ b, b < s → ∃ i, i < N ∧ q i = b
theorem pairs {x : Fn} {N s : Nat} {q : Nat → Nat} (h : FF x N q) (hx : It x N) (hs : Many q N s) : ∀ m, 2 * m ≤ s → 21 * (m : Int) ≤ sumTo (fun b => lev q x N b) (2 * m)
  | 0, _ => by simp [sumTo]
  | m + 1, hm => by
    have h1 := pairs h hx hs m (by omega)
    obtain ⟨i, hi, e⟩ := hs.all (2 * m + 1) (by omega)
    have h2 := h.two hx hi (b := 2 * m) (by omega)
    rw [e] at h2
    have e2 : 2 * (m + 1) = 2 * m + 1 + 1 := by omega
    rw [e2]
    simp only [sumTo]
    omega
/-- First fit needs fewer than twice as many as the least. -/
theorem ff_twice {x : Fn} {N s m : Nat} {q : Nat → Nat} (h : FF x N q) (hx : It x N) (hs : Many q N s) (hm : 1 ≤ m) (hsum : sumTo x N ≤ 20 * (m : Int)) : s + 1 ≤ 2 * m := by
  apply Classical.byContradiction
  intro hn
  have h1 := pairs h hx hs m (by omega)
  have h2 := sum_mono (f := fun b => lev q x N b) (m := 2 * m) s (by omega) (fun b _ => lev_nonneg (hx.ge (Nat.le_refl _)) b)
  rw [lev_all hs.lt] at h2
  omega

/-- How many of the first k lie behind the first n boxes. -/
def ov (q : Nat → Nat) (n : Nat) : Nat → Nat
  | 0 => 0
  | k + 1 => ov q n k + if n ≤ q k then 1 else 0
theorem ov_sum {x : Fn} {N n : Nat} {q : Nat → Nat} (h : FF x N q) (hx : It x N) : ∀ k, k ≤ N → ov q n k ≤ n → 21 * (ov q n k : Int) ≤ sumTo (fun b => lev q x N b) (ov q n k) + sumTo (fun i => if n ≤ q i then x i else 0) k
  | 0, _, _ => by simp [ov, sumTo]
  | k + 1, hk, ho => by
    by_cases hq : n ≤ q k
    · have e : ov q n (k + 1) = ov q n k + 1 := by simp [ov, hq]
      rw [e] at ho ⊢
      have h1 := ov_sum (n := n) h hx k (by omega) (by omega)
      have h2 := h.full k (by omega) (ov q n k) (by omega)
      have h3 := lev_mono (q := q) (show k ≤ N by omega) (hx.ge (Nat.le_refl _)) (ov q n k)
      simp only [sumTo, if_pos hq]
      omega
    · have e : ov q n (k + 1) = ov q n k := by simp [ov, hq]
      rw [e] at ho ⊢
      have h1 := ov_sum (n := n) h hx k (by omega) ho
      simp only [sumTo, if_neg hq]
      omega
/-- Behind as many boxes as are enough lie fewer items than these boxes are. -/
theorem ov_few {x : Fn} {N n : Nat} {q p : Nat → Nat} (h : FF x N q) (hx : It x N) (hp : Pk x N n p) (hn : 1 ≤ n) : ∀ k, k ≤ N → ov q n k < n
  | 0, _ => by simp [ov]; omega
  | k + 1, hk => by
    have h0 := ov_few h hx hp hn k (by omega)
    by_cases hq : n ≤ q k
    · have e : ov q n (k + 1) = ov q n k + 1 := by simp [ov, hq]
      apply Classical.byContradiction
      intro hc
      have e2 : ov q n (k + 1) = n := by omega
      have h1 := ov_sum (n := n) h hx (k + 1) hk (by omega)
      rw [e2] at h1
      rw [lev_sum] at h1
      have h2 := sum_mono (f := fun i => if n ≤ q i then x i else 0) (m := k + 1) N hk (fun i hi => if_ge (hx.ge (Nat.le_refl _) i hi))
      have h3 : sumTo (fun i => if q i < n then x i else 0) N + sumTo (fun i => if n ≤ q i then x i else 0) N = sumTo x N := by
        rw [← sum_add]
        refine sum_eq N fun i _ => ?_
        by_cases hl : q i < n
        · rw [if_pos hl, if_neg (by omega)]; omega
        · rw [if_neg hl, if_pos (by omega)]; omega
      have h4 : sumTo x N ≤ 20 * (n : Int) := by
        rw [← lev_all hp.lt, ← sum_const]
        exact sum_le n fun b hb => hp.le b hb
      omega
    · have e : ov q n (k + 1) = ov q n k := by simp [ov, hq]
      omega
theorem ov_num (q : Nat → Nat) (n : Nat) : ∀ k, sumTo (fun b => num q k b) n + (ov q n k : Int) = (k : Int) := by
  intro k
  rw [lev_sum]
  induction k with
  | zero => simp [sumTo, ov]
  | succ k ih =>
    simp only [sumTo, ov]
    by_cases h : n ≤ q k
    · simp [h, show ¬ q k < n by omega]; omega
    · simp [h, show q k < n by omega]; omega
/-- Items of which no two have room in one box are no more than boxes. -/
theorem apart {x : Fn} {N n t : Nat} {p : Nat → Nat} (hx : It x N) (hp : Pk x N n p) (ht : t ≤ N) (h : ∀ i j, i < j → j < t → 20 < x i + x j) : t ≤ n := by
  have h1 : ∀ b, b < n → num p t b ≤ 1 := by
    intro b hb
    apply Classical.byContradiction
    intro hc
    obtain ⟨i, hi, e⟩ := lev_some (q := p) (x := fun _ => 1) (k := t) (b := b) (fun e => by have e2 : num p t b = 0 := e; omega)
    have hno : ¬ ∀ j, j < t → j ≠ i → p j ≠ b := fun hall => by
      have e2 : num p t b = 1 := lev_only (x := fun _ => 1) hi e hall
      omega
    have : ∃ j, j < t ∧ j ≠ i ∧ p j = b := by
      apply Classical.byContradiction
      intro hn
      exact hno fun j hj hne e' => hn ⟨j, hj, hne, e'⟩
    obtain ⟨j, hj, hne, e'⟩ := this
    have h2 := lev_two (x := x) (k := N) (show i < N by omega) (show j < N by omega) (fun e => hne e.symm) e e' (hx.ge (Nat.le_refl _))
    have h3 := hp.le b hb
    rcases Nat.lt_or_gt_of_ne hne with c | c
    · have := h j i c hi; omega
    · have := h i j c hj; omega
  have h2 : sumTo (fun b => num p t b) n = sumTo (fun _ => 1) t := lev_all fun i hi => hp.lt i (by omega)
  have h3 := sum_le (f := fun b => num p t b) (g := fun _ => 1) n h1
  rw [h2, sum_const, sum_const] at h3
  omega

/-- The first item that did not go into the first n boxes is of a third at most. -/
theorem third {x : Fn} {N n t : Nat} {q p : Nat → Nat} (h : FF x N q) (hx : It x N) (hp : Pk x N n p) (hd : ∀ i j, i ≤ j → j < N → x j ≤ x i) (ht : t < N) (hq : q t = n) (hf : ∀ i, i < t → q i < n) : x t ≤ 6 := by
  apply Classical.byContradiction
  intro hc
  have hge : ∀ k, k ≤ t + 1 → ∀ r : Nat → Nat, ∀ b, 7 * num r k b ≤ lev r x k b := by
    intro k hk r b
    rw [← lev_scale r 7 b k]
    exact lev_le fun i hi _ => by have := hd i t (by omega) ht; omega
  -- weights: two for one alone in its box, else one
  have hw : ∃ w : Fn, (∀ i, i < t → num q t (q i) = 1 → w i = 2) ∧ (∀ i, i < t → num q t (q i) ≠ 1 → w i = 1) ∧ w t = 1 :=
    ⟨fun i => if i < t ∧ num q t (q i) = 1 then 2 else 1, fun i h1 h2 => by simp [h1, h2], fun i h1 h2 => by simp [h2], by simp⟩
  obtain ⟨w, w2, w1, wt⟩ := hw
  have hlen : ∀ b, b < n → lev q w t b = 2 := by
    intro b hb
    obtain ⟨j, hj, ej⟩ := h.before hx ht (b := b) (by rw [hq]; exact hb)
    have n1 := num_one hj ej
    have n2 := hge t (by omega) q b
    have n3 := h.le t (by omega) b
    by_cases e1 : num q t b = 1
    · have h1 : lev q w t b ≤ lev q (fun _ => 2) t b := lev_le fun i hi e => by rw [w2 i hi (by rw [e]; exact e1)]; omega
      have h2 : lev q (fun _ => 2) t b ≤ lev q w t b := lev_le fun i hi e => by rw [w2 i hi (by rw [e]; exact e1)]; omega
      rw [lev_scale] at h1 h2
      have e2 : lev q (fun _ => 1) t b = 1 := e1
      omega
    · have h1 : lev q w t b ≤ lev q (fun _ => 1) t b := lev_le fun i hi e => by rw [w1 i hi (by rw [e]; exact e1)]; omega
      have h2 : lev q (fun _ => 1) t b ≤ lev q w t b := lev_le fun i hi e => by rw [w1 i hi (by rw [e]; exact e1)]; omega
      have e2 : lev q (fun _ => 1) t b = num q t b := rfl
      omega
  have htot : sumTo w (t + 1) = 2 * (n : Int) + 1 := by
    simp only [sumTo]
    rw [wt, ← lev_all (q := q) (x := w) hf, sum_eq n hlen, sum_const]
  have hbox : ∀ b, b < n → lev p w (t + 1) b ≤ 2 := by
    intro b hb
    have l20 : lev p x (t + 1) b ≤ 20 := by
      have := lev_mono (q := p) (show t + 1 ≤ N by omega) (hx.ge (Nat.le_refl _)) b
      have := hp.le b hb
      omega
    by_cases hs : ∃ i, i < t ∧ p i = b ∧ num q t (q i) = 1
    · obtain ⟨i, hi, e, e1⟩ := hs
      have hal : lev q x t (q i) = x i := lev_only hi rfl (num_alone hi rfl (by omega))
      have hfu := h.full t ht (q i) (by rw [hq]; exact hf i hi)
      rw [hal] at hfu
      have hone : ∀ j, j < t + 1 → j ≠ i → p j ≠ b := fun j hj hne e' => by
        have h1 := lev_two (x := x) (k := t + 1) (show i < t + 1 by omega) hj (fun e => hne e.symm) e e' (hx.ge (by omega))
        have h2 := hd j t (by omega) ht
        omega
      rw [lev_only (show i < t + 1 by omega) e hone, w2 i hi e1]
      omega
    · have h1 : lev p w (t + 1) b ≤ lev p (fun _ => 1) (t + 1) b := lev_le fun i hi e => by
        by_cases hit : i = t
        · subst hit; rw [wt]; omega
        · rw [w1 i (by omega) (fun e1 => hs ⟨i, by omega, e, e1⟩)]; omega
      have h2 := hge (t + 1) (Nat.le_refl _) p b
      have e2 : lev p (fun _ => 1) (t + 1) b = num p (t + 1) b := rfl
      omega
  have h1 : sumTo (fun b => lev p w (t + 1) b) n = sumTo w (t + 1) := lev_all fun i hi => hp.lt i (by omega)
  have h2 := sum_le (f := fun b => lev p w (t + 1) b) (g := fun _ => 2) n hbox
  rw [h1, htot, sum_const] at h2
  omega
theorem first_at {P : Nat → Prop} : ∀ k, P k → ∃ m, m ≤ k ∧ P m ∧ ∀ j, j < m → ¬ P j := by
  intro k
  induction k using Nat.strongRecOn with
  | _ k ih =>
    intro hk
    by_cases h : ∃ j, j < k ∧ P j
    · obtain ⟨j, hj, hp⟩ := h
      obtain ⟨m, h1, h2, h3⟩ := ih j hj hp
      exact ⟨m, by omega, h2, h3⟩
    · exact ⟨k, Nat.le_refl _, hk, fun j hj hp => h ⟨j, hj, hp⟩⟩
/-- From the greatest on, of nine at most. -/
theorem johnson {x : Fn} {N n s : Nat} {q p : Nat → Nat} (h : FF x N q) (hx : It x N) (hs : Many q N s) (hp : Pk x N n p) (hd : ∀ i j, i ≤ j → j < N → x j ≤ x i) (hN : N ≤ 9) : 9 * s ≤ 11 * n + 6 := by
  apply Classical.byContradiction
  intro hc
  have hsN : s ≤ N := by
    -- each box has an item
    have h1 : sumTo (fun _ => 1) s ≤ sumTo (fun b => num q N b) s := sum_le s fun b hb => by
      obtain ⟨i, hi, e⟩ := hs.all b hb
      exact num_one hi e
    have h2 : sumTo (fun b => num q N b) s = sumTo (fun _ => 1) N := lev_all hs.lt
    rw [h2, sum_const, sum_const] at h1
    omega
  have hn : 1 ≤ n := by
    apply Classical.byContradiction
    intro h0
    by_cases hN0 : 0 < N
    · have := hp.lt 0 hN0; omega
    · omega
  have hlt : n < s := by omega
  have hov := ov_few h hx hp hn N (Nat.le_refl _)
  have hnum := ov_num q n N
  -- the first item behind n boxes
  obtain ⟨i0, hi0, e0⟩ := hs.all n hlt
  obtain ⟨t, ht0, ⟨htN, hqt⟩, hmin⟩ := first_at (P := fun i => i < N ∧ q i = n) i0 ⟨hi0, e0⟩
  have hf : ∀ i, i < t → q i < n := by
    intro i hi
    apply Classical.byContradiction
    intro hge
    by_cases e : q i = n
    · exact hmin i hi ⟨by omega, e⟩
    · obtain ⟨j, hj, ej⟩ := h.before hx (i := i) (by omega) (b := n) (by omega)
      exact hmin j (by omega) ⟨by omega, ej⟩
  have h6 := third h hx hp hd htN hqt hf
  have small : ∀ i, i < N → n ≤ q i → x i ≤ 6 := by
    intro i hi hq
    have : t ≤ i := by
      apply Classical.byContradiction
      intro hl
      have := hf i (by omega)
      omega
    have := hd t i this hi
    omega
  -- a box that is full for such an item has three of them
  have three : ∀ b, n ≤ b → b + 1 < s → 3 ≤ num q N b := by
    intro b hb hbs
    obtain ⟨i, hi, e⟩ := hs.all (b + 1) hbs
    have h1 := h.full i hi b (by omega)
    have h2 := small i hi (by omega)
    have h3 : lev q x i b ≤ lev q (fun _ => 6) i b := lev_le fun j hj e => small j (by omega) (by omega)
    rw [lev_scale] at h3
    have h4 : lev q (fun _ => 1) i b ≤ lev q (fun _ => 1) N b := lev_mono (by omega) (fun _ _ => by omega) b
    have e5 : num q N b = lev q (fun _ => 1) N b := rfl
    omega
  have htot : sumTo (fun b => num q N b) s = (N : Int) := by
    have h2 : sumTo (fun b => num q N b) s = sumTo (fun _ => 1) N := lev_all hs.lt
    rw [h2, sum_const]; omega
  have hge0 : ∀ b, b < s → 0 ≤ num q N b := fun b _ => lev_nonneg (fun _ _ => by omega) b
  have one : ∀ b, b < s → 1 ≤ num q N b := fun b hb => by
    obtain ⟨i, hi, e⟩ := hs.all b hb
    exact num_one hi e
  by_cases hs2 : n + 2 ≤ s
  · have h3 := three n (Nat.le_refl _) (by omega)
    have h4 := one (n + 1) (by omega)
    have h5 := sum_mono (f := fun b => num q N b) (m := n + 1 + 1) s (by omega) hge0
    simp only [sumTo] at h5
    have hn5 : 5 ≤ n := by omega
    by_cases hs3 : n + 3 ≤ s
    · have h6 := three (n + 1) (by omega) (by omega)
      have h7 := one (n + 2) (by omega)
      have h8 := sum_mono (f := fun b => num q N b) (m := n + 2 + 1) s (by omega) hge0
      simp only [sumTo] at h8
      have h9 := sum_le (f := fun _ => 1) (g := fun b => num q N b) n (fun b hb => one b (by omega))
      rw [sum_const] at h9
      omega
    · -- five boxes with one item each
      have hn' : n = 5 := by omega
      have hsum5 : sumTo (fun b => num q N b) n ≤ 5 := by omega
      have h9 := sum_le (f := fun _ => 1) (g := fun b => num q N b) n (fun b hb => one b (by omega))
      rw [sum_const] at h9
      have each : ∀ b, b < n → num q N b ≤ 1 := by
        intro b hb
        apply Classical.byContradiction
        intro hgt
        have h1 : sumTo (fun c => num q N c - 1) n = sumTo (fun b => num q N b) n - (n : Int) := by
          have := sum_add (fun b => num q N b) (fun _ => -1) n
          rw [sum_const] at this
          have e : sumTo (fun c => num q N c - 1) n = sumTo (fun i => num q N i + -1) n := sum_eq n fun i _ => by omega
          omega
        have h2 := sum_ge_one (f := fun c => num q N c - 1) hb (fun c hc => by have := one c (by omega); omega)
        omega
      have hap := apart (t := t + 1) hx hp (by omega) (fun i j hij hj => by
        have hit : i < t := by omega
        have h1 := h.full t htN (q i) (by rw [hqt]; exact hf i hit)
        have hal : num q t (q i) ≤ 1 := by
          have h2 : num q t (q i) ≤ num q N (q i) := lev_mono (by omega) (fun _ _ => by omega) _
          have h3 := each (q i) (hf i hit)
          omega
        have h4 : lev q x t (q i) = x i := lev_only hit rfl (num_alone hit rfl hal)
        have h5 := hd j t (by omega) htN
        omega)
      -- t is at least n
      have h10 := sum_le (f := fun _ => 1) (g := fun b => num q t b) n (fun b hb => by
        obtain ⟨j, hj, ej⟩ := h.before hx htN (b := b) (by rw [hqt]; exact hb)
        exact num_one hj ej)
      have h11 : sumTo (fun b => num q t b) n = sumTo (fun _ => 1) t := lev_all hf
      rw [h11, sum_const, sum_const] at h10
      omega
  · -- one box more
    have : s = n + 1 := by omega
    have h1 : n = 1 := by omega
    have h5 := sum_mono (f := fun b => num q N b) (m := n + 1) s (by omega) hge0
    simp only [sumTo] at h5
    have := one n (by omega)
    omega
end Go.Proofs.Ytnchkgblpnompaa.Bx
namespace Go.Proofs.Ytnchkgblpnompaa.Fr
def g (a b : Int) : Int := (Int.gcd a b : Int)
def mkN (n d : Int) : Int := if d < 0 then (-n).tdiv (g n d) else n.tdiv (g n d)
def mkD (n d : Int) : Int := if d < 0 then (-d).tdiv (g n d) else d.tdiv (g n d)
def partB (n : Int) : Bool := decide (-1000000000 ≤ n ∧ n ≤ 1000000000)
def goodB (n d : Int) : Bool := decide (-1000000000 ≤ n ∧ n ≤ 1000000000 ∧ 1 ≤ d ∧ d ≤ 1000000000 ∧ g n d = 1)
def fitN (n d : Int) : Int := if goodB n d = true then n else 0
def fitD (n d : Int) : Int := if goodB n d = true then d else 0

theorem g_nonneg (a b : Int) : 0 ≤ g a b := by unfold g; omega
theorem g_pos (a b : Int) (h : b ≠ 0) : 0 < g a b := by
  unfold g
  have : 0 < Int.gcd a b := Int.gcd_pos_of_ne_zero_right a h
  omega
theorem g_step (a b : Int) : g b (a.tmod b) = g a b := by
  unfold g Int.gcd
  rw [Int.natAbs_tmod, Nat.gcd_comm b.natAbs, ← Nat.gcd_rec, Nat.gcd_comm]
theorem g_zero (a : Int) : g a 0 = a.natAbs := by unfold g; simp
theorem g_abs (a b : Int) : g a.natAbs b.natAbs = g a b := by unfold g Int.gcd; simp
theorem g_neg (a b : Int) : g (-a) (-b) = g a b := by unfold g Int.gcd; simp
theorem g_negl (a b : Int) : g (-a) b = g a b := by unfold g Int.gcd; simp
theorem g_negr (a b : Int) : g a (-b) = g a b := by unfold g Int.gcd; simp
theorem g_dvdl (a b : Int) : g a b ∣ a := Int.gcd_dvd_left a b
theorem g_dvdr (a b : Int) : g a b ∣ b := Int.gcd_dvd_right a b
theorem g_le (a b : Int) (h : b ≠ 0) : g a b ≤ b.natAbs := by
  have h1 : 0 < (b.natAbs : Int) := by omega
  have h2 : g a b ∣ (b.natAbs : Int) := by rw [Int.dvd_natAbs]; exact g_dvdr a b
  exact Int.le_of_dvd h1 h2
theorem tmod_lt (a b : Int) (h : b ≠ 0) : (a.tmod b).natAbs < b.natAbs := by
  rw [Int.natAbs_tmod]; exact Nat.mod_lt _ (by omega)
theorem tdiv_abs (a b : Int) : (a.tdiv b).natAbs ≤ a.natAbs := by
  rw [Int.natAbs_tdiv]; exact Nat.div_le_self _ _
theorem mk_iff (n d : Int) (h : 1 ≤ d) : (n = mkN n d ∧ d = mkD n d) ↔ g n d = 1 := by
  have hn : ¬ d < 0 := by omega
  unfold mkN mkD
  rw [if_neg hn, if_neg hn]
  constructor
  · rintro ⟨_, h2⟩
    obtain ⟨k, hk⟩ := g_dvdr n d
    have hp := g_pos n d (by omega)
    generalize g n d = G at *
    have e : d.tdiv G = k := by rw [hk]; exact Int.mul_tdiv_cancel_left k (by omega)
    rw [e] at h2
    subst h2
    exact Int.eq_of_mul_eq_mul_right (a := d) (by omega) (by omega)
  · intro e; rw [e]; simp
theorem mkN_abs (n d : Int) : (mkN n d).natAbs ≤ n.natAbs := by
  unfold mkN; split
  · have := tdiv_abs (-n) (g n d); omega
  · exact tdiv_abs _ _
theorem mkD_abs (n d : Int) : (mkD n d).natAbs ≤ d.natAbs := by
  unfold mkD; split
  · have := tdiv_abs (-d) (g n d); omega
  · exact tdiv_abs _ _
theorem goodB_iff (n d : Int) : goodB n d = true ↔ (-1000000000 ≤ n ∧ n ≤ 1000000000 ∧ 1 ≤ d ∧ d ≤ 1000000000 ∧ g n d = 1) := by unfold goodB; simp
theorem good_of_mk (n d : Int) (h1 : partB n = true) (h2 : partB d = true) (h3 : 0 < d) : goodB n d = ((n == mkN n d) && (d == mkD n d)) := by
  have := mk_iff n d (by omega)
  unfold partB at h1 h2
  simp at h1 h2
  rw [Bool.eq_iff_iff, goodB_iff]
  simp only [Bool.and_eq_true, beq_iff_eq, this]
  omega
theorem good_n1 (n d : Int) (h : partB n = false) : goodB n d = false := by
  unfold partB at h; unfold goodB; simp at h ⊢; omega
theorem good_n2 (n d : Int) (h : partB d = false) : goodB n d = false := by
  unfold partB at h; unfold goodB; simp at h ⊢; omega
theorem good_n3 (n d : Int) (h : d ≤ 0) : goodB n d = false := by
  unfold goodB; simp; omega
theorem mul_bd (x y : Int) (hx0 : -1000000000 ≤ x) (hx1 : x ≤ 1000000000) (hy0 : -1000000000 ≤ y) (hy1 : y ≤ 1000000000) : -1000000000000000000 ≤ x * y ∧ x * y ≤ 1000000000000000000 := by
  have h : (x * y).natAbs ≤ 1000000000 * 1000000000 := by rw [Int.natAbs_mul]; exact Nat.mul_le_mul (by omega) (by omega)
  omega
theorem good_bd (n d : Int) (h : goodB n d = true) : -1000000000 ≤ n ∧ n ≤ 1000000000 ∧ 1 ≤ d ∧ d ≤ 1000000000 := by
  rw [goodB_iff] at h; omega
theorem den_pos (d1 d2 : Int) (h1 : 1 ≤ d1) (h2 : 1 ≤ d2) : 1 ≤ d1 * d2 := by
  have : 0 < d1 * d2 := Int.mul_pos (by omega) (by omega)
  omega
def addN (n1 d1 n2 d2 : Int) : Int := if goodB n1 d1 && goodB n2 d2 then fitN (mkN (n1 * d2 + n2 * d1) (d1 * d2)) (mkD (n1 * d2 + n2 * d1) (d1 * d2)) else 0
def addD (n1 d1 n2 d2 : Int) : Int := if goodB n1 d1 && goodB n2 d2 then fitD (mkN (n1 * d2 + n2 * d1) (d1 * d2)) (mkD (n1 * d2 + n2 * d1) (d1 * d2)) else 0
def addB (n1 d1 n2 d2 : Int) : Bool := goodB n1 d1 && goodB n2 d2 && goodB (mkN (n1 * d2 + n2 * d1) (d1 * d2)) (mkD (n1 * d2 + n2 * d1) (d1 * d2))
def mulN (n1 d1 n2 d2 : Int) : Int := if goodB n1 d1 && goodB n2 d2 then fitN (mkN (n1 * n2) (d1 * d2)) (mkD (n1 * n2) (d1 * d2)) else 0
def mulD (n1 d1 n2 d2 : Int) : Int := if goodB n1 d1 && goodB n2 d2 then fitD (mkN (n1 * n2) (d1 * d2)) (mkD (n1 * n2) (d1 * d2)) else 0
def mulB (n1 d1 n2 d2 : Int) : Bool := goodB n1 d1 && goodB n2 d2 && goodB (mkN (n1 * n2) (d1 * d2)) (mkD (n1 * n2) (d1 * d2))
def divN (n1 d1 n2 d2 : Int) : Int := if goodB n1 d1 && goodB n2 d2 && n2 != 0 then fitN (mkN (n1 * d2) (d1 * n2)) (mkD (n1 * d2) (d1 * n2)) else 0
def divD (n1 d1 n2 d2 : Int) : Int := if goodB n1 d1 && goodB n2 d2 && n2 != 0 then fitD (mkN (n1 * d2) (d1 * n2)) (mkD (n1 * d2) (d1 * n2)) else 0
def divB (n1 d1 n2 d2 : Int) : Bool := goodB n1 d1 && goodB n2 d2 && n2 != 0 && goodB (mkN (n1 * d2) (d1 * n2)) (mkD (n1 * d2) (d1 * n2))
def flr (n d : Int) : Int := if n.tmod d < 0 then n.tdiv d - 1 else n.tdiv d
def lessB (n1 d1 n2 d2 : Int) : Bool := decide (n1 * d2 < n2 * d1)
/-- The sum from the front on, as far as each sum on the way is good. -/
def sumL : List (Int × Int) → Int → Int → Option (Int × Int)
  | [], n, d => some (n, d)
  | x :: r, n, d => if addB n d x.1 x.2 = true then sumL r (addN n d x.1 x.2) (addD n d x.1 x.2) else none
def sumN (l : List (Int × Int)) : Int := if l.length ≤ 50 then ((sumL l 0 1).getD (0, 0)).1 else 0
def sumD (l : List (Int × Int)) : Int := if l.length ≤ 50 then ((sumL l 0 1).getD (0, 0)).2 else 0
def sumB (l : List (Int × Int)) : Bool := decide (l.length ≤ 50) && (sumL l 0 1).isSome
theorem drop_get (xs : List (Int × Int)) (k : Nat) (h : k < xs.length) : xs.drop k = xs.getD k (0, 0) :: xs.drop (k + 1) := by
  rw [List.drop_eq_getElem_cons h, List.getD_eq_getElem?_getD, List.getElem?_eq_getElem h]; rfl
theorem sumL_step (xs : List (Int × Int)) (k : Nat) (n d : Int) (x : Int × Int) (h : k < xs.length) (hx : xs.getD k (0, 0) = x) (hb : addB n d x.1 x.2 = true) : sumL (xs.drop k) n d = sumL (xs.drop (k + 1)) (addN n d x.1 x.2) (addD n d x.1 x.2) := by
  rw [drop_get xs k h, hx]; simp [sumL, hb]
theorem sumL_stop (xs : List (Int × Int)) (k : Nat) (n d : Int) (x : Int × Int) (h : k < xs.length) (hx : xs.getD k (0, 0) = x) (hb : addB n d x.1 x.2 = false) : sumL (xs.drop k) n d = none := by
  rw [drop_get xs k h, hx]; simp [sumL, hb]
theorem sum_none (xs : List (Int × Int)) (h : sumL xs 0 1 = none) : sumN xs = 0 ∧ sumD xs = 0 ∧ sumB xs = false := by
  unfold sumN sumD sumB; rw [h]; simp
theorem sum_some (xs : List (Int × Int)) (hl : xs.length ≤ 50) (n d : Int) (h : sumL xs 0 1 = some (n, d)) : sumN xs = n ∧ sumD xs = d ∧ sumB xs = true := by
  unfold sumN sumD sumB; rw [h]; simp [hl]
theorem sum_long (xs : List (Int × Int)) (hl : 50 < xs.length) : sumN xs = 0 ∧ sumD xs = 0 ∧ sumB xs = false := by
  have : ¬ xs.length ≤ 50 := by omega
  unfold sumN sumD sumB; simp [this]
theorem cop_dvd (a b c : Int) (h : Int.gcd a b = 1) (hd : a ∣ b * c) : a ∣ c := by
  rw [← Int.natAbs_dvd_natAbs] at hd ⊢
  rw [Int.natAbs_mul] at hd
  exact Nat.Coprime.dvd_of_dvd_mul_left (show Nat.Coprime a.natAbs b.natAbs from h) hd
theorem frac_uniq (n1 d1 n2 d2 : Int) (h1 : goodB n1 d1 = true) (h2 : goodB n2 d2 = true) (h : n1 * d2 = n2 * d1) : n1 = n2 ∧ d1 = d2 := by
  rw [goodB_iff] at h1 h2
  obtain ⟨_, _, p1, _, g1⟩ := h1
  obtain ⟨_, _, p2, _, g2⟩ := h2
  have c1 : Int.gcd d1 n1 = 1 := by unfold g at g1; rw [Int.gcd_comm]; omega
  have c2 : Int.gcd d2 n2 = 1 := by unfold g at g2; rw [Int.gcd_comm]; omega
  have e1 : d1 ∣ d2 := by
    have : d1 ∣ n1 * d2 := by rw [h]; exact Int.dvd_mul_left _ _
    exact cop_dvd d1 n1 d2 c1 this
  have e2 : d2 ∣ d1 := by
    have : d2 ∣ n2 * d1 := by rw [← h]; exact Int.dvd_mul_left _ _
    exact cop_dvd d2 n2 d1 c2 this
  have ed : d1 = d2 := Int.dvd_antisymm (by omega) (by omega) e1 e2
  subst ed
  exact ⟨Int.eq_of_mul_eq_mul_right (by omega) h, rfl⟩
theorem less_cases (n1 d1 n2 d2 : Int) (h1 : goodB n1 d1 = true) (h2 : goodB n2 d2 = true) :
    (lessB n1 d1 n2 d2 = true ∧ lessB n2 d2 n1 d1 = false) ∨ (lessB n1 d1 n2 d2 = false ∧ lessB n2 d2 n1 d1 = true) ∨ (lessB n1 d1 n2 d2 = false ∧ lessB n2 d2 n1 d1 = false ∧ n1 = n2 ∧ d1 = d2) := by
  unfold lessB
  by_cases a : n1 * d2 < n2 * d1
  · left; simp [a]; omega
  · by_cases b : n2 * d1 < n1 * d2
    · right; left; simp [b]; omega
    · right; right
      have := frac_uniq n1 d1 n2 d2 h1 h2 (by omega)
      refine ⟨by simp; omega, by simp; omega, this.1, this.2⟩
def subN (n1 d1 n2 d2 : Int) : Int := if goodB n1 d1 && goodB n2 d2 then fitN (mkN (n1 * d2 - n2 * d1) (d1 * d2)) (mkD (n1 * d2 - n2 * d1) (d1 * d2)) else 0
def subD (n1 d1 n2 d2 : Int) : Int := if goodB n1 d1 && goodB n2 d2 then fitD (mkN (n1 * d2 - n2 * d1) (d1 * d2)) (mkD (n1 * d2 - n2 * d1) (d1 * d2)) else 0
def subB (n1 d1 n2 d2 : Int) : Bool := goodB n1 d1 && goodB n2 d2 && goodB (mkN (n1 * d2 - n2 * d1) (d1 * d2)) (mkD (n1 * d2 - n2 * d1) (d1 * d2))
theorem mkN_neg_iff (n d : Int) (hd : 0 < d) : mkN n d < 0 ↔ n < 0 := by
  have hg := g_pos n d (by omega)
  unfold mkN
  rw [if_neg (by omega)]
  obtain ⟨k, hk⟩ := g_dvdl n d
  generalize g n d = G at *
  have e : n.tdiv G = k := by rw [hk]; exact Int.mul_tdiv_cancel_left k (by omega)
  rw [e, hk]
  constructor
  · intro h; exact Int.mul_neg_of_pos_of_neg hg h
  · intro h
    rcases Int.lt_or_le k 0 with h' | h'
    · exact h'
    · have := Int.mul_nonneg (by omega : 0 ≤ G) h'; omega
theorem sub_less (n1 d1 n2 d2 : Int) (h1 : goodB n1 d1 = true) (h2 : goodB n2 d2 = true) (h : subB n1 d1 n2 d2 = true) : lessB n1 d1 n2 d2 = decide (subN n1 d1 n2 d2 < 0) := by
  have p1 := good_bd n1 d1 h1
  have p2 := good_bd n2 d2 h2
  unfold subB at h
  rw [h1, h2] at h
  simp at h
  unfold subN fitN
  rw [h1, h2]
  simp only [Bool.and_self, if_true, h]
  have := mkN_neg_iff (n1 * d2 - n2 * d1) (d1 * d2) (by have := den_pos d1 d2 p1.2.2.1 p2.2.2.1; omega)
  unfold lessB
  rw [Bool.eq_iff_iff]
  simp only [decide_eq_true_eq, this]
  omega
theorem flr_spec (n d : Int) (hd : 1 ≤ d) : flr n d * d ≤ n ∧ n < (flr n d + 1) * d := by
  have e := Int.tmod_add_mul_tdiv n d
  have hl := tmod_lt n d (by omega)
  unfold flr
  split
  · rename_i h
    constructor
    · have : (n.tdiv d - 1) * d = d * n.tdiv d - d := by rw [Int.sub_mul, Int.one_mul, Int.mul_comm]
      rw [this]; omega
    · have : (n.tdiv d - 1 + 1) * d = d * n.tdiv d := by rw [Int.sub_add_cancel, Int.mul_comm]
      rw [this]; omega
  · rename_i h
    constructor
    · rw [Int.mul_comm]; omega
    · have : (n.tdiv d + 1) * d = d * n.tdiv d + d := by rw [Int.add_mul, Int.one_mul, Int.mul_comm]
      rw [this]; omega
theorem sumL_snoc (ys : List (Int × Int)) (x : Int × Int) : ∀ n d, sumL (ys ++ [x]) n d = (sumL ys n d).bind fun p => if addB p.1 p.2 x.1 x.2 = true then some (addN p.1 p.2 x.1 x.2, addD p.1 p.2 x.1 x.2) else none := by
  induction ys with
  | nil => intro n d; simp [sumL]
  | cons y r ih =>
    intro n d
    simp only [List.cons_append, sumL]
    split
    · exact ih _ _
    · rfl
theorem sum_back (ys : List (Int × Int)) (x : Int × Int) (h : sumB (ys ++ [x]) = true) : sumB ys = true ∧ addB (sumN ys) (sumD ys) x.1 x.2 = true ∧ addN (sumN ys) (sumD ys) x.1 x.2 = sumN (ys ++ [x]) ∧ addD (sumN ys) (sumD ys) x.1 x.2 = sumD (ys ++ [x]) := by
  unfold sumB at h
  simp only [List.length_append, List.length_cons, List.length_nil, Bool.and_eq_true, decide_eq_true_eq] at h
  obtain ⟨hl, hs⟩ := h
  rw [sumL_snoc] at hs
  cases e : sumL ys 0 1 with
  | none => rw [e] at hs; simp at hs
  | some p =>
    rw [e] at hs
    simp only [Option.bind_some] at hs
    have hadd : addB p.1 p.2 x.1 x.2 = true := by
      cases hh : addB p.1 p.2 x.1 x.2
      · rw [hh] at hs; simp at hs
      · rfl
    have s1 := sum_some ys (by omega) p.1 p.2 e
    have e2 : sumL (ys ++ [x]) 0 1 = some (addN p.1 p.2 x.1 x.2, addD p.1 p.2 x.1 x.2) := by rw [sumL_snoc, e]; simp [hadd]
    have s2 := sum_some (ys ++ [x]) (by simp; omega) _ _ e2
    rw [s1.1, s1.2.1, s2.1, s2.2.1]
    exact ⟨s1.2.2, hadd, rfl, rfl⟩
end Go.Proofs.Ytnchkgblpnompaa.Fr
namespace Go.Proofs.Ytnchkgblpnompaa
open Go.RowKit

theorem World.drewN_drew (w : World) (k : Nat) : (w.drewN k).drew = w.drewN (k + 1) := rfl
theorem hide {p : Prop} (h : p) : Hid p := h
theorem ret_bool {a b : Bool} (h : a = b) : Ending.returned (.bool a) = .returned (.bool b) := by rw [h]
theorem ret_int {k : IntKind} {a b : Int} (h : a = b) : Ending.returned (.int k a) = .returned (.int k b) := by rw [h]

theorem wrap_id (a : Int) (h0 : -9000000000000000000 ≤ a) (h1 : a ≤ 9000000000000000000) : wrap64 a = a := by unfold wrap64; omega
theorem wrap_id' (a : Int) (h0 : -9223372036854775808 ≤ a) (h1 : a ≤ 9223372036854775807) : wrap64 a = a := by unfold wrap64; omega
theorem wrap_mul (x y : Int) (hx0 : -1000000000 ≤ x) (hx1 : x ≤ 1000000000) (hy0 : -1000000000 ≤ y) (hy1 : y ≤ 1000000000) : wrap64 (x * y) = x * y := by
  have := Fr.mul_bd x y hx0 hx1 hy0 hy1
  exact wrap_id _ (by omega) (by omega)
theorem mkN_neg (n d : Int) (h0 : -4000000000000000000 ≤ n) (h1 : n ≤ 4000000000000000000) (hd : d < 0) : wrap64 (-n.tdiv (Fr.g (-n) (-d))) = Fr.mkN n d := by
  have := Fr.tdiv_abs n (Fr.g (-n) (-d))
  rw [wrap_id _ (by omega) (by omega)]
  unfold Fr.mkN; rw [if_pos hd, Fr.g_neg, Int.neg_tdiv]
theorem mkD_neg (n d : Int) (h0 : -4000000000000000000 ≤ d) (hd : d < 0) : wrap64 (-d.tdiv (Fr.g (-n) (-d))) = Fr.mkD n d := by
  have := Fr.tdiv_abs d (Fr.g (-n) (-d))
  rw [wrap_id _ (by omega) (by omega)]
  unfold Fr.mkD; rw [if_pos hd, Fr.g_neg, Int.neg_tdiv]
theorem mkN_pos (n d : Int) (hd : 0 < d) : n.tdiv (Fr.g n d) = Fr.mkN n d := by
  unfold Fr.mkN; rw [if_neg (by omega)]
theorem wrap_mkN (n d : Int) (h0 : -4000000000000000000 ≤ n) (h1 : n ≤ 4000000000000000000) : wrap64 (Fr.mkN n d) = Fr.mkN n d := by
  have := Fr.mkN_abs n d
  exact wrap_id _ (by omega) (by omega)
theorem mkD_pos (n d : Int) (hd : 0 < d) : d / Fr.g n d = Fr.mkD n d := by
  unfold Fr.mkD; rw [if_neg (by omega), Int.tdiv_eq_ediv_of_nonneg (by omega)]

end Go.Proofs.Ytnchkgblpnompaa
namespace Go.Proofs.Ytnchkgblpnompaa
open Go.RowKit

def ints (xs : List Int) : List Value := xs.map fun x => .int .i64 x
theorem ints_len (xs : List Int) : (ints xs).length = xs.length := by simp [ints]
theorem ints_snoc (xs : List Int) (x : Int) : ints (xs ++ [x]) = ints xs ++ [.int .i64 x] := by simp [ints]
theorem ints_get (xs : List Int) (j : Nat) (h : j < xs.length) : (ints xs)[j]? = some (.int .i64 (xs.getD j 0)) := by
  simp [ints, h]
theorem ints_set (xs : List Int) (j : Nat) (x : Int) : (ints xs).set j (.int .i64 x) = ints (xs.set j x) := by simp [ints, List.map_set]

/-- A slice of whole numbers, as it lies in memory. -/
def IRow (w : World) (v : Value) (xs : List Int) : Prop :=
  (xs = [] ∧ ∃ a c, v = .slice a 0 c) ∨ ∃ b o c, v = .slice (some ⟨b, o, none⟩) xs.length c ∧ b < w.heap.size ∧ ∀ i, i < xs.length → w.cell? ⟨b, o + i, none⟩ = some (.int .i64 (xs.getD i 0))
theorem IRow.below {w w' : World} {v : Value} {xs : List Int} (h : IRow w v xs) (hb : Below w.heap.size w w') : IRow w' v xs := by
  rcases h with h | ⟨b, o, c, hv, hlt, hc⟩
  · exact Or.inl h
  · exact Or.inr ⟨b, o, c, hv, Nat.lt_of_lt_of_le hlt hb.size, fun i hi => (hb.cell (p := ⟨b, o + i, none⟩) hlt).trans (hc i hi)⟩
theorem irow_owns {w : World} {base e : Nat} {v : Value} {xs : List Int} (h : w.ownsRow base e 1 v xs.length (ints xs)) : IRow w v xs := by
  rcases h.2 with ⟨hv, hn⟩ | ⟨g, cap, cur, hv, hb, hg, r⟩
  · exact Or.inl ⟨List.length_eq_zero_iff.1 hn, none, 0, hn ▸ hv⟩
  · subst hv
    refine Or.inr ⟨g, 0, cap, rfl, (Array.getElem?_eq_some_iff.1 hg).1, fun i hi => ?_⟩
    rw [Nat.zero_add, h.cellAt i (by simpa using hi), ints_get xs i hi]
end Go.Proofs.Ytnchkgblpnompaa
namespace Go.Proofs.Ytnchkgblpnompaa
open Go.RowKit

theorem bcell {W w1 : World} (hb : Below W.heap.size W w1) : (∀ b o, b < W.heap.size → w1.cell? ⟨b, o, none⟩ = W.cell? ⟨b, o, none⟩) ∧ (∀ b o, b < W.heap.size → w1.frozen? ⟨b, o, none⟩ = W.frozen? ⟨b, o, none⟩) :=
  ⟨fun b o h => hb.cell (p := ⟨b, o, none⟩) h, fun b o h => hb.frozen (p := ⟨b, o, none⟩) h⟩

end Go.Proofs.Ytnchkgblpnompaa
namespace Go.Proofs.Ytnchkgblpnompaa
open Go.RowKit

set_option maxRecDepth 100000 in
set_option maxHeartbeats 400000 in
theorem in_yes {n lo hi : Int} {w : World} (h1 : lo ≤ n) (h2 : n ≤ hi) :
    Calls Try.prog 63 #[.int .i64 n, .int .i64 lo, .int .i64 hi] w fun e w' => e = .returned (.bool true) ∧ w' = w := by
  go_enter Try.func63, Try.ntmps63
  go_wp2
  go_ret
  exact ⟨rfl, rfl⟩

set_option maxRecDepth 100000 in
set_option maxHeartbeats 400000 in
theorem in_no {n lo hi : Int} {w : World} (h : n < lo ∨ hi < n) :
    Calls Try.prog 63 #[.int .i64 n, .int .i64 lo, .int .i64 hi] w fun e w' => e = .returned (.bool false) ∧ w' = w := by
  by_cases h1 : lo ≤ n
  · have h2 : ¬ n ≤ hi := by omega
    clear h
    go_enter Try.func63, Try.ntmps63
    go_wp2
    go_ret
    exact ⟨rfl, rfl⟩
  · clear h
    go_enter Try.func63, Try.ntmps63
    go_wp2
    go_ret
    exact ⟨rfl, rfl⟩

end Go.Proofs.Ytnchkgblpnompaa
namespace Go.Proofs.Ytnchkgblpnompaa
open Go.RowKit

/-- A slice of whole numbers, wherever it lies: its address, and what it holds. -/
def ARow (w : World) (a : Option Addr) (xs : List Int) : Prop := xs = [] ∨ ∃ b off, a = some ⟨b, off, none⟩ ∧ b < w.heap.size ∧ ∀ i, i < xs.length → w.cell? ⟨b, off + i, none⟩ = some (.int .i64 (xs.getD i 0))
theorem ARow.keep {w w' : World} {a : Option Addr} {xs : List Int} (h : ARow w a xs) (hs : w.heap.size ≤ w'.heap.size) (hB : ∀ b, b < w.heap.size → w'.heap[b]? = w.heap[b]?) : ARow w' a xs := by
  rcases h with h | ⟨b, off, ha, hb, hc⟩
  · exact Or.inl h
  · exact Or.inr ⟨b, off, ha, Nat.lt_of_lt_of_le hb hs, fun i hi => (World.cell?_of_block (w := w) (a := ⟨b, off + i, none⟩) (hB b hb)).trans (hc i hi)⟩
theorem ARow.below {w w' : World} {a : Option Addr} {xs : List Int} (h : ARow w a xs) (hB : Below w.heap.size w w') : ARow w' a xs := h.keep hB.size hB.block
theorem ARow.alloc {w : World} {a : Option Addr} {xs : List Int} (h : ARow w a xs) (o : Obj) : ARow (w.alloc o) a xs := h.below ((Below.refl _ _).alloc (Nat.le_refl _) _)
theorem ARow.drewN {w : World} {a : Option Addr} {xs : List Int} (h : ARow w a xs) (q : Nat) : ARow (w.drewN q) a xs := h
theorem ARow.at {w : World} {a : Option Addr} {xs : List Int} (h : ARow w a xs) {i : Nat} (hi : i < xs.length) : ∃ b off, a = some ⟨b, off, none⟩ ∧ w.cell? ⟨b, off + i, none⟩ = some (.int .i64 (xs.getD i 0)) := by
  rcases h with h | ⟨b, off, ha, _, hc⟩
  · rw [h] at hi; simp at hi
  · exact ⟨b, off, ha, hc i hi⟩
theorem ARow.at' {w : World} {a : Option Addr} {xs : List Int} (h : ARow w a xs) {i : Nat} (hi : i < xs.length) : ∃ b off, a = some ⟨b, off, none⟩ ∧ ∀ o, (w.alloc o).cell? ⟨b, off + i, none⟩ = some (.int .i64 (xs.getD i 0)) := by
  rcases h with h | ⟨b, off, ha, hb, hc⟩
  · rw [h] at hi; simp at hi
  · exact ⟨b, off, ha, fun o => (((Below.refl _ _).alloc (Nat.le_refl _) o).cell (p := ⟨b, off + i, none⟩) hb).trans (hc i hi)⟩
theorem arow_owns {w : World} {base e : Nat} {g n cap : Nat} {xs : List Int} (hn : n = xs.length) (h : w.ownsRow base e 1 (.slice (some ⟨g, 0, none⟩) n cap) n (ints xs)) : ARow w (some ⟨g, 0, none⟩) xs := by
  subst hn
  rcases irow_owns h with ⟨h, _⟩ | ⟨b, o, c, hv, hlt, hc⟩
  · exact Or.inl h
  · cases hv; exact Or.inr ⟨_, _, rfl, hlt, hc⟩

set_option maxRecDepth 100000 in
set_option maxHeartbeats 400000 in
theorem between_any (n lo hi : Int) (w : World) :
    Calls Try.prog 58 #[.int .i64 n, .int .i64 lo, .int .i64 hi] w fun e w' => e = .returned (.bool (Pf.inB n lo hi)) ∧ w' = w := by
  unfold Pf.inB
  by_cases h1 : lo ≤ n
  · by_cases h2 : n ≤ hi
    · go_enter Try.func58, Try.ntmps58
      go_wp2
      go_ret
      exact ⟨by simp [h1, h2], rfl⟩
    · go_enter Try.func58, Try.ntmps58
      go_wp2
      go_ret
      exact ⟨by simp [show ¬ n ≤ hi by omega], rfl⟩
  · go_enter Try.func58, Try.ntmps58
    go_wp2
    go_ret
    exact ⟨by simp [show ¬ lo ≤ n by omega], rfl⟩
theorem between_eq {n lo hi : Int} {w : World} {b : Bool} (h : Pf.inB n lo hi = b) :
    Calls Try.prog 58 #[.int .i64 n, .int .i64 lo, .int .i64 hi] w fun e w' => e = .returned (.bool b) ∧ w' = w := h ▸ between_any n lo hi w

set_option maxRecDepth 100000 in
set_option maxHeartbeats 1000000 in
theorem areb_any {a : Option Addr} {c : Nat} {xs : List Int} {lo hi : Int} {w : World} (h : ARow w a xs) (hl : xs.length ≤ 4000000000000) :
    Calls Try.prog 39 #[.slice a xs.length c, .int .i64 lo, .int .i64 hi] w fun e w' => e = .returned (.bool (Pf.allB xs lo hi)) ∧ w' = w := by
  have H := hide h
  clear h
  go_enter Try.func39, Try.ntmps39
  go_wp2_with fail
  go_loop [6, 8, 11] (fun s6 _ s => ∃ k : Nat, s6 = .bool false ∧ s = .int .i64 k ∧ k ≤ xs.length ∧ Hid (∀ i, i < k → Pf.inB (xs.getD i 0) lo hi = true)) (fun _ _ s => xs.length - (intOf s).toNat)
  case atStart => exact ⟨0, rfl, rfl, Nat.zero_le _, hide fun i hi => absurd hi (Nat.not_lt_zero _)⟩
  case round =>
    obtain ⟨k, rfl, rfl, hk, HA⟩ := hrel
    by_cases hlt : k < xs.length
    · obtain ⟨b, off, rfl, r1⟩ := H.out.at hlt
      have i0 : (0 : Int) ≤ (k : Int) := by omega
      have i1 : (k : Int) < (xs.length : Int) := by omega
      have HX := hide (rfl : xs.getD k 0 = xs.getD k 0)
      generalize hx : xs.getD k 0 = x at r1
      cases hb : Pf.inB x lo hi
      · have HN := hide (Pf.allB_not (lo := lo) (hi := hi) hlt (by rw [hx]; exact hb))
        clear hx
        go_wp2_with fail
        refine (between_eq hb).mono ?_
        rintro e w1 ⟨rfl, rfl⟩
        go_wp2_with fail
        go_ret
        exact ⟨ret_bool HN.out.symm, rfl⟩
      · have HY : Hid (∀ i, i < k + 1 → Pf.inB (xs.getD i 0) lo hi = true) := hide fun i hi => by
          by_cases e : i = k
          · subst e; rw [hx]; exact hb
          · exact HA.out i (by omega)
        clear hx
        go_wp2_with fail
        refine (between_eq hb).mono ?_
        rintro e w1 ⟨rfl, rfl⟩
        go_wp2_with fail
        go_round
        case rel => exact ⟨k + 1, rfl, by go_num, by omega, HY⟩
        case measure => simp only [intOf]; omega
    · have hke : k = xs.length := by omega
      subst hke
      have HY := hide (Pf.allB_of HA.out)
      go_wp2_with fail
      go_ret
      exact ⟨ret_bool HY.out.symm, rfl⟩
theorem areb_eqn {a : Option Addr} {n c : Nat} {xs : List Int} {lo hi : Int} {w : World} {r : Bool} (h : Hid (ARow w a xs)) (hn : Hid (xs.length = n)) (hl : n ≤ 1000) (hr : Hid (Pf.allB xs lo hi = r)) :
    Calls Try.prog 39 #[.slice a n c, .int .i64 lo, .int .i64 hi] w fun e w' => e = .returned (.bool r) ∧ w' = w := by
  have := hn.out
  subst this
  exact hr.out ▸ areb_any h.out (by omega)

theorem in_eq {n lo hi : Int} {w : World} {b : Bool} (h : Pf.inB n lo hi = b) :
    Calls Try.prog 63 #[.int .i64 n, .int .i64 lo, .int .i64 hi] w fun e w' => e = .returned (.bool b) ∧ w' = w := by
  cases b
  · exact in_no (Pf.inB_no h)
  · exact in_yes (Pf.inB_yes h).1 (Pf.inB_yes h).2

set_option maxRecDepth 100000 in
set_option maxHeartbeats 1000000 in
theorem all_any {a : Option Addr} {c : Nat} {xs : List Int} {lo hi : Int} {w : World} (h : ARow w a xs) (hl : xs.length ≤ 4000000000000) :
    Calls Try.prog 51 #[.slice a xs.length c, .int .i64 lo, .int .i64 hi] w fun e w' => e = .returned (.bool (Pf.allB xs lo hi)) ∧ w' = w := by
  have H := hide h
  clear h
  go_enter Try.func51, Try.ntmps51
  go_wp2_with fail
  go_loop [6, 8, 11] (fun s6 _ s => ∃ k : Nat, s6 = .bool false ∧ s = .int .i64 k ∧ k ≤ xs.length ∧ Hid (∀ i, i < k → Pf.inB (xs.getD i 0) lo hi = true)) (fun _ _ s => xs.length - (intOf s).toNat)
  case atStart => exact ⟨0, rfl, rfl, Nat.zero_le _, hide fun i hi => absurd hi (Nat.not_lt_zero _)⟩
  case round =>
    obtain ⟨k, rfl, rfl, hk, HA⟩ := hrel
    by_cases hlt : k < xs.length
    · obtain ⟨b, off, rfl, r1⟩ := H.out.at hlt
      have i0 : (0 : Int) ≤ (k : Int) := by omega
      have i1 : (k : Int) < (xs.length : Int) := by omega
      have HX := hide (rfl : xs.getD k 0 = xs.getD k 0)
      generalize hx : xs.getD k 0 = x at r1
      cases hb : Pf.inB x lo hi
      · have HN := hide (Pf.allB_not (lo := lo) (hi := hi) hlt (by rw [hx]; exact hb))
        clear hx
        go_wp2_with fail
        refine (in_eq hb).mono ?_
        rintro e w1 ⟨rfl, rfl⟩
        go_wp2_with fail
        go_ret
        exact ⟨ret_bool HN.out.symm, rfl⟩
      · have HY : Hid (∀ i, i < k + 1 → Pf.inB (xs.getD i 0) lo hi = true) := hide fun i hi => by
          by_cases e : i = k
          · subst e; rw [hx]; exact hb
          · exact HA.out i (by omega)
        clear hx
        go_wp2_with fail
        refine (in_eq hb).mono ?_
        rintro e w1 ⟨rfl, rfl⟩
        go_wp2_with fail
        go_round
        case rel => exact ⟨k + 1, rfl, by go_num, by omega, HY⟩
        case measure => simp only [intOf]; omega
    · have hke : k = xs.length := by omega
      subst hke
      have HY := hide (Pf.allB_of HA.out)
      go_wp2_with fail
      go_ret
      exact ⟨ret_bool HY.out.symm, rfl⟩
theorem all_eq {a : Option Addr} {c : Nat} {xs : List Int} {lo hi : Int} {w : World} {r : Bool} (h : ARow w a xs) (hl : xs.length ≤ 4000000000000) (hr : Pf.allB xs lo hi = r) :
    Calls Try.prog 51 #[.slice a xs.length c, .int .i64 lo, .int .i64 hi] w fun e w' => e = .returned (.bool r) ∧ w' = w := hr ▸ all_any h hl

set_option maxRecDepth 100000 in
set_option maxHeartbeats 1000000 in
theorem isum_any {a : Option Addr} {c : Nat} {xs : List Int} {w : World} (h : ARow w a xs) (hl : xs.length ≤ 1000) (hb : Pf.allB xs (-10000000) 10000000 = true) :
    Calls Try.prog 45 #[.slice a xs.length c] w fun e w' => e = .returned (.int .i64 xs.sum) ∧ w' = w := by
  have H := hide h
  have HB := hide hb
  clear h hb
  go_enter Try.func45, Try.ntmps45
  go_wp2_with fail
  go_loop [3, 5, 8] (fun s3 _ s => ∃ (k : Nat) (n : Int), s3 = .int .i64 n ∧ s = .int .i64 k ∧ k ≤ xs.length ∧ Hid (n = (xs.take k).sum) ∧ -10000000000 ≤ n ∧ n ≤ 10000000000) (fun _ _ s => xs.length - (intOf s).toNat)
  case atStart => exact ⟨0, 0, rfl, rfl, Nat.zero_le _, hide (by simp), by omega, by omega⟩
  case round =>
    obtain ⟨k, n, rfl, rfl, hk, HN, hn0, hn1⟩ := hrel
    by_cases hlt : k < xs.length
    · obtain ⟨b, off, rfl, r1⟩ := H.out.at hlt
      have i0 : (0 : Int) ≤ (k : Int) := by omega
      have i1 : (k : Int) < (xs.length : Int) := by omega
      have hs := Pf.take_sum_succ xs k hlt
      have hx := Pf.inB_yes (Pf.allB_get HB.out hlt)
      have ht := Pf.sum_bd (Pf.allB_take HB.out (k + 1))
      rw [show (xs.take (k + 1)).length = k + 1 by simp; omega] at ht
      rw [hs, ← HN.out] at ht
      rw [← HN.out] at hs
      have HS := hide hs
      generalize xs.getD k 0 = x at *
      clear hs
      obtain ⟨hx0, hx1⟩ := hx
      have ht0 : -10000000000 ≤ n + x := by omega
      have ht1 : n + x ≤ 10000000000 := by omega
      clear ht
      go_wp2_with fail
      go_round
      case rel => exact ⟨k + 1, n + x, by go_num, by go_num, by omega, hide HS.out.symm, by omega, by omega⟩
      case measure => simp only [intOf]; omega
    · have hke : k = xs.length := by omega
      subst hke
      have HE := HN.out
      rw [List.take_length] at HE
      have HE' := hide HE
      clear HE
      go_wp2_with fail
      go_ret
      exact ⟨ret_int HE'.out, rfl⟩
end Go.Proofs.Ytnchkgblpnompaa
namespace Go.Proofs.Ytnchkgblpnompaa
open Go.RowKit

set_option maxRecDepth 100000 in
set_option maxHeartbeats 1000000 in
theorem sisum_any {a : Option Addr} {c : Nat} {xs : List Int} {w : World} (h : ARow w a xs) (hl : xs.length ≤ 1000) (hb : Pf.allB xs (-10000000) 10000000 = true) :
    Calls Try.prog 37 #[.slice a xs.length c] w fun e w' => e = .returned (.int .i64 xs.sum) ∧ w' = w := by
  have H := hide h
  have HB := hide hb
  clear h hb
  go_enter Try.func37, Try.ntmps37
  go_wp2_with fail
  go_loop [3, 5, 8] (fun s3 _ s => ∃ (k : Nat) (n : Int), s3 = .int .i64 n ∧ s = .int .i64 k ∧ k ≤ xs.length ∧ Hid (n = (xs.take k).sum) ∧ -10000000000 ≤ n ∧ n ≤ 10000000000) (fun _ _ s => xs.length - (intOf s).toNat)
  case atStart => exact ⟨0, 0, rfl, rfl, Nat.zero_le _, hide (by simp), by omega, by omega⟩
  case round =>
    obtain ⟨k, n, rfl, rfl, hk, HN, hn0, hn1⟩ := hrel
    by_cases hlt : k < xs.length
    · obtain ⟨b, off, rfl, r1⟩ := H.out.at hlt
      have i0 : (0 : Int) ≤ (k : Int) := by omega
      have i1 : (k : Int) < (xs.length : Int) := by omega
      have hs := Pf.take_sum_succ xs k hlt
      have hx := Pf.inB_yes (Pf.allB_get HB.out hlt)
      have ht := Pf.sum_bd (Pf.allB_take HB.out (k + 1))
      rw [show (xs.take (k + 1)).length = k + 1 by simp; omega] at ht
      rw [hs, ← HN.out] at ht
      rw [← HN.out] at hs
      have HS := hide hs
      generalize xs.getD k 0 = x at *
      clear hs
      obtain ⟨hx0, hx1⟩ := hx
      have ht0 : -10000000000 ≤ n + x := by omega
      have ht1 : n + x ≤ 10000000000 := by omega
      clear ht
      go_wp2_with fail
      go_round
      case rel => exact ⟨k + 1, n + x, by go_num, by go_num, by omega, hide HS.out.symm, by omega, by omega⟩
      case measure => simp only [intOf]; omega
    · have hke : k = xs.length := by omega
      subst hke
      have HE := HN.out
      rw [List.take_length] at HE
      have HE' := hide HE
      clear HE
      go_wp2_with fail
      go_ret
      exact ⟨ret_int HE'.out, rfl⟩
end Go.Proofs.Ytnchkgblpnompaa
namespace Go.Proofs.Ytnchkgblpnompaa.It

def goodB (xs : List Int) : Bool := decide (xs.length ≤ 9) && Pf.allB xs 1 20
def lbI (xs : List Int) : Int := if goodB xs then (xs.sum + 20 - 1) / 20 else 0
theorem good_len {xs : List Int} (h : goodB xs = true) : xs.length ≤ 9 := by
  simp only [goodB, Bool.and_eq_true, decide_eq_true_eq] at h; exact h.1
theorem good_all {xs : List Int} (h : goodB xs = true) : Pf.allB xs 1 20 = true := by
  simp only [goodB, Bool.and_eq_true] at h; exact h.2
theorem good_at {xs : List Int} (h : goodB xs = true) {i : Nat} (hi : i < xs.length) : 1 ≤ xs.getD i 0 ∧ xs.getD i 0 ≤ 20 := Pf.inB_yes (Pf.allB_get (good_all h) hi)
theorem good_wide {xs : List Int} (h : goodB xs = true) : Pf.allB xs (-10000000) 10000000 = true := by
  refine Pf.allB_of fun i hi => ?_
  have := good_at h hi
  exact Pf.inB_of (by omega) (by omega)
theorem good_sum {xs : List Int} (h : goodB xs = true) : 0 ≤ xs.sum ∧ xs.sum ≤ 180 := by
  have h1 := Pf.sum_bd (good_all h)
  have h2 := good_len h
  omega
end Go.Proofs.Ytnchkgblpnompaa.It
namespace Go.Proofs.Ytnchkgblpnompaa
open Go.RowKit

theorem same_bel {f : Nat} {vs : Array Value} {w : World} {r : Ending} (h : Calls Try.prog f vs w fun e w' => e = r ∧ w' = w) : Calls Try.prog f vs w fun e w' => e = r ∧ Below w.heap.size w w' := h.mono fun _ _ ⟨h1, h2⟩ => ⟨h1, h2 ▸ Below.refl _ _⟩
theorem all_12 {a : Option Addr} {n c : Nat} {xs : List Int} {lo hi : Int} {w : World} {r : Bool} (h : Hid (ARow w a xs)) (hn : Hid (xs.length = n)) (hl : n ≤ 1000) (hr : Hid (Pf.allB xs lo hi = r)) :
    Calls Try.prog 51 #[.slice a n c, .int .i64 lo, .int .i64 hi] w fun e w' => e = .returned (.bool r) ∧ w' = w := by
  have := hn.out
  subst this
  exact all_eq h.out (by omega) hr.out
set_option maxRecDepth 100000 in
set_option maxHeartbeats 400000 in
theorem gi_any {a : Option Addr} {n c : Nat} {xs : List Int} {w : World} (hx : xs.length = n) (ha : ARow w a xs) :
    Calls Try.prog 15 #[.slice a n c] w fun e w' => e = .returned (.bool (It.goodB xs)) ∧ w' = w := by
  have HA := hide ha
  have HX := hide hx
  by_cases h9 : n ≤ 9
  · have HR : Hid (Pf.allB xs 1 20 = It.goodB xs) := hide (by simp [It.goodB, hx, h9])
    generalize It.goodB xs = R at *
    have i9 : (n : Int) ≤ 9 := by omega
    clear ha hx
    go_enter Try.func15, Try.ntmps15
    go_wp2_with fail
    refine (areb_eqn HA HX (by omega) HR).mono ?_
    rintro e w1 ⟨rfl, rfl⟩
    go_wp2_with fail
    go_ret
    exact ⟨rfl, rfl⟩
  · have HR : Hid (It.goodB xs = false) := hide (by simp [It.goodB, hx, h9])
    generalize It.goodB xs = R at *
    have i9 : ¬ (n : Int) ≤ 9 := by omega
    clear ha hx
    go_enter Try.func15, Try.ntmps15
    go_wp2_with fail
    go_ret
    exact ⟨ret_bool HR.out.symm, rfl⟩
theorem gi_eq {a : Option Addr} {n c : Nat} {xs : List Int} {w : World} {r : Bool} (hx : Hid (xs.length = n)) (ha : Hid (ARow w a xs)) (h : Hid (It.goodB xs = r)) :
    Calls Try.prog 15 #[.slice a n c] w fun e w' => e = .returned (.bool r) ∧ w' = w := h.out ▸ gi_any hx.out ha.out
set_option maxRecDepth 100000 in
set_option maxHeartbeats 400000 in
theorem sgi_any {a : Option Addr} {n c : Nat} {xs : List Int} {w : World} (hx : xs.length = n) (ha : ARow w a xs) :
    Calls Try.prog 28 #[.slice a n c] w fun e w' => e = .returned (.bool (It.goodB xs)) ∧ w' = w := by
  have HA := hide ha
  have HX := hide hx
  by_cases h9 : n ≤ 9
  · have HR : Hid (Pf.allB xs 1 20 = It.goodB xs) := hide (by simp [It.goodB, hx, h9])
    generalize It.goodB xs = R at *
    have i9 : (n : Int) ≤ 9 := by omega
    clear ha hx
    go_enter Try.func28, Try.ntmps28
    go_wp2_with fail
    refine (all_12 HA HX (by omega) HR).mono ?_
    rintro e w1 ⟨rfl, rfl⟩
    go_wp2_with fail
    go_ret
    exact ⟨rfl, rfl⟩
  · have HR : Hid (It.goodB xs = false) := hide (by simp [It.goodB, hx, h9])
    generalize It.goodB xs = R at *
    have i9 : ¬ (n : Int) ≤ 9 := by omega
    clear ha hx
    go_enter Try.func28, Try.ntmps28
    go_wp2_with fail
    go_ret
    exact ⟨ret_bool HR.out.symm, rfl⟩
theorem sgi_eq {a : Option Addr} {n c : Nat} {xs : List Int} {w : World} {r : Bool} (hx : Hid (xs.length = n)) (ha : Hid (ARow w a xs)) (h : Hid (It.goodB xs = r)) :
    Calls Try.prog 28 #[.slice a n c] w fun e w' => e = .returned (.bool r) ∧ w' = w := h.out ▸ sgi_any hx.out ha.out
set_option maxRecDepth 100000 in
set_option maxHeartbeats 400000 in
theorem dv12 {Y : Int} {w : World} (h0 : 0 ≤ Y) (h1 : Y ≤ 1000) :
    Calls Try.prog 55 #[.int .i64 Y, .int .i64 20] w fun e w' => e = .returned (.int .i64 ((Y + 20 - 1) / 20)) ∧ w' = w := by
  go_enter Try.func55, Try.ntmps55
  go_wp2_with fail
  go_ret
  exact ⟨rfl, rfl⟩
theorem isum_n {a : Option Addr} {n c : Nat} {xs : List Int} {w : World} {S : Int} (hx : Hid (xs.length = n)) (ha : Hid (ARow w a xs)) (hg : Hid (It.goodB xs = true)) (hs : Hid (xs.sum = S)) :
    Calls Try.prog 45 #[.slice a n c] w fun e w' => e = .returned (.int .i64 S) ∧ w' = w := by
  have h1 := hx.out
  have h2 := hs.out
  subst h1 h2
  exact isum_any ha.out (by have := It.good_len hg.out; omega) (It.good_wide hg.out)
set_option maxRecDepth 100000 in
set_option maxHeartbeats 400000 in
theorem lb_any {a : Option Addr} {n c : Nat} {xs : List Int} {w : World} (hx : Hid (xs.length = n)) (ha : Hid (ARow w a xs)) (hg : Hid (It.goodB xs = true)) :
    Calls Try.prog 33 #[.slice a n c] w fun e w' => e = .returned (.int .i64 (It.lbI xs)) ∧ w' = w := by
  have HR : Hid (It.lbI xs = (xs.sum + 20 - 1) / 20) := hide (by simp [It.lbI, hg.out])
  obtain ⟨s0, s1⟩ := It.good_sum hg.out
  obtain ⟨S, hS⟩ : ∃ S, xs.sum = S := ⟨_, rfl⟩
  have HS := hide hS
  rw [hS] at HR s0 s1
  generalize It.lbI xs = R at *
  clear hS
  go_enter Try.func33, Try.ntmps33
  go_wp2_with fail
  refine (isum_n hx ha hg HS).mono ?_
  rintro e w1 ⟨rfl, rfl⟩
  go_wp2_with fail
  refine (dv12 s0 (by omega)).mono ?_
  rintro e w1 ⟨rfl, rfl⟩
  go_wp2_with fail
  go_ret
  exact ⟨by rw [HR.out]; rfl, rfl⟩
set_option maxRecDepth 100000 in
set_option maxHeartbeats 400000 in
theorem lbx_any {a : Option Addr} {n c : Nat} {xs : List Int} {w : World} (hx : xs.length = n) (ha : ARow w a xs) :
    Calls Try.prog 12 #[.slice a n c] w fun e w' => e = .returned (.tuple #[.int .i64 (It.lbI xs), .bool (It.goodB xs)]) ∧ w' = w := by
  have HA := hide ha
  have HX := hide hx
  cases hg : It.goodB xs
  · have HR : Hid (It.lbI xs = 0) := hide (by simp [It.lbI, hg])
    have HG := hide hg
    generalize It.lbI xs = R at *
    clear ha hx hg
    go_enter Try.func12, Try.ntmps12
    go_wp2_with fail
    refine (gi_eq HX HA HG).mono ?_
    rintro e w1 ⟨rfl, rfl⟩
    go_wp2_with fail
    refine bodyPost_ret (v := .tuple #[.int .i64 0, .bool false]) (by simp [results, Try.results12, go_sem]) rfl ?_
    exact ⟨by rw [HR.out], rfl⟩
  · have HG := hide hg
    have HL := hide (lb_any (c := c) HX HA HG)
    generalize It.lbI xs = R at *
    clear ha hx hg
    go_enter Try.func12, Try.ntmps12
    go_wp2_with fail
    refine (gi_eq HX HA HG).mono ?_
    rintro e w1 ⟨rfl, rfl⟩
    go_wp2_with fail
    refine HL.out.mono ?_
    rintro e w1 ⟨rfl, rfl⟩
    go_wp2_with fail
    refine bodyPost_ret (v := .tuple #[.int .i64 R, .bool true]) (by simp [results, Try.results12, go_sem]) rfl ?_
    exact ⟨rfl, rfl⟩
theorem sisum_n {a : Option Addr} {n c : Nat} {xs : List Int} {w : World} {S : Int} (hx : Hid (xs.length = n)) (ha : Hid (ARow w a xs)) (hg : Hid (It.goodB xs = true)) (hs : Hid (xs.sum = S)) :
    Calls Try.prog 37 #[.slice a n c] w fun e w' => e = .returned (.int .i64 S) ∧ w' = w := by
  have h1 := hx.out
  have h2 := hs.out
  subst h1 h2
  exact sisum_any ha.out (by have := It.good_len hg.out; omega) (It.good_wide hg.out)
set_option maxRecDepth 100000 in
set_option maxHeartbeats 400000 in
theorem slbx_any {a : Option Addr} {n c : Nat} {xs : List Int} {w : World} (hx : xs.length = n) (ha : ARow w a xs) :
    Calls Try.prog 13 #[.slice a n c] w fun e w' => e = .returned (.tuple #[.int .i64 (It.lbI xs), .bool (It.goodB xs)]) ∧ w' = w := by
  have HA := hide ha
  have HX := hide hx
  cases hg : It.goodB xs
  · have HR : Hid (It.lbI xs = 0) := hide (by simp [It.lbI, hg])
    have HG := hide hg
    generalize It.lbI xs = R at *
    clear ha hx hg
    go_enter Try.func13, Try.ntmps13
    go_wp2_with fail
    refine (sgi_eq HX HA HG).mono ?_
    rintro e w1 ⟨rfl, rfl⟩
    go_wp2_with fail
    refine bodyPost_ret (v := .tuple #[.int .i64 0, .bool false]) (by simp [results, Try.results13, go_sem]) rfl ?_
    exact ⟨by rw [HR.out], rfl⟩
  · have HG := hide hg
    have HR : Hid (It.lbI xs = (xs.sum + 20 - 1) / 20) := hide (by simp [It.lbI, hg])
    obtain ⟨s0, s1⟩ := It.good_sum hg
    obtain ⟨S, hS⟩ : ∃ S, xs.sum = S := ⟨_, rfl⟩
    have HS := hide hS
    rw [hS] at HR s0 s1
    generalize It.lbI xs = R at *
    clear ha hx hg hS
    go_enter Try.func13, Try.ntmps13
    go_wp2_with fail
    refine (sgi_eq HX HA HG).mono ?_
    rintro e w1 ⟨rfl, rfl⟩
    go_wp2_with fail
    refine (sisum_n HX HA HG HS).mono ?_
    rintro e w1 ⟨rfl, rfl⟩
    go_wp2_with fail
    refine bodyPost_ret (v := .tuple #[.int .i64 ((S + 20 - 1) / 20), .bool true]) (by simp [results, Try.results13, go_sem]) rfl ?_
    exact ⟨by rw [HR.out], rfl⟩
end Go.Proofs.Ytnchkgblpnompaa
namespace Go.Proofs.Ytnchkgblpnompaa.It

/-- The numbers of one box, each within and not seen yet: what is seen then, and what the box holds. -/
def boxW (l : List Int) : List Int → List Int → Int → Option (List Int × Int)
  | [], seen, held => some (seen, held)
  | k :: ks, seen, held => if Pf.inB k 0 ((l.length : Int) - 1) && !seen.contains k then boxW l ks (seen ++ [k]) (held + l.getD k.toNat 0) else none
def packW (l : List Int) : List (List Int) → List Int → Option (List Int)
  | [], seen => some seen
  | b :: bs, seen => match boxW l b seen 0 with
    | none => none
    | some (s, h) => if !b.isEmpty && decide (h ≤ 20) then packW l bs s else none
def packB (l : List Int) (F : List (List Int)) : Bool := match packW l F [] with
  | none => false
  | some s => s.length == l.length
def ipB (l : List Int) (F : List (List Int)) : Bool := goodB l && packB l F
def waI (l : List Int) (F : List (List Int)) : Int := if ipB l F then 20 * (F.length : Int) - l.sum else 0

theorem int_few : ∀ (n : Nat) (s : List Int), s.Nodup → (∀ x ∈ s, 0 ≤ x ∧ x < (n : Int)) → s.length ≤ n
  | 0, s, _, h => by
    cases s with
    | nil => simp
    | cons x t => have := h x (by simp); omega
  | n + 1, s, hd, h => by
    by_cases hm : (n : Int) ∈ s
    · have ih := int_few n (s.erase (n : Int)) (hd.erase _) (fun x hx => by
        have h1 := h x (List.mem_of_mem_erase hx)
        have h2 : x ≠ (n : Int) := fun e => by subst e; exact (List.Nodup.not_mem_erase hd) hx
        omega)
      rw [List.length_erase_of_mem hm] at ih
      omega
    · have ih := int_few n s hd (fun x hx => by
        have h1 := h x hx
        have h2 : x ≠ (n : Int) := fun e => hm (e ▸ hx)
        omega)
      omega
/-- Numbers that were seen. -/
def Ok (l s : List Int) : Prop := s.Nodup ∧ ∀ x ∈ s, 0 ≤ x ∧ x < (l.length : Int)
theorem Ok.nil (l : List Int) : Ok l [] := ⟨List.nodup_nil, fun _ h => by simp at h⟩
theorem Ok.add {l s : List Int} {k : Int} (h : Ok l s) (hk : Pf.inB k 0 ((l.length : Int) - 1) = true) (hc : s.contains k = false) : Ok l (s ++ [k]) := by
  have hb := Pf.inB_yes hk
  have hm : ¬ k ∈ s := by simpa using hc
  refine ⟨?_, fun x hx => ?_⟩
  · rw [List.nodup_append]
    refine ⟨h.1, by simp, fun a ha b hb' => ?_⟩
    simp at hb'
    subst hb'
    exact fun e => hm (e ▸ ha)
  · rcases List.mem_append.1 hx with hx | hx
    · exact h.2 x hx
    · simp at hx; subst hx; omega
theorem Ok.few {l s : List Int} (h : Ok l s) : s.length ≤ l.length := int_few _ _ h.1 h.2
theorem drop_at {α : Type} {l : List α} {k : Nat} (d : α) (h : k < l.length) : l.drop k = l.getD k d :: l.drop (k + 1) := by
  rw [List.drop_eq_getElem_cons h]; simp [h]
/-- What one box's walk keeps. -/
def BW (l b s0 : List Int) (j : Nat) (s : List Int) (h : Int) : Prop := boxW l b s0 0 = boxW l (b.drop j) s h ∧ Ok l s ∧ 0 ≤ h ∧ h ≤ 20 * (s.length : Int) ∧ (h = 0 ↔ j = 0)
theorem bw_start {l b s0 : List Int} (h : Ok l s0) : BW l b s0 0 s0 0 := ⟨by rw [List.drop_zero], h, by omega, by omega, by simp⟩
theorem bw_step {l b s0 s : List Int} {j : Nat} {h : Int} (hg : goodB l = true) (hb : BW l b s0 j s h) (hj : j < b.length) (hk : Pf.inB (b.getD j 0) 0 ((l.length : Int) - 1) = true) (hc : s.contains (b.getD j 0) = false) :
    BW l b s0 (j + 1) (s ++ [b.getD j 0]) (h + l.getD (b.getD j 0).toNat 0) := by
  obtain ⟨h1, h2, h3, h4, h5⟩ := hb
  have hb := Pf.inB_yes hk
  have hv := good_at hg (i := (b.getD j 0).toNat) (by omega)
  refine ⟨?_, h2.add hk hc, by omega, by rw [List.length_append]; simp only [List.length_cons, List.length_nil]; omega, by omega⟩
  rw [h1, drop_at 0 hj, boxW, hk, hc]; rfl
theorem bw_no {l b s0 s : List Int} {j : Nat} {h : Int} (hb : BW l b s0 j s h) (hj : j < b.length) (hk : (Pf.inB (b.getD j 0) 0 ((l.length : Int) - 1) && !s.contains (b.getD j 0)) = false) : boxW l b s0 0 = none := by
  rw [hb.1, drop_at 0 hj, boxW, hk]; rfl
theorem bw_end {l b s0 s : List Int} {j : Nat} {h : Int} (hb : BW l b s0 j s h) (hj : b.length ≤ j) : boxW l b s0 0 = some (s, h) := by
  rw [hb.1, List.drop_eq_nil_of_le hj]; rfl
/-- What the walk over boxes keeps. -/
def PW (l : List Int) (F : List (List Int)) (k : Nat) (s : List Int) : Prop := packW l F [] = packW l (F.drop k) s ∧ Ok l s
theorem pw_start {l : List Int} {F : List (List Int)} : PW l F 0 [] := ⟨by rw [List.drop_zero], Ok.nil l⟩
theorem pw_none {l : List Int} {F : List (List Int)} {k : Nat} {s : List Int} (hp : PW l F k s) (hk : k < F.length) (h : boxW l (F.getD k []) s 0 = none) : packB l F = false := by
  unfold packB
  rw [hp.1, drop_at [] hk, packW, h]
theorem pw_bad {l : List Int} {F : List (List Int)} {k : Nat} {s s' : List Int} {h' : Int} (hp : PW l F k s) (hk : k < F.length) (h : boxW l (F.getD k []) s 0 = some (s', h')) (hb : (!(F.getD k []).isEmpty && decide (h' ≤ 20)) = false) : packB l F = false := by
  unfold packB
  rw [hp.1, drop_at [] hk, packW, h]
  simp only [hb]; rfl
theorem pw_step {l : List Int} {F : List (List Int)} {k : Nat} {s s' : List Int} {h' : Int} (hp : PW l F k s) (hk : k < F.length) (ho : Ok l s') (h : boxW l (F.getD k []) s 0 = some (s', h')) (hb : (!(F.getD k []).isEmpty && decide (h' ≤ 20)) = true) : PW l F (k + 1) s' := by
  refine ⟨?_, ho⟩
  rw [hp.1, drop_at [] hk, packW, h]
  simp only [hb]; rfl
theorem pw_end {l : List Int} {F : List (List Int)} {k : Nat} {s : List Int} (hp : PW l F k s) (hk : F.length ≤ k) : packB l F = (s.length == l.length) := by
  unfold packB
  rw [hp.1, List.drop_eq_nil_of_le hk]; rfl
/-- Sizes are above 0: just an empty box holds 0. -/
theorem held_eq {b : List Int} {h : Int} (h0 : 0 ≤ h) (hz : h = 0 ↔ b.length = 0) : Pf.inB h 1 20 = (!b.isEmpty && decide (h ≤ 20)) := by
  cases b with
  | nil =>
    obtain rfl : h = 0 := hz.2 rfl
    rfl
  | cons x t =>
    have : h ≠ 0 := fun e => by have := hz.1 e; simp at this
    simp [Pf.inB]
    omega
end Go.Proofs.Ytnchkgblpnompaa.It
namespace Go.Proofs.Ytnchkgblpnompaa.It

/-- What is put into room b. -/
def ld : List (Int × Nat) → Nat → Int
  | [], _ => 0
  | z :: Z, b => (if z.2 = b then z.1 else 0) + ld Z b
theorem ld_perm {Z Z' : List (Int × Nat)} (p : Z.Perm Z') (b : Nat) : ld Z b = ld Z' b := by
  induction p with
  | nil => rfl
  | cons x _ ih => simp only [ld, ih]
  | swap x y l => simp only [ld]; omega
  | trans _ _ ih1 ih2 => exact ih1.trans ih2
theorem ld_nonneg {Z : List (Int × Nat)} (h : ∀ z ∈ Z, 0 ≤ z.1) (b : Nat) : 0 ≤ ld Z b := by
  induction Z with
  | nil => simp [ld]
  | cons z Z ih =>
    have h1 := h z (by simp)
    have h2 := ih (fun y hy => h y (by simp [hy]))
    simp only [ld]
    split <;> omega
/-- Items of the sizes S go into rooms R. -/
def Fit (S R : List Int) : Prop := ∃ Z : List (Int × Nat), (Z.map Prod.fst).Perm S ∧ (∀ z ∈ Z, z.2 < R.length) ∧ ∀ b, b < R.length → ld Z b ≤ R.getD b 0
theorem Fit.perm {S S' R : List Int} (p : S.Perm S') (h : Fit S R) : Fit S' R := by
  obtain ⟨Z, h1, h2⟩ := h
  exact ⟨Z, h1.trans p, h2⟩
theorem fit_nil {R : List Int} (hR : ∀ b, b < R.length → 0 ≤ R.getD b 0) : Fit [] R := ⟨[], by simp, by simp, fun b hb => by simpa [ld] using hR b hb⟩
theorem getD_set {l : List Int} {i b : Nat} {x : Int} (hi : i < l.length) : (l.set i x).getD b 0 = if b = i then x else l.getD b 0 := by
  by_cases e : b = i
  · subst e; simp [hi]
  · rw [if_neg e]; simp [Ne.symm e]
theorem fit_step {s : Int} {t R : List Int} (hs : 0 ≤ s) (ht : ∀ x ∈ t, 0 ≤ x) : Fit (s :: t) R ↔ ∃ i, i < R.length ∧ s ≤ R.getD i 0 ∧ Fit t (R.set i (R.getD i 0 - s)) := by
  constructor
  · rintro ⟨Z, h1, h2, h3⟩
    have hm : s ∈ Z.map Prod.fst := h1.symm.subset (by simp)
    obtain ⟨z, hz, rfl⟩ := List.mem_map.1 hm
    have p : Z.Perm (z :: Z.erase z) := List.perm_cons_erase hz
    have h4 : ((Z.erase z).map Prod.fst).Perm t := by
      have := (p.map Prod.fst).symm.trans h1
      simpa using this
    have hlt := h2 z hz
    have hnn : ∀ y ∈ Z.erase z, 0 ≤ y.1 := fun y hy => ht _ (h4.subset (List.mem_map.2 ⟨y, hy, rfl⟩))
    have h5 : ∀ b, ld Z b = (if z.2 = b then z.1 else 0) + ld (Z.erase z) b := fun b => by rw [ld_perm p b]; rfl
    refine ⟨z.2, hlt, ?_, Z.erase z, h4, fun y hy => by rw [List.length_set]; exact h2 y (List.mem_of_mem_erase hy), fun b hb => ?_⟩
    · have := h3 z.2 hlt
      have h6 := h5 z.2
      have h7 := ld_nonneg hnn z.2
      rw [if_pos rfl] at h6
      omega
    · rw [List.length_set] at hb
      have h6 := h3 b hb
      rw [h5 b] at h6
      rw [getD_set hlt]
      by_cases e : b = z.2
      · subst e; rw [if_pos rfl] at h6 ⊢; omega
      · rw [if_neg e]; rw [if_neg (Ne.symm e)] at h6; omega
  · rintro ⟨i, hi, hs', Z, h1, h2, h3⟩
    refine ⟨(s, i) :: Z, by simpa using h1, fun z hz => ?_, fun b hb => ?_⟩
    · rcases List.mem_cons.1 hz with rfl | hz
      · exact hi
      · have := h2 z hz; rwa [List.length_set] at this
    · have h4 := h3 b (by rw [List.length_set]; exact hb)
      rw [getD_set hi] at h4
      simp only [ld]
      by_cases e : b = i
      · subst e; rw [if_pos rfl] at h4 ⊢; omega
      · rw [if_neg e] at h4; rw [if_neg (Ne.symm e)]; omega
/-- Rooms called otherwise. -/
theorem ld_map (σ : Nat → Nat) {N : Nat} (h1 : ∀ b, b < N → σ (σ b) = b) : ∀ (Z : List (Int × Nat)), (∀ z ∈ Z, z.2 < N) → ∀ b, b < N → ld (Z.map fun z => (z.1, σ z.2)) b = ld Z (σ b)
  | [], _, b, _ => rfl
  | z :: Z, h, b, hb => by
    have ih := ld_map σ h1 Z (fun y hy => h y (by simp [hy])) b hb
    simp only [List.map_cons, ld, ih]
    have : (σ z.2 = b) ↔ (z.2 = σ b) := ⟨fun e => by rw [← e, h1 _ (h z (by simp))], fun e => by rw [e, h1 _ hb]⟩
    by_cases e : z.2 = σ b
    · rw [if_pos e, if_pos (this.2 e)]
    · rw [if_neg e, if_neg (fun e' => e (this.1 e'))]
theorem Fit.turn {S R R' : List Int} (σ : Nat → Nat) (hl : R'.length = R.length) (h0 : ∀ b, b < R.length → σ b < R.length) (h1 : ∀ b, b < R.length → σ (σ b) = b) (h2 : ∀ b, b < R.length → R.getD (σ b) 0 ≤ R'.getD b 0) (h : Fit S R) : Fit S R' := by
  obtain ⟨Z, p, hz, hb⟩ := h
  refine ⟨Z.map fun z => (z.1, σ z.2), by simpa [Function.comp_def] using p, fun z hz' => ?_, fun b hb' => ?_⟩
  · obtain ⟨y, hy, rfl⟩ := List.mem_map.1 hz'
    rw [hl]; exact h0 _ (hz y hy)
  · rw [hl] at hb'
    rw [ld_map σ h1 Z hz b hb']
    have := hb _ (h0 b hb')
    have := h2 b hb'
    omega
/-- Rooms with as much in them are as good. -/
theorem fit_same {t R : List Int} {i j : Nat} {x : Int} (hi : i < R.length) (hj : j < R.length) (e : R.getD i 0 = R.getD j 0) (h : Fit t (R.set i x)) : Fit t (R.set j x) := by
  refine h.turn (fun b => if b = i then j else if b = j then i else b) (by simp) (fun b hb => ?_) (fun b _ => ?_) (fun b hb => ?_)
  · rw [List.length_set] at hb ⊢
    split
    · exact hj
    · split
      · exact hi
      · exact hb
  · by_cases e1 : b = i
    · subst e1
      rw [if_pos rfl]
      by_cases e2 : j = b
      · simp [e2]
      · rw [if_neg e2, if_pos rfl]
    · rw [if_neg e1]
      by_cases e2 : b = j
      · subst e2; rw [if_pos rfl, if_pos rfl]
      · rw [if_neg e2, if_neg e1, if_neg e2]
  · rw [getD_set hi, getD_set hj]
    by_cases e1 : b = i
    · subst e1
      rw [if_pos rfl]
      by_cases e2 : j = b
      · subst e2; simp
      · rw [if_neg e2, if_neg (Ne.symm e2), e]; exact Int.le_refl _
    · rw [if_neg e1]
      by_cases e2 : b = j
      · subst e2; rw [if_pos rfl, if_pos rfl, if_pos rfl]; exact Int.le_refl _
      · rw [if_neg e2, if_neg e1, if_neg e2]; exact Int.le_refl _
/-- The search. -/
def canB : List Int → List Int → Bool
  | [], _ => true
  | s :: t, R => (List.range R.length).any fun i => decide (s ≤ R.getD i 0) && canB t (R.set i (R.getD i 0 - s))
def PosL (R : List Int) : Prop := ∀ b, b < R.length → 0 ≤ R.getD b 0
theorem PosL.set {R : List Int} {i : Nat} {s : Int} (h : PosL R) (hi : i < R.length) (hs : s ≤ R.getD i 0) : PosL (R.set i (R.getD i 0 - s)) := fun b hb => by
  rw [List.length_set] at hb
  rw [getD_set hi]
  split
  · omega
  · exact h b hb
theorem can_iff : ∀ {S R : List Int}, (∀ x ∈ S, 0 ≤ x) → PosL R → (canB S R = true ↔ Fit S R)
  | [], R, _, hR => ⟨fun _ => fit_nil hR, fun _ => rfl⟩
  | s :: t, R, hS, hR => by
    have ht : ∀ x ∈ t, 0 ≤ x := fun x hx => hS x (by simp [hx])
    rw [fit_step (hS s (by simp)) ht]
    simp only [canB, List.any_eq_true, List.mem_range, Bool.and_eq_true, decide_eq_true_eq]
    constructor
    · rintro ⟨i, hi, h1, h2⟩
      exact ⟨i, hi, h1, (can_iff ht (hR.set hi h1)).1 h2⟩
    · rintro ⟨i, hi, h1, h2⟩
      exact ⟨i, hi, h1, (can_iff ht (hR.set hi h1)).2 h2⟩
/-- What the search keeps: of the rooms before k none serves, and those that are great enough were tried. -/
structure CS (s : Int) (t R : List Int) (k : Nat) (tr : List Int) : Prop where
  no : ∀ i, i < k → s ≤ R.getD i 0 → canB t (R.set i (R.getD i 0 - s)) = false
  tried : ∀ x ∈ tr, ∃ i, i < k ∧ s ≤ R.getD i 0 ∧ R.getD i 0 = x
  few : tr.length ≤ k
theorem cs_start (s : Int) (t R : List Int) : CS s t R 0 [] := ⟨fun i hi => absurd hi (Nat.not_lt_zero _), fun x hx => by simp at hx, by simp⟩
theorem CS.small {s : Int} {t R tr : List Int} {k : Nat} (h : CS s t R k tr) (hk : ¬ s ≤ R.getD k 0) : CS s t R (k + 1) tr := by
  refine ⟨fun i hi hs => ?_, fun x hx => ?_, by have := h.few; omega⟩
  · by_cases e : i = k
    · subst e; exact absurd hs hk
    · exact h.no i (by omega) hs
  · obtain ⟨i, h1, h2⟩ := h.tried x hx
    exact ⟨i, by omega, h2⟩
theorem CS.again {s : Int} {t R tr : List Int} {k : Nat} (ht : ∀ x ∈ t, 0 ≤ x) (hR : PosL R) (hkl : k < R.length) (h : CS s t R k tr) (hs : s ≤ R.getD k 0) (hm : tr.contains (R.getD k 0) = true) : CS s t R (k + 1) tr := by
  obtain ⟨i, h1, h2, h3⟩ := h.tried (R.getD k 0) (by simpa using hm)
  refine ⟨fun j hj hs' => ?_, fun x hx => ?_, by have := h.few; omega⟩
  · by_cases e : j = k
    · subst e
      cases hc : canB t (R.set j (R.getD j 0 - s))
      · rfl
      · have h4 := (can_iff ht (hR.set hkl hs)).1 hc
        have h5 := fit_same (i := j) (j := i) hkl (by omega) h3.symm h4
        have h6 := h.no i h1 h2
        rw [← h3] at h5
        rw [(can_iff ht (hR.set (i := i) (by omega) h2)).2 h5] at h6
        cases h6
    · exact h.no j (by omega) hs'
  · obtain ⟨i, h1, h2⟩ := h.tried x hx
    exact ⟨i, by omega, h2⟩
theorem CS.next {s : Int} {t R tr : List Int} {k : Nat} (h : CS s t R k tr) (hs : s ≤ R.getD k 0) (hn : canB t (R.set k (R.getD k 0 - s)) = false) : CS s t R (k + 1) (tr ++ [R.getD k 0]) := by
  refine ⟨fun i hi hs' => ?_, fun x hx => ?_, by have := h.few; rw [List.length_append]; simp only [List.length_cons, List.length_nil]; omega⟩
  · by_cases e : i = k
    · subst e; exact hn
    · exact h.no i (by omega) hs'
  · rcases List.mem_append.1 hx with hx | hx
    · obtain ⟨i, h1, h2⟩ := h.tried x hx
      exact ⟨i, by omega, h2⟩
    · simp at hx; exact ⟨k, by omega, hs, hx.symm⟩
theorem CS.yes {s : Int} {t R : List Int} {k : Nat} (hk : k < R.length) (hs : s ≤ R.getD k 0) (hn : canB t (R.set k (R.getD k 0 - s)) = true) : canB (s :: t) R = true := by
  simp only [canB, List.any_eq_true, List.mem_range, Bool.and_eq_true, decide_eq_true_eq]
  exact ⟨k, hk, hs, hn⟩
theorem CS.none {s : Int} {t R tr : List Int} {k : Nat} (h : CS s t R k tr) (hk : R.length ≤ k) : canB (s :: t) R = false := by
  cases e : canB (s :: t) R
  · rfl
  · simp only [canB, List.any_eq_true, List.mem_range, Bool.and_eq_true, decide_eq_true_eq] at e
    obtain ⟨i, hi, h1, h2⟩ := e
    rw [h.no i (by omega) h1] at h2; cases h2
/-- So many boxes of twenty. -/
def twenty (m : Nat) : List Int := List.replicate m 20
theorem twenty_len (m : Nat) : (twenty m).length = m := by simp [twenty]
theorem twenty_at {m b : Nat} (h : b < m) : (twenty m).getD b 0 = 20 := by simp [twenty, h]
theorem twenty_pos (m : Nat) : PosL (twenty m) := fun b hb => by rw [twenty_len] at hb; rw [twenty_at hb]; omega
theorem ld_sum {N : Nat} : ∀ (Z : List (Int × Nat)), (∀ z ∈ Z, z.2 < N) → ((List.range N).map (ld Z)).sum = (Z.map Prod.fst).sum
  | [], _ => by
    have : (List.range N).map (ld []) = List.replicate N 0 := by
      rw [List.eq_replicate_iff]; simp [ld]
    rw [this]; simp
  | z :: Z, h => by
    have ih := ld_sum Z (fun y hy => h y (by simp [hy]))
    have hz := h z (by simp)
    have e : ∀ M, ((List.range M).map (ld (z :: Z))).sum = (if z.2 < M then z.1 else 0) + ((List.range M).map (ld Z)).sum := by
      intro M
      induction M with
      | zero => simp
      | succ M ihM =>
        rw [List.range_succ, List.map_append, List.map_append, List.sum_append, List.sum_append, ihM]
        simp only [List.map_cons, List.map_nil, List.sum_cons, List.sum_nil, ld]
        by_cases e1 : z.2 = M
        · rw [if_pos e1, if_neg (by omega), if_pos (by omega)]; omega
        · rw [if_neg e1]
          by_cases e2 : z.2 < M
          · rw [if_pos e2, if_pos (by omega)]; omega
          · rw [if_neg e2, if_neg (by omega)]; omega
    rw [e, if_pos hz, ih]; simp
theorem sum_perm' {A B : List Int} (p : A.Perm B) : A.sum = B.sum := by
  induction p with
  | nil => rfl
  | cons x _ ih => simp only [List.sum_cons, ih]
  | swap x y l => simp only [List.sum_cons]; omega
  | trans _ _ ih1 ih2 => exact ih1.trans ih2
/-- What fits into boxes is no more than they hold. -/
theorem fit_sum {S : List Int} {m : Nat} (h : Fit S (twenty m)) : S.sum ≤ 20 * (m : Int) := by
  obtain ⟨Z, p, hz, hb⟩ := h
  rw [twenty_len] at hz hb
  rw [← sum_perm' p, ← ld_sum Z hz]
  have : ∀ M, M ≤ m → ((List.range M).map (ld Z)).sum ≤ 20 * (M : Int) := by
    intro M
    induction M with
    | zero => simp
    | succ M ih =>
      intro hM
      have h1 := ih (by omega)
      have h2 := hb M (by omega)
      rw [twenty_at (by omega)] at h2
      rw [List.range_succ, List.map_append, List.sum_append]
      simp only [List.map_cons, List.map_nil, List.sum_cons, List.sum_nil]
      omega
  exact this m (Nat.le_refl _)
/-- A box for each. -/
theorem fit_all : ∀ (S : List Int), (∀ x ∈ S, 0 ≤ x ∧ x ≤ 20) → Fit S (twenty S.length)
  | S, h => by
    refine ⟨S.zipIdx, by simp, fun z hz => ?_, fun b hb => ?_⟩
    · rw [twenty_len]
      have := List.snd_lt_of_mem_zipIdx hz
      omega
    · rw [twenty_len] at hb
      rw [twenty_at hb]
      have : ∀ (S : List Int) (o : Nat), (∀ x ∈ S, 0 ≤ x ∧ x ≤ 20) → ld (S.zipIdx o) b ≤ (if o ≤ b then 20 else 0) := by
        intro S
        induction S with
        | nil => intro o _; simp [ld]; split <;> omega
        | cons x S ih =>
          intro o hx
          have h1 := ih (o + 1) (fun y hy => hx y (by simp [hy]))
          have h2 := hx x (by simp)
          simp only [List.zipIdx_cons, ld]
          by_cases e : o = b
          · subst e
            rw [if_neg (by omega)] at h1
            rw [if_pos rfl, if_pos (Nat.le_refl _)]; omega
          · rw [if_neg e]
            by_cases e2 : o ≤ b
            · rw [if_pos e2]; rw [if_pos (by omega)] at h1; omega
            · rw [if_neg e2]; rw [if_neg (by omega)] at h1; omega
      have := this S 0 h
      rw [if_pos (Nat.zero_le _)] at this
      exact this
/-- The fewest boxes. -/
def Fewest (S : List Int) (n : Nat) : Prop := Fit S (twenty n) ∧ ∀ m, Fit S (twenty m) → n ≤ m
theorem Fewest.one {S : List Int} {n m : Nat} (h : Fewest S n) (h' : Fewest S m) : n = m := by
  have := h.2 m h'.1
  have := h'.2 n h.1
  omega
end Go.Proofs.Ytnchkgblpnompaa.It
namespace Go.Proofs.Ytnchkgblpnompaa.It

def fewN (S : List Int) : Nat := ((List.range (S.length + 1)).find? fun m => canB S (twenty m)).getD 0
def fbI (l : List Int) : Int := if goodB l then (fewN l : Nat) else 0
theorem good_mem {l : List Int} (h : goodB l = true) {x : Int} (hx : x ∈ l) : 1 ≤ x ∧ x ≤ 20 := by
  obtain ⟨i, hi, rfl⟩ := List.mem_iff_getElem.1 hx
  have := good_at h hi
  simpa [hi] using this
theorem good_pos {l : List Int} (h : goodB l = true) : ∀ x ∈ l, 0 ≤ x := fun _ hx => by have := good_mem h hx; omega
theorem few_is {S : List Int} (h : ∀ x ∈ S, 0 ≤ x ∧ x ≤ 20) : Fewest S (fewN S) := by
  have hp : ∀ x ∈ S, 0 ≤ x := fun x hx => (h x hx).1
  have hall := (can_iff hp (twenty_pos S.length)).2 (fit_all S h)
  cases e : (List.range (S.length + 1)).find? fun m => canB S (twenty m) with
  | none =>
    have := List.find?_eq_none.1 e S.length (by simp)
    rw [hall] at this; simp at this
  | some m =>
    have hm : fewN S = m := by unfold fewN; rw [e]; rfl
    rw [hm]
    obtain ⟨h1, aL, bs, h2, h3⟩ := List.find?_eq_some_iff_append.1 e
    refine ⟨(can_iff hp (twenty_pos m)).1 h1, fun q hq => ?_⟩
    by_cases hlt : q < m
    · exfalso
      have hlen : aL.length = m := by
        have h4 : (List.range (S.length + 1))[aL.length]? = some m := by rw [h2]; simp
        obtain ⟨h5, h6⟩ := List.getElem?_eq_some_iff.1 h4
        simpa using h6
      have hmem : q ∈ aL := by
        have h4 : (List.range (S.length + 1))[q]? = aL[q]? := by rw [h2, List.getElem?_append_left (by omega)]
        have hl2 : aL.length < S.length + 1 := by
          have := congrArg List.length h2
          simp at this; omega
        rw [List.getElem?_range (by omega)] at h4
        exact List.mem_of_getElem? h4.symm
      have := h3 q hmem
      rw [(can_iff hp (twenty_pos q)).2 hq] at this
      simp at this
    · omega
theorem few_of {S : List Int} {n : Nat} (h : ∀ x ∈ S, 0 ≤ x ∧ x ≤ 20) (hf : Fewest S n) : fewN S = n := (few_is h).one hf
theorem good_all20 {l : List Int} (h : goodB l = true) : ∀ x ∈ l, 0 ≤ x ∧ x ≤ 20 := fun x hx => by have := good_mem h hx; omega
/-- The least is no more than what fits. -/
theorem lb_le {l : List Int} {m : Nat} (hg : goodB l = true) (h : Fit l (twenty m)) : lbI l ≤ (m : Int) := by
  have := fit_sum h
  unfold lbI
  rw [if_pos hg]
  omega
theorem lb_nonneg {l : List Int} (hg : goodB l = true) : 0 ≤ lbI l := by
  have := good_sum hg
  unfold lbI
  rw [if_pos hg]
  omega
theorem rank_sizes (l : List Int) : ((Rk.rank l).map fun i => l.getD i 0).Perm l := by
  have h := (Rk.rank_perm l).map fun i => l.getD i 0
  refine h.trans (List.Perm.of_eq ?_)
  apply List.ext_getElem
  · simp
  · intro j h1 h2; simp at h1; simp [h1]
/-- Items L, where boxes with the rooms R are begun, go into q boxes in all. -/
def Op (S R : List Int) (q : Nat) : Prop := R.length ≤ q ∧ Fit S (R ++ twenty (q - R.length))
theorem op_step {s : Int} {t R : List Int} {q : Nat} (hs : 0 ≤ s) (hs2 : s ≤ 20) (ht : ∀ x ∈ t, 0 ≤ x) :
    Op (s :: t) R q ↔ (∃ b, b < R.length ∧ s ≤ R.getD b 0 ∧ Op t (R.set b (R.getD b 0 - s)) q) ∨ (R.length < q ∧ Op t (R ++ [20 - s]) q) := by
  have g1 : ∀ b, b < R.length → (R ++ twenty (q - R.length)).getD b 0 = R.getD b 0 := fun b hb => by simp [List.getElem?_append_left hb]
  have g2 : ∀ b, R.length ≤ b → b < R.length + (q - R.length) → (R ++ twenty (q - R.length)).getD b 0 = 20 := fun b hb hb2 => by
    have : b - R.length < q - R.length := by omega
    simp [List.getElem?_append_right hb, twenty, this]
  have g3 : ∀ (b : Nat) (x : Int), b < R.length → (R ++ twenty (q - R.length)).set b x = R.set b x ++ twenty (q - R.length) := fun b x hb => List.set_append_left b x hb
  have g4 : R.length < q → ∀ x : Int, (R ++ twenty (q - R.length)).set R.length x = R ++ [x] ++ twenty (q - (R ++ [x]).length) := fun hlt x => by
    rw [List.set_append_right _ _ (Nat.le_refl _), Nat.sub_self]
    obtain ⟨d, hd⟩ : ∃ d, q - R.length = d + 1 := ⟨q - R.length - 1, by omega⟩
    have h2 : q - (R ++ [x]).length = d := by simp; omega
    rw [hd, h2]
    simp [twenty, List.replicate_succ]
  have hlen : (R ++ twenty (q - R.length)).length = R.length + (q - R.length) := by simp [twenty]
  constructor
  · rintro ⟨h1, h2⟩
    obtain ⟨i, hi, hsi, hf⟩ := (fit_step hs ht).1 h2
    rw [hlen] at hi
    by_cases e : i < R.length
    · rw [g1 i e] at hsi hf
      rw [g3 i _ e] at hf
      exact Or.inl ⟨i, e, hsi, by simpa using h1, by simpa using hf⟩
    · rw [g2 i (by omega) hi] at hf
      have hlt : R.length < q := by omega
      have hf2 := fit_same (i := i) (j := R.length) (by rw [hlen]; exact hi) (by rw [hlen]; omega) (by rw [g2 i (by omega) hi, g2 R.length (Nat.le_refl _) (by omega)]) hf
      rw [g4 hlt] at hf2
      exact Or.inr ⟨hlt, by simp; omega, hf2⟩
  · rintro (⟨b, hb, hsb, h1, h2⟩ | ⟨hlt, h1, h2⟩)
    · rw [List.length_set] at h1 h2
      refine ⟨h1, (fit_step hs ht).2 ⟨b, by rw [hlen]; omega, by rw [g1 b hb]; exact hsb, ?_⟩⟩
      rw [g1 b hb, g3 b _ hb]; exact h2
    · refine ⟨by omega, (fit_step hs ht).2 ⟨R.length, by rw [hlen]; omega, by rw [g2 _ (Nat.le_refl _) (by omega)]; exact hs2, ?_⟩⟩
      rw [g2 _ (Nat.le_refl _) (by omega), g4 hlt]; exact h2
/-- What the model's search answers. -/
structure FewR (S R : List Int) (best r : Nat) : Prop where
  le : r ≤ best
  is : r = best ∨ Op S R r
  no : ∀ q, Op S R q → r ≤ q
theorem few_full {S R : List Int} {best : Nat} (h : best ≤ R.length) : FewR S R best best := ⟨Nat.le_refl _, Or.inl rfl, fun _ hq => Nat.le_trans h hq.1⟩
theorem few_none {R : List Int} {best : Nat} (hR : PosL R) (h : R.length < best) : FewR [] R best R.length :=
  ⟨by omega, Or.inr ⟨Nat.le_refl _, by rw [Nat.sub_self]; simpa [twenty] using fit_nil hR⟩, fun _ hq => hq.1⟩
/-- What its loop keeps. -/
structure FewK (s : Int) (t R : List Int) (best k r : Nat) : Prop where
  le : r ≤ best
  is : r = best ∨ Op (s :: t) R r
  no : ∀ b, b < k → s ≤ R.getD b 0 → ∀ q, Op t (R.set b (R.getD b 0 - s)) q → r ≤ q
theorem fk_start (s : Int) (t R : List Int) (best : Nat) : FewK s t R best 0 best := ⟨Nat.le_refl _, Or.inl rfl, fun _ hb => absurd hb (Nat.not_lt_zero _)⟩
theorem FewK.small {s : Int} {t R : List Int} {best k r : Nat} (h : FewK s t R best k r) (hk : ¬ s ≤ R.getD k 0) : FewK s t R best (k + 1) r := ⟨h.le, h.is, fun b hb hs => by
  by_cases e : b = k
  · subst e; exact absurd hs hk
  · exact h.no b (by omega) hs⟩
theorem FewK.next {s : Int} {t R : List Int} {best k r r' : Nat} (hs : 0 ≤ s) (hs2 : s ≤ 20) (ht : ∀ x ∈ t, 0 ≤ x) (h : FewK s t R best k r) (hkl : k < R.length) (hk : s ≤ R.getD k 0) (hr : FewR t (R.set k (R.getD k 0 - s)) r r') : FewK s t R best (k + 1) r' := by
  refine ⟨Nat.le_trans hr.le h.le, ?_, fun b hb hsb q hq => ?_⟩
  · rcases hr.is with e | e
    · rw [e]; exact h.is
    · exact Or.inr ((op_step hs hs2 ht).2 (Or.inl ⟨k, hkl, hk, e⟩))
  · by_cases e : b = k
    · subst e; exact hr.no q hq
    · exact Nat.le_trans hr.le (h.no b (by omega) hsb q hq)
theorem FewK.last {s : Int} {t R : List Int} {best k r r' : Nat} (hs : 0 ≤ s) (hs2 : s ≤ 20) (ht : ∀ x ∈ t, 0 ≤ x) (h : FewK s t R best k r) (hk : R.length ≤ k) (hr : FewR t (R ++ [20 - s]) r r') : FewR (s :: t) R best r' := by
  refine ⟨Nat.le_trans hr.le h.le, ?_, fun q hq => ?_⟩
  · rcases hr.is with e | e
    · rw [e]; exact h.is
    · exact Or.inr ((op_step hs hs2 ht).2 (Or.inr ⟨by have := e.1; simp at this; omega, e⟩))
  · rcases (op_step hs hs2 ht).1 hq with ⟨b, hb, hsb, hop⟩ | ⟨_, hop⟩
    · exact Nat.le_trans hr.le (h.no b (by omega) hsb q hop)
    · exact hr.no q hop
theorem few_end {l : List Int} {r : Nat} (h : ∀ x ∈ l, 0 ≤ x ∧ x ≤ 20) (hr : FewR l [] (l.length + 1) r) : fewN l = r := by
  have hop : Op l [] l.length := ⟨Nat.zero_le _, by simpa using fit_all l h⟩
  have h1 := hr.no _ hop
  refine few_of h ⟨?_, fun m hm => hr.no m ⟨Nat.zero_le _, by simpa using hm⟩⟩
  rcases hr.is with e | e
  · omega
  · simpa using e.2
end Go.Proofs.Ytnchkgblpnompaa.It
namespace Go.Proofs.Ytnchkgblpnompaa
open Go.RowKit

theorem makeI_run (n : Nat) (hn : n ≤ 1048576) (w : World) : (Instr.makeSlice 23 (.int .i64 (n : Int)) (.int .i64 (n : Int))).run Try.prog w = .ok (.slice (some ⟨w.heap.size, 0, none⟩) n n) (w.alloc (.cells (madeCells #[.int .i64 0] n) 3)) := by
  have h : (Try.prog.info? 3).map (fun i => (i.zero, i.size, i.bytes)) = some (some (.int .i64 0), 1, 8) := by kernel_rfl
  obtain ⟨i, hi, hzz⟩ := Option.map_eq_some_iff.1 h
  simp only [Prod.mk.injEq] at hzz
  obtain ⟨hz, hs, hb⟩ := hzz
  have := run_make (P := Try.prog) w 23 3 i _ Try.underlying23 hi hz .i64 .i64 (n : Int) (n : Int) (by omega) (by omega) (by rw [hb]; omega) (by omega)
  simpa [hs, Value.cells] using this
theorem made_own (w : World) (n : Nat) (hn : n ≤ 1048576) : (w.alloc (.cells (madeCells #[.int .i64 0] n) 3)).ownsRow w.heap.size 3 1 (.slice (some ⟨w.heap.size, 0, none⟩) n n) n (ints (List.replicate n 0)) := by
  have h := World.ownsRow_lit (base := w.heap.size) (e := 3) (size := 1) w (madeCells #[.int .i64 0] n) n (Nat.le_refl _) (by unfold maxLen; omega) (by simp [madeCells])
  rw [toList_madeCells_one] at h
  simpa [ints] using h
theorem getD_set_take (xs ys : List Int) (k : Nat) (hy : ys.length = xs.length) (hk : k < xs.length) (h : ys.take k = xs.take k) : (ys.set k (xs.getD k 0)).take (k + 1) = xs.take (k + 1) := by
  rw [List.take_add_one, List.take_add_one, List.take_set_of_le (Nat.le_refl _), h]
  congr 1
  simp [hk, hy]

end Go.Proofs.Ytnchkgblpnompaa
namespace Go.Proofs.Ytnchkgblpnompaa
open Go.RowKit

theorem owns_keep {w w' : World} {base e s n c g : Nat} {xs : List Value} (h : w.ownsRow base e s (.slice (some ⟨g, 0, none⟩) n c) n xs) (hb : w'.heap[g]? = w.heap[g]?) : w'.ownsRow base e s (.slice (some ⟨g, 0, none⟩) n c) n xs := by
  rcases h with ⟨h0, h | ⟨g', cap, cur, h1, h2, h3, h4⟩⟩
  · cases h.1
  · cases h1; exact ⟨h0, Or.inr ⟨g, c, cur, rfl, h2, hb.trans h3, h4⟩⟩
theorem owns_low {w : World} {base base' e s n : Nat} {v : Value} {xs : List Value} (h : w.ownsRow base e s v n xs) (hb : base' ≤ base) : w.ownsRow base' e s v n xs := by
  rcases h with ⟨h0, h | ⟨g, cap, cur, h1, h2, h3⟩⟩
  · exact ⟨h0, Or.inl h⟩
  · exact ⟨h0, Or.inr ⟨g, cap, cur, h1, Nat.le_trans hb h2, h3⟩⟩
/-- A variable of two fields in a block of its own. -/
def PBox (w : World) (B : Nat) (v0 v1 : Value) : Prop := w.cell? ⟨B, 0, none⟩ = some v0 ∧ w.cell? ⟨B, 1, none⟩ = some v1 ∧ B < w.heap.size
theorem PBox.below {w w' : World} {B : Nat} {v0 v1 : Value} (h : PBox w B v0 v1) (hb : Below w.heap.size w w') : PBox w' B v0 v1 :=
  ⟨(hb.cell (p := ⟨B, 0, none⟩) h.2.2).trans h.1, (hb.cell (p := ⟨B, 1, none⟩) h.2.2).trans h.2.1, Nat.lt_of_lt_of_le h.2.2 hb.size⟩
theorem PBox.new (w : World) (v0 v1 : Value) (t : TypeId) : PBox (w.alloc (.cells #[v0, v1] t)) w.heap.size v0 v1 := ⟨by simp [go_sem], by simp [go_sem], by simp⟩
theorem PBox.drewN {w : World} {B : Nat} {v0 v1 : Value} (h : PBox w B v0 v1) (q : Nat) : PBox (w.drewN q) B v0 v1 := h
theorem grown_below' {w w' : World} {g k : Nat} (hg : w.grownBy w' (some g)) (h : k ≤ g) (hk : k ≤ w.heap.size) : Below k w w' :=
  ⟨hg.os, hg.tape, hg.output, hg.size, fun b hb => hg.block b (by omega) (by simp; omega)⟩
theorem below_new (w : World) (o : Obj) : Below w.heap.size w (w.alloc o) := (Below.refl _ _).alloc (Nat.le_refl _) o
end Go.Proofs.Ytnchkgblpnompaa
namespace Go.Proofs.Ytnchkgblpnompaa
open Go.RowKit

theorem lt3 {a b : Nat} (h : a + 1 + 1 < b) : a < b ∧ a + 1 < b := ⟨by omega, by omega⟩
theorem fracs_no (P : Program) (f : FuncId) (args : Array Value) (w : World) (a b : Int) (c : Bool) (ha : a = 0) (hb : b = 0) (hc : c = false)
    (h : Calls P f args w fun e w' => e = .returned (.tuple #[.agg #[.int .i64 0, .int .i64 0], .bool false]) ∧ Below w.heap.size w w') :
    Calls P f args w fun e w' => e = .returned (.tuple #[.agg #[.int .i64 a, .int .i64 b], .bool c]) ∧ Below w.heap.size w w' := by
  subst ha; subst hb; subst hc; exact h



end Go.Proofs.Ytnchkgblpnompaa
namespace Go.Proofs.Ytnchkgblpnompaa
open Go.RowKit

end Go.Proofs.Ytnchkgblpnompaa
namespace Go.Proofs.Ytnchkgblpnompaa
open Go.RowKit


theorem lt_of_some {W : World} {b o : Nat} (h : (W.cell? ⟨b, o, none⟩).isSome = true) : b < W.heap.size := by
  apply Nat.lt_of_not_le
  intro hle
  have : W.heap[b]? = none := by simp; omega
  simp [World.cell?, this] at h
theorem bsome {W w1 : World} (hb : Below W.heap.size W w1) : (∀ b o, (W.cell? ⟨b, o, none⟩).isSome = true → w1.cell? ⟨b, o, none⟩ = W.cell? ⟨b, o, none⟩) ∧ (∀ b o, (W.cell? ⟨b, o, none⟩).isSome = true → w1.frozen? ⟨b, o, none⟩ = W.frozen? ⟨b, o, none⟩) :=
  ⟨fun b o h => hb.cell (p := ⟨b, o, none⟩) (lt_of_some h), fun b o h => hb.frozen (p := ⟨b, o, none⟩) (lt_of_some h)⟩
theorem new_var {W w1 : World} (hb : Below W.heap.size W w1) (b : Nat) (v0 v1 : Value) (h0 : W.cell? ⟨b, 0, none⟩ = some v0) (h1 : W.cell? ⟨b, 1, none⟩ = some v1) (h2 : W.frozen? ⟨b, 0, none⟩ = false) (h3 : W.frozen? ⟨b, 1, none⟩ = false) :
    w1.cell? ⟨b, 0, none⟩ = some v0 ∧ w1.cell? ⟨b, 1, none⟩ = some v1 ∧ w1.frozen? ⟨b, 0, none⟩ = false ∧ w1.frozen? ⟨b, 1, none⟩ = false := by
  obtain ⟨hc, hf⟩ := bsome hb
  exact ⟨(hc _ _ (by rw [h0]; rfl)).trans h0, (hc _ _ (by rw [h1]; rfl)).trans h1, (hf _ _ (by rw [h0]; rfl)).trans h2, (hf _ _ (by rw [h1]; rfl)).trans h3⟩
theorem new_first {w w1 : World} {a b : Obj} {v0 v1 : Value} {t : TypeId} (hb : Below (((w.alloc a).alloc b).alloc (.cells #[v0, v1] t)).drew.heap.size (((w.alloc a).alloc b).alloc (.cells #[v0, v1] t)).drew w1) :
    w1.cell? ⟨w.heap.size + 1 + 1, 0, none⟩ = some v0 ∧ w1.cell? ⟨w.heap.size + 1 + 1, 1, none⟩ = some v1 ∧ w1.frozen? ⟨w.heap.size + 1 + 1, 0, none⟩ = false ∧ w1.frozen? ⟨w.heap.size + 1 + 1, 1, none⟩ = false :=
  new_var hb _ v0 v1 (by simp [go_sem]) (by simp [go_sem]) (by simp [go_sem]) (by simp [go_sem])
theorem last_cell {W w1 : World} (hb : Below W.heap.size W w1) (o : Nat) : (W.cell? ⟨W.heap.size - 1, o, none⟩).isSome = true → w1.cell? ⟨W.heap.size - 1, o, none⟩ = W.cell? ⟨W.heap.size - 1, o, none⟩ := (bsome hb).1 _ _
theorem last_frozen {W w1 : World} (hb : Below W.heap.size W w1) (o : Nat) : (W.cell? ⟨W.heap.size - 1, o, none⟩).isSome = true → w1.frozen? ⟨W.heap.size - 1, o, none⟩ = W.frozen? ⟨W.heap.size - 1, o, none⟩ := (bsome hb).2 _ _
theorem set1 {W : World} {b i : Nat} {x : Value} (h : (W.cell? ⟨b, i, none⟩).isSome = true) : (W.setCell ⟨b, i, none⟩ x).cell? ⟨b, i, none⟩ = some x := by
  obtain ⟨v, hv⟩ := Option.isSome_iff_exists.1 h
  exact World.cell?_setCell_same _ _ _ hv
theorem set2 {W : World} {b : Nat} {x y : Value} (h0 : (W.cell? ⟨b, 0, none⟩).isSome = true) (h1 : (W.cell? ⟨b, 1, none⟩).isSome = true) :
    ((W.setCell ⟨b, 0, none⟩ x).setCell ⟨b, 1, none⟩ y).cell? ⟨b, 0, none⟩ = some x ∧ ((W.setCell ⟨b, 0, none⟩ x).setCell ⟨b, 1, none⟩ y).cell? ⟨b, 1, none⟩ = some y ∧ b < ((W.setCell ⟨b, 0, none⟩ x).setCell ⟨b, 1, none⟩ y).heap.size := by
  refine ⟨?_, ?_, ?_⟩
  · rw [World.cell?_setCell_other _ _ _ _ (by simp)]; exact set1 h0
  · exact set1 (by rw [World.cell?_setCell_other _ _ _ _ (by simp)]; exact h1)
  · simpa using lt_of_some h0
theorem held_below {w w1 w2 : World} {n1 d1 n2 d2 : Int}
    (s : w1.cell? ⟨w.heap.size, 0, none⟩ = some (.int .i64 n1) ∧ w1.cell? ⟨w.heap.size, 1, none⟩ = some (.int .i64 d1) ∧ w1.cell? ⟨w.heap.size + 1, 0, none⟩ = some (.int .i64 n2) ∧ w1.cell? ⟨w.heap.size + 1, 1, none⟩ = some (.int .i64 d2) ∧ Below w.heap.size w w1 ∧ w.heap.size + 1 < w1.heap.size)
    (hb : Below w1.heap.size w1 w2) :
    w2.cell? ⟨w.heap.size, 0, none⟩ = some (.int .i64 n1) ∧ w2.cell? ⟨w.heap.size, 1, none⟩ = some (.int .i64 d1) ∧ w2.cell? ⟨w.heap.size + 1, 0, none⟩ = some (.int .i64 n2) ∧ w2.cell? ⟨w.heap.size + 1, 1, none⟩ = some (.int .i64 d2) ∧ Below w.heap.size w w2 ∧ w.heap.size + 1 < w2.heap.size := by
  obtain ⟨s0, s1, s2, s3, s4, s5⟩ := s
  obtain ⟨hc, _⟩ := bcell hb
  exact ⟨(hc _ _ (by omega)).trans s0, (hc _ _ (by omega)).trans s1, (hc _ _ s5).trans s2, (hc _ _ s5).trans s3, s4.trans (hb.mono (by omega)), Nat.lt_of_lt_of_le s5 hb.size⟩
theorem below_alloc_drew (w : World) (o : Obj) : Below w.drew.heap.size w.drew (w.alloc o).drew := (Below.refl _ w.drew).alloc (Nat.le_refl _) o
theorem below_alloc (w : World) (o : Obj) : Below w.heap.size w (w.alloc o) := (Below.refl _ _).alloc (Nat.le_refl _) o
theorem held_start (w : World) (n1 d1 n2 d2 : Int) (t : TypeId) :
    ((w.alloc (.cells #[.int .i64 n1, .int .i64 d1] t)).alloc (.cells #[.int .i64 n2, .int .i64 d2] t)).cell? ⟨w.heap.size, 0, none⟩ = some (.int .i64 n1) ∧ ((w.alloc (.cells #[.int .i64 n1, .int .i64 d1] t)).alloc (.cells #[.int .i64 n2, .int .i64 d2] t)).cell? ⟨w.heap.size, 1, none⟩ = some (.int .i64 d1) ∧ ((w.alloc (.cells #[.int .i64 n1, .int .i64 d1] t)).alloc (.cells #[.int .i64 n2, .int .i64 d2] t)).cell? ⟨w.heap.size + 1, 0, none⟩ = some (.int .i64 n2) ∧ ((w.alloc (.cells #[.int .i64 n1, .int .i64 d1] t)).alloc (.cells #[.int .i64 n2, .int .i64 d2] t)).cell? ⟨w.heap.size + 1, 1, none⟩ = some (.int .i64 d2) ∧ Below w.heap.size w ((w.alloc (.cells #[.int .i64 n1, .int .i64 d1] t)).alloc (.cells #[.int .i64 n2, .int .i64 d2] t)) ∧ w.heap.size + 1 < ((w.alloc (.cells #[.int .i64 n1, .int .i64 d1] t)).alloc (.cells #[.int .i64 n2, .int .i64 d2] t)).heap.size :=
  ⟨by simp, by simp, by simp, by simp, ((Below.refl _ _).alloc (Nat.le_refl _) _).alloc (by simp) _, by simp⟩
theorem held_alloc {w w1 : World} {n1 d1 n2 d2 : Int} {o : Obj}
    (s : w1.cell? ⟨w.heap.size, 0, none⟩ = some (.int .i64 n1) ∧ w1.cell? ⟨w.heap.size, 1, none⟩ = some (.int .i64 d1) ∧ w1.cell? ⟨w.heap.size + 1, 0, none⟩ = some (.int .i64 n2) ∧ w1.cell? ⟨w.heap.size + 1, 1, none⟩ = some (.int .i64 d2) ∧ Below w.heap.size w w1 ∧ w.heap.size + 1 < w1.heap.size) :
    (w1.alloc o).cell? ⟨w.heap.size, 0, none⟩ = some (.int .i64 n1) ∧ (w1.alloc o).cell? ⟨w.heap.size, 1, none⟩ = some (.int .i64 d1) ∧ (w1.alloc o).cell? ⟨w.heap.size + 1, 0, none⟩ = some (.int .i64 n2) ∧ (w1.alloc o).cell? ⟨w.heap.size + 1, 1, none⟩ = some (.int .i64 d2) ∧ Below w.heap.size w (w1.alloc o) ∧ w.heap.size + 1 < (w1.alloc o).heap.size := held_below s (below_alloc _ _)
theorem held_drew {w w1 : World} {n1 d1 n2 d2 : Int}
    (s : w1.cell? ⟨w.heap.size, 0, none⟩ = some (.int .i64 n1) ∧ w1.cell? ⟨w.heap.size, 1, none⟩ = some (.int .i64 d1) ∧ w1.cell? ⟨w.heap.size + 1, 0, none⟩ = some (.int .i64 n2) ∧ w1.cell? ⟨w.heap.size + 1, 1, none⟩ = some (.int .i64 d2) ∧ Below w.heap.size w w1 ∧ w.heap.size + 1 < w1.heap.size) :
    w1.drew.cell? ⟨w.heap.size, 0, none⟩ = some (.int .i64 n1) ∧ w1.drew.cell? ⟨w.heap.size, 1, none⟩ = some (.int .i64 d1) ∧ w1.drew.cell? ⟨w.heap.size + 1, 0, none⟩ = some (.int .i64 n2) ∧ w1.drew.cell? ⟨w.heap.size + 1, 1, none⟩ = some (.int .i64 d2) ∧ Below w.heap.size w w1.drew ∧ w.heap.size + 1 < w1.drew.heap.size := held_below s ((Below.refl _ _).drew)
theorem held_set {w w1 : World} {n1 d1 n2 d2 : Int} {b i : Nat} {v : Value}
    (s : w1.cell? ⟨w.heap.size, 0, none⟩ = some (.int .i64 n1) ∧ w1.cell? ⟨w.heap.size, 1, none⟩ = some (.int .i64 d1) ∧ w1.cell? ⟨w.heap.size + 1, 0, none⟩ = some (.int .i64 n2) ∧ w1.cell? ⟨w.heap.size + 1, 1, none⟩ = some (.int .i64 d2) ∧ Below w.heap.size w w1 ∧ w.heap.size + 1 < w1.heap.size)
    (hb : w.heap.size + 1 < b) :
    (w1.setCell ⟨b, i, none⟩ v).cell? ⟨w.heap.size, 0, none⟩ = some (.int .i64 n1) ∧ (w1.setCell ⟨b, i, none⟩ v).cell? ⟨w.heap.size, 1, none⟩ = some (.int .i64 d1) ∧ (w1.setCell ⟨b, i, none⟩ v).cell? ⟨w.heap.size + 1, 0, none⟩ = some (.int .i64 n2) ∧ (w1.setCell ⟨b, i, none⟩ v).cell? ⟨w.heap.size + 1, 1, none⟩ = some (.int .i64 d2) ∧ Below w.heap.size w (w1.setCell ⟨b, i, none⟩ v) ∧ w.heap.size + 1 < (w1.setCell ⟨b, i, none⟩ v).heap.size := by
  obtain ⟨s0, s1, s2, s3, s4, s5⟩ := s
  have hb' : Below b w1 (w1.setCell ⟨b, i, none⟩ v) := (Below.refl b w1).setCell (p := ⟨b, i, none⟩) (Nat.le_refl b) v
  exact ⟨(hb'.cell (p := ⟨_, _, none⟩) (by show w.heap.size < b; omega)).trans s0, (hb'.cell (p := ⟨_, _, none⟩) (by show w.heap.size < b; omega)).trans s1, (hb'.cell (p := ⟨_, _, none⟩) hb).trans s2, (hb'.cell (p := ⟨_, _, none⟩) hb).trans s3, s4.setCell (by show w.heap.size ≤ b; omega) v, by simpa using s5⟩
theorem held2_below {w wc w1 w2 : World} {n1 d1 n2 d2 RN RD : Int} {b : Nat}
    (s : w1.cell? ⟨w.heap.size, 0, none⟩ = some (.int .i64 n1) ∧ w1.cell? ⟨w.heap.size, 1, none⟩ = some (.int .i64 d1) ∧ w1.cell? ⟨w.heap.size + 1, 0, none⟩ = some (.int .i64 n2) ∧ w1.cell? ⟨w.heap.size + 1, 1, none⟩ = some (.int .i64 d2) ∧ w1.cell? ⟨b, 0, none⟩ = some (.int .i64 RN) ∧ w1.cell? ⟨b, 1, none⟩ = some (.int .i64 RD) ∧ Below w.heap.size w w1 ∧ w.heap.size + 1 < w1.heap.size ∧ wc.heap.size ≤ w1.heap.size ∧ b < wc.heap.size)
    (hb : Below w1.heap.size w1 w2) :
    w2.cell? ⟨w.heap.size, 0, none⟩ = some (.int .i64 n1) ∧ w2.cell? ⟨w.heap.size, 1, none⟩ = some (.int .i64 d1) ∧ w2.cell? ⟨w.heap.size + 1, 0, none⟩ = some (.int .i64 n2) ∧ w2.cell? ⟨w.heap.size + 1, 1, none⟩ = some (.int .i64 d2) ∧ w2.cell? ⟨b, 0, none⟩ = some (.int .i64 RN) ∧ w2.cell? ⟨b, 1, none⟩ = some (.int .i64 RD) ∧ Below w.heap.size w w2 ∧ w.heap.size + 1 < w2.heap.size ∧ wc.heap.size ≤ w2.heap.size ∧ b < wc.heap.size := by
  obtain ⟨s0, s1, s2, s3, s4, s5, s6, s7, s8, s9⟩ := s
  obtain ⟨hc, _⟩ := bcell hb
  exact ⟨(hc _ _ (by omega)).trans s0, (hc _ _ (by omega)).trans s1, (hc _ _ s7).trans s2, (hc _ _ s7).trans s3, (hc _ _ (by omega)).trans s4, (hc _ _ (by omega)).trans s5, s6.trans (hb.mono (by omega)), Nat.lt_of_lt_of_le s7 hb.size, Nat.le_trans s8 hb.size, s9⟩
theorem held2_set {w wc w1 : World} {n1 d1 n2 d2 RN RD : Int} {b c i : Nat} {v : Value}
    (s : w1.cell? ⟨w.heap.size, 0, none⟩ = some (.int .i64 n1) ∧ w1.cell? ⟨w.heap.size, 1, none⟩ = some (.int .i64 d1) ∧ w1.cell? ⟨w.heap.size + 1, 0, none⟩ = some (.int .i64 n2) ∧ w1.cell? ⟨w.heap.size + 1, 1, none⟩ = some (.int .i64 d2) ∧ w1.cell? ⟨b, 0, none⟩ = some (.int .i64 RN) ∧ w1.cell? ⟨b, 1, none⟩ = some (.int .i64 RD) ∧ Below w.heap.size w w1 ∧ w.heap.size + 1 < w1.heap.size ∧ wc.heap.size ≤ w1.heap.size ∧ b < wc.heap.size)
    (hx : w.heap.size + 1 < c) (hy : wc.heap.size ≤ c) :
    (w1.setCell ⟨c, i, none⟩ v).cell? ⟨w.heap.size, 0, none⟩ = some (.int .i64 n1) ∧ (w1.setCell ⟨c, i, none⟩ v).cell? ⟨w.heap.size, 1, none⟩ = some (.int .i64 d1) ∧ (w1.setCell ⟨c, i, none⟩ v).cell? ⟨w.heap.size + 1, 0, none⟩ = some (.int .i64 n2) ∧ (w1.setCell ⟨c, i, none⟩ v).cell? ⟨w.heap.size + 1, 1, none⟩ = some (.int .i64 d2) ∧ (w1.setCell ⟨c, i, none⟩ v).cell? ⟨b, 0, none⟩ = some (.int .i64 RN) ∧ (w1.setCell ⟨c, i, none⟩ v).cell? ⟨b, 1, none⟩ = some (.int .i64 RD) ∧ Below w.heap.size w (w1.setCell ⟨c, i, none⟩ v) ∧ w.heap.size + 1 < (w1.setCell ⟨c, i, none⟩ v).heap.size ∧ wc.heap.size ≤ (w1.setCell ⟨c, i, none⟩ v).heap.size ∧ b < wc.heap.size := by
  obtain ⟨s0, s1, s2, s3, s4, s5, s6, s7, s8, s9⟩ := s
  have hb' : Below c w1 (w1.setCell ⟨c, i, none⟩ v) := (Below.refl c w1).setCell (p := ⟨c, i, none⟩) (Nat.le_refl c) v
  have hc : ∀ x o, x < c → (w1.setCell ⟨c, i, none⟩ v).cell? ⟨x, o, none⟩ = w1.cell? ⟨x, o, none⟩ := fun x o h => hb'.cell (p := ⟨x, o, none⟩) h
  exact ⟨(hc _ _ (by omega)).trans s0, (hc _ _ (by omega)).trans s1, (hc _ _ (by omega)).trans s2, (hc _ _ (by omega)).trans s3, (hc _ _ (by omega)).trans s4, (hc _ _ (by omega)).trans s5, s6.setCell (by show w.heap.size ≤ c; omega) v, by simpa using s7, by simpa using s8, s9⟩
end Go.Proofs.Ytnchkgblpnompaa
namespace Go.Proofs.Ytnchkgblpnompaa
open Go.RowKit

def FRow (w : World) (a : Option Addr) (ls : List (Int × Int)) : Prop :=
  ls = [] ∨ ∃ b o, a = some ⟨b, o, none⟩ ∧ b < w.heap.size ∧ ∀ i, i < ls.length → w.cell? ⟨b, o + i * 2, none⟩ = some (.int .i64 (ls.getD i (0, 0)).1) ∧ w.cell? ⟨b, o + i * 2 + 1, none⟩ = some (.int .i64 (ls.getD i (0, 0)).2)
theorem FRow.below {w w' : World} {a : Option Addr} {ls : List (Int × Int)} (h : FRow w a ls) (hb : Below w.heap.size w w') : FRow w' a ls := by
  rcases h with h | ⟨b, o, rfl, hl, hc⟩
  · exact Or.inl h
  · exact Or.inr ⟨b, o, rfl, Nat.lt_of_lt_of_le hl hb.size, fun i hi => ⟨(hb.cell (p := ⟨b, o + i * 2, none⟩) hl).trans (hc i hi).1, (hb.cell (p := ⟨b, o + i * 2 + 1, none⟩) hl).trans (hc i hi).2⟩⟩
theorem FRow.at {w : World} {a : Option Addr} {ls : List (Int × Int)} (h : FRow w a ls) {i : Nat} (hi : i < ls.length) : ∃ b o, a = some ⟨b, o, none⟩ ∧ b < w.heap.size ∧ w.cell? ⟨b, o + i * 2, none⟩ = some (.int .i64 (ls.getD i (0, 0)).1) ∧ w.cell? ⟨b, o + i * 2 + 1, none⟩ = some (.int .i64 (ls.getD i (0, 0)).2) := by
  rcases h with rfl | ⟨b, o, rfl, hl, hc⟩
  · exact absurd hi (Nat.not_lt_zero _)
  · exact ⟨b, o, rfl, hl, (hc i hi).1, (hc i hi).2⟩

/-- Cells of a block that are there, and can be written. -/
def LooseF (w : World) (B m : Nat) : Prop := ∀ j, j < m → (w.cell? ⟨B, j, none⟩).isSome = true ∧ w.frozen? ⟨B, j, none⟩ = false
theorem LooseF.below {w w' : World} {B m : Nat} (h : LooseF w B m) (hb : Below w.heap.size w w') : LooseF w' B m := fun j hj => by
  obtain ⟨h1, h2⟩ := h j hj
  have hl : B < w.heap.size := by
    obtain ⟨v, hv⟩ := Option.isSome_iff_exists.1 h1
    exact World.block_lt_of_cell? w _ hv
  exact ⟨by rw [hb.cell (p := ⟨B, j, none⟩) hl]; exact h1, by rw [hb.frozen (p := ⟨B, j, none⟩) hl]; exact h2⟩
theorem LooseF.set {w : World} {B m i : Nat} {v : Value} (h : LooseF w B m) : LooseF (w.setCell ⟨B, i, none⟩ v) B m := fun j hj => by
  obtain ⟨h1, h2⟩ := h j hj
  refine ⟨?_, by rw [World.frozen?_setCell]; exact h2⟩
  by_cases e : j = i
  · subst e
    obtain ⟨u, hu⟩ := Option.isSome_iff_exists.1 h1
    rw [World.cell?_setCell_same _ _ _ hu]; rfl
  · rw [World.cell?_setCell_other _ _ _ _ (fun e' => e (by injection e' with _ e2; exact e2.symm))]; exact h1
theorem LooseF.lt {w : World} {B m : Nat} (h : LooseF w B m) (hm : 0 < m) : B < w.heap.size := by
  obtain ⟨v, hv⟩ := Option.isSome_iff_exists.1 (h 0 hm).1
  exact World.block_lt_of_cell? w _ hv
theorem grownF_set {a w : World} {B o : Nat} {v : Value} (h : a.grownBy w (some B)) : a.grownBy (w.setCell ⟨B, o, none⟩ v) (some B) :=
  ⟨h.os, h.tape, h.output, by simpa using h.size, fun k hk hne => (Below.heap_setCell _ _ _ k (by intro e; exact hne (by rw [e]))).trans (h.block k hk hne)⟩
theorem grownF_of {a w w' : World} {B : Nat} (h : a.grownBy w (some B)) (hb : Below w.heap.size w w') : a.grownBy w' (some B) :=
  ⟨hb.os.trans h.os, hb.tape.trans h.tape, hb.output.trans h.output, Nat.le_trans h.size hb.size, fun k hk hne => (hb.block k (Nat.lt_of_lt_of_le hk h.size)).trans (h.block k hk hne)⟩
def FAt (w : World) (b off : Nat) (xs : List (Int × Int)) : Prop :=
  ∀ i, i < xs.length → w.cell? ⟨b, off + i * 2, none⟩ = some (.int .i64 (xs.getD i (0, 0)).1) ∧ w.cell? ⟨b, off + i * 2 + 1, none⟩ = some (.int .i64 (xs.getD i (0, 0)).2)
theorem FAt.below {w w' : World} {B b off : Nat} {xs : List (Int × Int)} (h : FAt w b off xs) (hb : Below B w w') (hlt : b < B) : FAt w' b off xs :=
  fun i hi => ⟨(hb.cell (p := ⟨b, off + i * 2, none⟩) hlt).trans (h i hi).1, (hb.cell (p := ⟨b, off + i * 2 + 1, none⟩) hlt).trans (h i hi).2⟩
theorem FAt.row {w : World} {b off : Nat} {xs : List (Int × Int)} (h : FAt w b off xs) (hb : b < w.heap.size) : FRow w (some ⟨b, off, none⟩) xs := Or.inr ⟨b, off, rfl, hb, h⟩
theorem setF1 {W : World} {b i : Nat} {x : Value} (h : (W.cell? ⟨b, i, none⟩).isSome = true) : (W.setCell ⟨b, i, none⟩ x).cell? ⟨b, i, none⟩ = some x := by
  obtain ⟨v, hv⟩ := Option.isSome_iff_exists.1 h
  exact World.cell?_setCell_same _ _ _ hv
theorem madeF_cell (w : World) (n j : Nat) (t : TypeId) (hj : j < n * 2) : (w.alloc (.cells (madeCells #[.int .i64 0, .int .i64 0] (n * 2)) t)).cell? ⟨w.heap.size, j, none⟩ = some (.int .i64 0) := by
  have h2 : j % 2 = 0 ∨ j % 2 = 1 := by omega
  have h3 : (madeCells #[.int .i64 0, .int .i64 0] (n * 2))[j]? = some (.int .i64 0) := by
    rcases h2 with h2 | h2 <;> simp [madeCells, hj, h2]
  simp only [World.cell?, (MapKept.heap_alloc w _).1]
  simpa using h3
theorem putF2 {W : World} {B i : Nat} {x y : Value} (h0 : (W.cell? ⟨B, i, none⟩).isSome = true) (h1 : (W.cell? ⟨B, i + 1, none⟩).isSome = true) :
    ((W.setCell ⟨B, i, none⟩ x).setCell ⟨B, i + 1, none⟩ y).cell? ⟨B, i, none⟩ = some x ∧ ((W.setCell ⟨B, i, none⟩ x).setCell ⟨B, i + 1, none⟩ y).cell? ⟨B, i + 1, none⟩ = some y ∧
    (∀ j, j ≠ i → j ≠ i + 1 → ((W.setCell ⟨B, i, none⟩ x).setCell ⟨B, i + 1, none⟩ y).cell? ⟨B, j, none⟩ = W.cell? ⟨B, j, none⟩) ∧ (∀ a, ((W.setCell ⟨B, i, none⟩ x).setCell ⟨B, i + 1, none⟩ y).frozen? a = W.frozen? a) := by
  refine ⟨?_, ?_, ?_, ?_⟩
  · rw [World.cell?_setCell_other _ _ _ _ (by simp)]; exact setF1 h0
  · exact setF1 (by rw [World.cell?_setCell_other _ _ _ _ (by simp)]; exact h1)
  · intro j hj hj'
    rw [World.cell?_setCell_other _ _ _ _ (fun e => hj' (by injection e with _ e2; exact e2.symm)), World.cell?_setCell_other _ _ _ _ (fun e => hj (by injection e with _ e2; exact e2.symm))]
  · intro a; rw [World.frozen?_setCell, World.frozen?_setCell]
theorem madeF_frozen (w : World) (c : Array Value) (j : Nat) (t : TypeId) : (w.alloc (.cells c t)).frozen? ⟨w.heap.size, j, none⟩ = false := by simp [go_sem]

theorem takeF_row {w : World} {b off : Nat} {xs : List (Int × Int)} {k : Nat} (h : FAt w b off (xs.take k)) (hk : k < xs.length) (x1 x2 : Int) (hx : xs.getD k (0, 0) = (x1, x2)) {w' : World}
    (hw : ∀ j, j < off + k * 2 → w'.cell? ⟨b, j, none⟩ = w.cell? ⟨b, j, none⟩) (h0 : w'.cell? ⟨b, off + k * 2, none⟩ = some (.int .i64 x1)) (h1 : w'.cell? ⟨b, off + k * 2 + 1, none⟩ = some (.int .i64 x2)) : FAt w' b off (xs.take (k + 1)) := by
  intro i hi
  simp only [List.length_take] at hi
  by_cases e : i < k
  · have hh := h i (by simp only [List.length_take]; omega)
    have eq : (xs.take (k + 1)).getD i (0, 0) = (xs.take k).getD i (0, 0) := by
      simp [e, show i < k + 1 by omega]
    rw [eq]
    exact ⟨(hw _ (by omega)).trans hh.1, (hw _ (by omega)).trans hh.2⟩
  · have e2 : i = k := by omega
    subst e2
    have eq : (xs.take (i + 1)).getD i (0, 0) = (x1, x2) := by
      rw [← hx]; simp
    rw [eq]
    exact ⟨h0, h1⟩


end Go.Proofs.Ytnchkgblpnompaa
namespace Go.Proofs.Ytnchkgblpnompaa
open Go.RowKit

theorem infoI : ∃ i, Try.prog.info? 3 = some i ∧ i.zero = some (.int .i64 0) ∧ i.size = 1 ∧ i.bytes = 8 := by
  have h : (Try.prog.info? 3).map (fun i => (i.zero, i.size, i.bytes)) = some (some (.int .i64 0), 1, 8) := by kernel_rfl
  obtain ⟨i, hi, hzz⟩ := Option.map_eq_some_iff.1 h
  simp only [Prod.mk.injEq] at hzz
  exact ⟨i, hi, hzz.1, hzz.2.1, hzz.2.2⟩
/-- A slice of values of one cell each. -/
def VRow (w : World) (a : Option Addr) (vs : List Value) : Prop := vs = [] ∨ ∃ b off, a = some ⟨b, off, none⟩ ∧ b < w.heap.size ∧ ∀ j u, vs[j]? = some u → w.cell? ⟨b, off + j, none⟩ = some u
theorem VRow.below {w w' : World} {a : Option Addr} {vs : List Value} (h : VRow w a vs) (hb : Below w.heap.size w w') : VRow w' a vs := by
  rcases h with h | ⟨b, off, ha, hl, hc⟩
  · exact Or.inl h
  · exact Or.inr ⟨b, off, ha, Nat.lt_of_lt_of_le hl hb.size, fun j u hj => (hb.cell (p := ⟨b, off + j, none⟩) hl).trans (hc j u hj)⟩
theorem ARow.vrow {w : World} {a : Option Addr} {xs : List Int} (h : ARow w a xs) : VRow w a (ints xs) := by
  rcases h with h | ⟨b, off, ha, hl, hc⟩
  · exact Or.inl (by rw [h]; rfl)
  · refine Or.inr ⟨b, off, ha, hl, fun j u hj => ?_⟩
    have hjl : j < xs.length := by
      have := (List.getElem?_eq_some_iff.1 hj).1
      simpa [ints] using this
    rw [hc j hjl]
    rw [ints_get xs j hjl] at hj
    exact hj
theorem c_ints (xs : List Int) : ∀ u ∈ ints xs, u.oneCell' = true := by
  intro u hu
  simp only [ints, List.mem_map] at hu
  obtain ⟨x, _, rfl⟩ := hu; rfl
theorem add_plain' (b o j : Nat) : (⟨b, o, none⟩ : Addr).add j = ⟨b, o + j, none⟩ := by unfold Addr.add; split <;> simp_all
/-- Append of whatever list of values, onto an owned one. -/
theorem run_append_v {P : Program} (w : World) (base : Nat) (t ty e : TypeId) (i : TypeInfo) (z : Value) (bytes : Nat) (ht : P.underlying t = some (.slice e)) (hi : P.info? e = some i) (hz : i.zero = some z)
    (hsize : i.size = 1) (hby : i.bytes = bytes) (hzs : z.cells.size = 1) (v : Value) (n : Nat) (xs : List Value) (hown : w.ownsRow base e 1 v n xs)
    (a : Option Addr) (m c : Nat) (news : List Value) (hm : news.length = m) (hv : VRow w a news) (h1 : ∀ u ∈ news, u.oneCell' = true) (h63 : n + m ≤ maxLen) (hbytes : (n + m) * bytes ≤ 140737488355328) (hbase : base ≤ w.heap.size) :
    ∃ v' w', (Builtin.append_ #[t, t] ty #[v, .slice a m c]).run P w = .ok v' w' ∧ w'.ownsRow base e 1 v' (n + m) (xs ++ news) ∧ w.grownBy w' v.ownBlock := by
  cases a with
  | none =>
    have hn : news = [] := by
      rcases hv with h | ⟨b, off, h, _⟩
      · exact h
      · cases h
    subst hn
    have : m = 0 := by simpa using hm.symm
    subst this
    refine ⟨v, w, ?_, by simpa using hown, World.grownBy.refl _ _⟩
    rcases hown.2 with ⟨rfl, rfl⟩ | ⟨g, cap, cur, rfl, _, _, hnc, _⟩
    · simp [Builtin.append_, run_underlying ht, sizeOf, typeInfo, hi, Builtin.lenOf, Builtin.firstCells]
    · simp [Builtin.append_, run_underlying ht, sizeOf, typeInfo, hi, Builtin.lenOf, Builtin.firstCells, hnc, storeCells]
  | some ad =>
    obtain ⟨v', w', hr, h2, h3, _⟩ := run_append_own (P := P) w base t ty e i z 1 bytes ht hi hz hsize hby hzs (by decide) v n xs hown ad m c news (by omega) (fun j u hj => by
      rcases hv with h | ⟨b, off, h, _, hc⟩
      · rw [h] at hj; simp at hj
      · cases h; rw [add_plain']; exact hc j u hj) h1 h63 hbytes hbase
    exact ⟨v', w', hr, h2, h3⟩
theorem grown_under' {w w' : World} {base e s n k : Nat} {v : Value} {xs : List Value} (hg : w.grownBy w' v.ownBlock) (h : w.ownsRow base e s v n xs) (hk : k ≤ base) (hs : k ≤ w.heap.size) : Below k w w' :=
  ⟨hg.os, hg.tape, hg.output, hg.size, fun b hb => hg.block b (by omega) (fun he => by have := h.lt b he.symm; omega)⟩
theorem vrow_new (w : World) (u : Value) (e : TypeId) : VRow (w.alloc (.cells #[u] e)) (some ⟨w.heap.size, 0, none⟩) [u] := by
  refine Or.inr ⟨w.heap.size, 0, rfl, by simp, fun j x hj => ?_⟩
  have : j = 0 := by
    have := (List.getElem?_eq_some_iff.1 hj).1
    simpa using this
  subst this
  have : x = u := by simpa using hj.symm
  subst this
  simp
/-- One value more behind an owned list of ints. -/
theorem push_int {w : World} {base n : Nat} {v : Value} {xs : List Value} {x : Int} (hown : w.ownsRow base 3 1 v n xs) (hn : n ≤ 100000) (hb : base ≤ w.heap.size) :
    ∃ v' w', (∀ ty, (Builtin.append_ #[23, 23] ty #[v, .slice (some ⟨w.heap.size, 0, none⟩) 1 1]).run Try.prog (w.alloc (.cells #[.int .i64 x] 3)) = .ok v' w') ∧ w'.ownsRow base 3 1 v' (n + 1) (xs ++ [.int .i64 x]) ∧ w.grownBy w' v.ownBlock := by
  obtain ⟨i0, hi, hz0, hz1, hz2⟩ := infoI
  obtain ⟨v', w', h1, h2, h3⟩ := run_append_v (P := Try.prog) (w.alloc (.cells #[.int .i64 x] 3)) base 23 0 3 i0 _ 8 Try.underlying23 hi hz0 hz1 hz2 rfl v n xs (hown.alloc _) (some ⟨w.heap.size, 0, none⟩) 1 1 [.int .i64 x] rfl (vrow_new w _ 3) (fun u hu => by simp at hu; subst hu; rfl) (by unfold maxLen; omega) (by omega) (by simp; omega)
  refine ⟨v', w', fun _ => h1, h2, ?_⟩
  have hg := World.grownBy_alloc w (.cells #[.int .i64 x] 3) v.ownBlock
  exact ⟨h3.os.trans hg.os, h3.tape.trans hg.tape, h3.output.trans hg.output, Nat.le_trans hg.size h3.size, fun b hb hne => (h3.block b (Nat.lt_of_lt_of_le hb hg.size) hne).trans (hg.block b hb hne)⟩
/-- An owned list is nothing, or lies somewhere. -/
theorem own_form {w : World} {base e s n : Nat} {v : Value} {xs : List Value} (h : w.ownsRow base e s v n xs) : ∃ a c, v = .slice a n c := by
  rcases h.2 with ⟨rfl, rfl⟩ | ⟨g, cap, cur, rfl, _⟩
  · exact ⟨none, 0, rfl⟩
  · exact ⟨_, _, rfl⟩
end Go.Proofs.Ytnchkgblpnompaa
namespace Go.Proofs.Ytnchkgblpnompaa
open Go.RowKit

/-- Nothing has turned but the blocks x and y; new blocks may be there. -/
structure Off2 (w w' : World) (x y : Nat) : Prop where
  os : w'.os = w.os
  tape : w'.tape = w.tape
  output : w'.output = w.output
  size : w.heap.size ≤ w'.heap.size
  block : ∀ b, b < w.heap.size → b ≠ x → b ≠ y → w'.heap[b]? = w.heap[b]?
theorem Off2.below {w w' : World} {x y k : Nat} (h : Off2 w w' x y) (hx : k ≤ x) (hy : k ≤ y) (hk : k ≤ w.heap.size) : Below k w w' :=
  ⟨h.os, h.tape, h.output, h.size, fun b hb => h.block b (by omega) (by omega) (by omega)⟩
theorem own_near {w : World} {base n g cap : Nat} {xs : List Value} (h : w.ownsRow base 3 1 (.slice (some ⟨g, 0, none⟩) n cap) n xs) : g < w.heap.size := by
  rcases h.2 with ⟨h0, _⟩ | ⟨g', cap', cur, hv, h2, h3, _⟩
  · cases h0
  · cases hv; exact (Array.getElem?_eq_some_iff.1 h3).1

end Go.Proofs.Ytnchkgblpnompaa
namespace Go.Proofs.Ytnchkgblpnompaa
open Go.RowKit

/-- The list that a value owns holds k, k + 1, .. -/
def HeldV (w : World) (v : Value) (n : Nat) (k : Int) : Prop :=
  (v = .slice none 0 0 ∧ n = 0) ∨ ∃ g cap, v = .slice (some ⟨g, 0, none⟩) n cap ∧ g < w.heap.size ∧ ∀ j : Nat, j < n → w.cell? ⟨g, j, none⟩ = some (.int .i64 (k + j))
theorem HeldV.keep {w w' : World} {v : Value} {n : Nat} {k : Int} (h : HeldV w v n k) (hs : w.heap.size ≤ w'.heap.size) (hb : ∀ g, v.ownBlock = some g → w'.heap[g]? = w.heap[g]?) : HeldV w' v n k := by
  rcases h with h | ⟨g, cap, rfl, hl, hc⟩
  · exact Or.inl h
  · exact Or.inr ⟨g, cap, rfl, Nat.lt_of_lt_of_le hl hs, fun j hj => (World.cell?_of_block (w := w) (a := ⟨g, j, none⟩) (hb g rfl)).trans (hc j hj)⟩
theorem HeldV.below {w w' : World} {v : Value} {n : Nat} {k : Int} (h : HeldV w v n k) (hb : Below w.heap.size w w') : HeldV w' v n k := by
  rcases h with h | ⟨g, cap, rfl, hl, hc⟩
  · exact Or.inl h
  · exact Or.inr ⟨g, cap, rfl, Nat.lt_of_lt_of_le hl hb.size, fun j hj => (hb.cell (p := ⟨g, j, none⟩) hl).trans (hc j hj)⟩
theorem own_keep {w w' : World} {base n : Nat} {v : Value} {xs : List Value} (h : w.ownsRow base 3 1 v n xs) (hb : ∀ g, v.ownBlock = some g → g < w.heap.size → w'.heap[g]? = w.heap[g]?) : w'.ownsRow base 3 1 v n xs := by
  rcases h with ⟨h0, h | ⟨g', cap, cur, rfl, h2, h3, h4⟩⟩
  · exact ⟨h0, Or.inl h⟩
  · exact ⟨h0, Or.inr ⟨g', cap, cur, rfl, h2, (hb g' rfl (Array.getElem?_eq_some_iff.1 h3).1).trans h3, h4⟩⟩
theorem own_below {w w' : World} {base n : Nat} {v : Value} {xs : List Value} (h : w.ownsRow base 3 1 v n xs) (hb : Below w.heap.size w w') : w'.ownsRow base 3 1 v n xs := own_keep h fun _ _ hl => hb.block _ hl
theorem own_row {w : World} {base n : Nat} {v : Value} {xs : List Int} (hx : xs.length = n) (h : w.ownsRow base 3 1 v n (ints xs)) : ∃ a cap, v = .slice a n cap ∧ ARow w a xs := by
  rcases h.2 with ⟨rfl, hn⟩ | ⟨g, cap, cur, rfl, _⟩
  · subst hn; exact ⟨none, 0, rfl, Or.inl (List.length_eq_zero_iff.1 hx)⟩
  · exact ⟨_, _, rfl, arow_owns hx.symm h⟩
theorem grown_under {w w' : World} {base n k : Nat} {v : Value} {xs : List Value} (hg : w.grownBy w' v.ownBlock) (h : w.ownsRow base 3 1 v n xs) (hk : k ≤ base) (hs : k ≤ w.heap.size) : Below k w w' :=
  ⟨hg.os, hg.tape, hg.output, hg.size, fun b hb => hg.block b (by omega) (fun he => by have := h.lt b he.symm; omega)⟩

end Go.Proofs.Ytnchkgblpnompaa
namespace Go.Proofs.Ytnchkgblpnompaa
open Go.RowKit

def ite (L : List (Int × Int)) : List Value := L.flatMap fun f => [.int .i64 f.1, .int .i64 f.2]
theorem ite_snoc (L : List (Int × Int)) (f : Int × Int) : ite (L ++ [f]) = ite L ++ [.int .i64 f.1, .int .i64 f.2] := by simp [ite]
theorem ite_len (L : List (Int × Int)) : (ite L).length = L.length * 2 := by
  induction L with
  | nil => rfl
  | cons x L ih =>
    have : ite (x :: L) = [.int .i64 x.1, .int .i64 x.2] ++ ite L := by simp [ite]
    rw [this, List.length_append, ih]; simp; omega
theorem ite_get : ∀ (L : List (Int × Int)) (i : Nat), i < L.length → (ite L)[i * 2]? = some (.int .i64 (L.getD i (0, 0)).1) ∧ (ite L)[i * 2 + 1]? = some (.int .i64 (L.getD i (0, 0)).2)
  | [], i, h => by simp at h
  | f :: r, 0, _ => by simp [ite]
  | f :: r, i + 1, h => by
    have ih := ite_get r i (by simpa using h)
    have e : ite (f :: r) = [.int .i64 f.1, .int .i64 f.2] ++ ite r := by simp [ite]
    rw [e, List.getD_cons_succ]
    constructor
    · rw [List.getElem?_append_right (by simp; omega)]
      rw [show (i + 1) * 2 - [Value.int IntKind.i64 f.1, Value.int IntKind.i64 f.2].length = i * 2 by simp; omega]
      exact ih.1
    · rw [List.getElem?_append_right (by simp; omega)]
      rw [show (i + 1) * 2 + 1 - [Value.int IntKind.i64 f.1, Value.int IntKind.i64 f.2].length = i * 2 + 1 by simp; omega]
      exact ih.2
theorem own_form2 {w : World} {base e s n : Nat} {v : Value} {xs : List Value} (h : w.ownsRow base e s v n xs) : ∃ a cap, v = .slice a n cap := by
  rcases h.2 with ⟨rfl, hn⟩ | ⟨g, cap, cur, rfl, _⟩
  · exact ⟨none, 0, by rw [hn]⟩
  · exact ⟨_, _, rfl⟩
theorem own_keep2 {w w' : World} {base e s n : Nat} {v : Value} {xs : List Value} (h : w.ownsRow base e s v n xs) (hb : ∀ g, v.ownBlock = some g → g < w.heap.size → w'.heap[g]? = w.heap[g]?) : w'.ownsRow base e s v n xs := by
  rcases h with ⟨h0, h | ⟨g', cap, cur, rfl, h2, h3, h4⟩⟩
  · exact ⟨h0, Or.inl h⟩
  · exact ⟨h0, Or.inr ⟨g', cap, cur, rfl, h2, (hb g' rfl (Array.getElem?_eq_some_iff.1 h3).1).trans h3, h4⟩⟩
theorem own_below2 {w w' : World} {base e s n : Nat} {v : Value} {xs : List Value} (h : w.ownsRow base e s v n xs) (hb : Below w.heap.size w w') : w'.ownsRow base e s v n xs := own_keep2 h fun _ _ hl => hb.block _ hl
theorem own_low2 {w : World} {base base' e s n : Nat} {v : Value} {xs : List Value} (h : w.ownsRow base e s v n xs) (hb : base' ≤ base) : w.ownsRow base' e s v n xs := by
  rcases h with ⟨h0, h | ⟨g, cap, cur, h1, h2, h3⟩⟩
  · exact ⟨h0, Or.inl h⟩
  · exact ⟨h0, Or.inr ⟨g, cap, cur, h1, Nat.le_trans hb h2, h3⟩⟩
/-- Items that are owned can be read. -/
theorem own_items {w : World} {base e n : Nat} {v : Value} {L : List (Int × Int)} (hx : L.length = n) (h : w.ownsRow base e 2 v n (ite L)) : ∃ a c, v = .slice a n c ∧ FRow w a L := by
  rcases h.2 with ⟨rfl, hn⟩ | ⟨g, cap, cur, rfl, hb, hg, _⟩
  · subst hn; exact ⟨none, 0, rfl, Or.inl (List.length_eq_zero_iff.1 hx)⟩
  · refine ⟨_, _, rfl, Or.inr ⟨g, 0, rfl, (Array.getElem?_eq_some_iff.1 hg).1, fun i hi => ?_⟩⟩
    obtain ⟨e1, e2⟩ := ite_get L i hi
    rw [Nat.zero_add, h.cellAt (i * 2) (by omega), h.cellAt (i * 2 + 1) (by omega)]
    exact ⟨e1, e2⟩
/-- The items of a list of sizes. -/
def its (l : List Int) : List (Int × Int) := (List.range l.length).map fun (i : Nat) => ((i : Int), l.getD i 0)
theorem its_len (l : List Int) : (its l).length = l.length := by simp [its]
theorem its_at {l : List Int} {i : Nat} (hi : i < l.length) : (its l).getD i (0, 0) = ((i : Int), l.getD i 0) := by simp [its, hi]
theorem its_take {l : List Int} {k : Nat} (hk : k < l.length) : (its l).take (k + 1) = (its l).take k ++ [((k : Int), l.getD k 0)] := by
  rw [List.take_add_one]
  simp [its, hk]
theorem infoT : ∃ i, Try.prog.info? 61 = some i ∧ i.zero = some (.agg #[.int .i64 0, .int .i64 0]) ∧ i.size = 2 ∧ i.bytes = 16 := by
  have h : (Try.prog.info? 61).map (fun i => (i.zero, i.size, i.bytes)) = some (some (.agg #[.int .i64 0, .int .i64 0]), 2, 16) := by kernel_rfl
  obtain ⟨i, hi, hzz⟩ := Option.map_eq_some_iff.1 h
  simp only [Prod.mk.injEq] at hzz
  exact ⟨i, hi, hzz.1, hzz.2.1, hzz.2.2⟩
/-- One item more behind an owned list, and where it lies then. -/
theorem push_it {w : World} {base n t : Nat} {v : Value} {xs : List Value} {x y : Int} (hu : Try.prog.underlying t = some (.slice 61)) (hown : w.ownsRow base 61 2 v n xs) (hn : n ≤ 1048576) (hb : base ≤ w.heap.size) :
    ∃ g cap w', (∀ ty, (Builtin.append_ #[t, t] ty #[v, .slice (some ⟨w.heap.size, 0, none⟩) 1 1]).run Try.prog (w.alloc (.cells #[.int .i64 x, .int .i64 y] 61)) = .ok (.slice (some ⟨g, 0, none⟩) (n + 1) cap) w') ∧ w'.ownsRow base 61 2 (.slice (some ⟨g, 0, none⟩) (n + 1) cap) (n + 1) (xs ++ [.int .i64 x, .int .i64 y]) ∧ w.grownBy w' v.ownBlock ∧ (v.ownBlock = some g ∨ w.heap.size ≤ g) := by
  obtain ⟨i0, hi, hz0, hz1, hz2⟩ := infoT
  obtain ⟨g, cap, w', h1, h2, h3, h4, _⟩ := run_append_lies (P := Try.prog) (w := w.alloc (.cells #[.int .i64 x, .int .i64 y] 61)) t 0 base 61 i0 _ 2 16 hu hi hz0 hz1 hz2 rfl (by decide) v n xs (hown.alloc _) ⟨w.heap.size, 0, none⟩ 1 1 [.int .i64 x, .int .i64 y] rfl (fun j u hj => by
      have hj2 : j = 0 ∨ j = 1 := by
        have := (List.getElem?_eq_some_iff.1 hj).1
        simp at this; omega
      rw [add_plain']
      rcases hj2 with rfl | rfl
      · simp at hj; subst hj; simp
      · simp at hj; subst hj; simp) (fun u hu => by simp at hu; rcases hu with rfl | rfl <;> rfl) (by omega) (by unfold maxLen; omega) (by omega) (by simp; omega) _ rfl
  have hg := World.grownBy_alloc w (.cells #[.int .i64 x, .int .i64 y] 61) v.ownBlock
  refine ⟨g, cap, w', fun _ => h1, h2, ⟨h3.os.trans hg.os, h3.tape.trans hg.tape, h3.output.trans hg.output, Nat.le_trans hg.size h3.size, fun b hb hne => (h3.block b (Nat.lt_of_lt_of_le hb hg.size) hne).trans (hg.block b hb hne)⟩, ?_⟩
  rcases h4 with h4 | h4
  · exact Or.inl h4
  · exact Or.inr (by rw [h4]; simp)
theorem grown_under2 {w w' : World} {base e s n k : Nat} {v : Value} {xs : List Value} (hg : w.grownBy w' v.ownBlock) (h : w.ownsRow base e s v n xs) (hk : k ≤ base) (hs : k ≤ w.heap.size) : Below k w w' :=
  ⟨hg.os, hg.tape, hg.output, hg.size, fun b hb => hg.block b (by omega) (fun he => by have := h.lt b he.symm; omega)⟩
set_option maxRecDepth 100000 in
set_option maxHeartbeats 2000000 in
theorem io_any {a : Option Addr} {n c : Nat} {l : List Int} {w : World} (hx : l.length = n) (hn : n ≤ 1000) (ha : ARow w a l) :
    Calls Try.prog 27 #[.slice a n c] w fun e w' => ∃ v, e = .returned v ∧ w'.ownsRow w.heap.size 61 2 v n (ite (its l)) ∧ Below w.heap.size w w' := by
  have HX := hide hx
  have HA := hide ha
  clear hx ha
  go_enter Try.func27, Try.ntmps27
  go_wp2_with fail
  go_loopw [3, 4, 5, 8] (fun v _ _ s wr => ∃ (k : Nat), s = .int .i64 k ∧ k ≤ n ∧ Hid (wr.ownsRow w.heap.size 61 2 v k (ite ((its l).take k))) ∧ Hid (Below w.heap.size w wr)) (fun _ _ _ s _ => n - (intOf s).toNat)
  case atStart => exact ⟨0, rfl, Nat.zero_le _, hide (World.ownsRow_nil _ _ _ _), hide (Below.refl _ _)⟩
  case round =>
    obtain ⟨k, rfl, hk, HO, HB⟩ := hrel
    by_cases hlt : k < n
    · obtain ⟨b, off, rfl, r1⟩ := (HA.out.below HB.out).at (i := k) (by rw [HX.out]; exact hlt)
      have i0 : (0 : Int) ≤ (k : Int) := by omega
      have i1 : (k : Int) < (n : Int) := by omega
      obtain ⟨av, cv, hv⟩ := own_form2 HO.out
      subst hv
      obtain ⟨g, cap, w', hr, own', hg, _⟩ := push_it (x := (k : Int)) (y := l.getD k 0) Try.underlying41 HO.out (by omega) HB.out.size
      have HO' : Hid (w'.ownsRow w.heap.size 61 2 (.slice (some ⟨g, 0, none⟩) (k + 1) cap) (k + 1) (ite ((its l).take (k + 1)))) := hide (by rw [its_take (by rw [HX.out]; exact hlt), ite_snoc]; exact own')
      have HB' := hide (HB.out.trans (grown_under2 hg HO.out (Nat.le_refl _) HB.out.size))
      generalize l.getD k 0 = x at *
      clear own' hg HO
      go_wp2_with (first | (at_builtin; refine Lib.wpList_append_run _ rfl _ _ _ _ rfl _ _ rfl rfl _ _ (hr _) ?_))
      go_roundw
      case rel => exact ⟨k + 1, by go_num, by omega, HO', HB'⟩
      case measure => simp only [intOf]; omega
    · have hke : k = n := by omega
      subst hke
      have HF : Hid (wr.ownsRow w.heap.size 61 2 u3 k (ite (its l))) := hide (by have := HO.out; rwa [List.take_of_length_le (by rw [its_len, HX.out]; exact Nat.le_refl _)] at this)
      go_wp2_with fail
      go_ret
      exact ⟨u3, rfl, HF.out, HB.out⟩
end Go.Proofs.Ytnchkgblpnompaa
namespace Go.Proofs.Ytnchkgblpnompaa.It

/-- How much room is left in a box. -/
def rm (b : List (Int × Int)) : Int := 20 - (b.map Prod.snd).sum
theorem rm_nil : rm [] = 20 := rfl
theorem sum_snoc (l : List Int) (x : Int) : (l ++ [x]).sum = l.sum + x := by rw [List.sum_append]; simp
theorem rm_snoc (b : List (Int × Int)) (x : Int × Int) : rm (b ++ [x]) = rm b - x.2 := by
  unfold rm; rw [List.map_append, List.map_cons, List.map_nil, sum_snoc]; omega
/-- The first box in which there is room, or behind all. -/
def atI (B : List (List (Int × Int))) (s : Int) : Nat := B.findIdx fun b => decide (s ≤ rm b)
theorem at_le (B : List (List (Int × Int))) (s : Int) : atI B s ≤ B.length := List.findIdx_le_length
theorem at_yes {B : List (List (Int × Int))} {s : Int} {i : Nat} (hi : i < B.length) (h : s ≤ rm (B.getD i [])) (hn : ∀ j, j < i → ¬ s ≤ rm (B.getD j [])) : atI B s = i := by
  unfold atI
  rw [List.findIdx_eq hi]
  constructor
  · simpa [hi] using h
  · intro j hj
    have := hn j hj
    simp [show j < B.length by omega] at this
    simpa using this
theorem at_no {B : List (List (Int × Int))} {s : Int} (hn : ∀ j, j < B.length → ¬ s ≤ rm (B.getD j [])) : atI B s = B.length := by
  unfold atI
  rw [List.findIdx_eq_length]
  intro b hb
  obtain ⟨j, hj, rfl⟩ := List.mem_iff_getElem.1 hb
  have := hn j hj
  simp [hj] at this
  simpa using this
def ext (B : List (List (Int × Int))) (i : Nat) : List (List (Int × Int)) := if i < B.length then B else B ++ [[]]
def place (B : List (List (Int × Int))) (x : Int × Int) : List (List (Int × Int)) := (ext B (atI B x.2)).set (atI B x.2) ((ext B (atI B x.2)).getD (atI B x.2) [] ++ [x])
def fillTo (xs : List (Int × Int)) (k : Nat) : List (List (Int × Int)) := (xs.take k).foldl place []
def fill (xs : List (Int × Int)) : List (List (Int × Int)) := xs.foldl place []
theorem fillTo_zero (xs : List (Int × Int)) : fillTo xs 0 = [] := rfl
theorem fillTo_succ {xs : List (Int × Int)} {k : Nat} (hk : k < xs.length) : fillTo xs (k + 1) = place (fillTo xs k) (xs.getD k (0, 0)) := by
  unfold fillTo
  rw [List.take_add_one, List.foldl_append]
  simp [hk]
theorem fillTo_all (xs : List (Int × Int)) {k : Nat} (hk : xs.length ≤ k) : fillTo xs k = fill xs := by
  unfold fillTo fill; rw [List.take_of_length_le hk]
def nums (B : List (List (Int × Int))) : List (List Int) := B.map fun b => b.map Prod.fst
def rooms (B : List (List (Int × Int))) : List Int := B.map rm
theorem nums_len (B : List (List (Int × Int))) : (nums B).length = B.length := by simp [nums]
theorem rooms_len (B : List (List (Int × Int))) : (rooms B).length = B.length := by simp [rooms]
theorem nums_at {B : List (List (Int × Int))} {i : Nat} : (nums B).getD i [] = (B.getD i []).map Prod.fst := by
  by_cases h : i < B.length
  · simp [nums, h]
  · simp [nums, List.getElem?_eq_none (show B.length ≤ i by omega)]
theorem rooms_at {B : List (List (Int × Int))} {i : Nat} (h : i < B.length) : (rooms B).getD i 0 = rm (B.getD i []) := by simp [rooms, h]
theorem nums_set {B : List (List (Int × Int))} {i : Nat} {b : List (Int × Int)} : nums (B.set i b) = (nums B).set i (b.map Prod.fst) := by simp [nums, List.map_set]
theorem rooms_set {B : List (List (Int × Int))} {i : Nat} {b : List (Int × Int)} : rooms (B.set i b) = (rooms B).set i (rm b) := by simp [rooms, List.map_set]
theorem nums_snoc {B : List (List (Int × Int))} : nums (B ++ [[]]) = nums B ++ [[]] := by simp [nums]
theorem rooms_snoc {B : List (List (Int × Int))} : rooms (B ++ [[]]) = rooms B ++ [20] := by simp [rooms, rm_nil]
/-- What boxes are when k items were put in. -/
structure FI (xs : List (Int × Int)) (k : Nat) (B : List (List (Int × Int))) : Prop where
  few : B.length ≤ k
  box : ∀ i, i < B.length → (B.getD i []).length ≤ k ∧ 0 ≤ rm (B.getD i []) ∧ rm (B.getD i []) ≤ 20 ∧ ∀ y ∈ B.getD i [], y ∈ xs.take k
theorem fi_start (xs : List (Int × Int)) : FI xs 0 [] := ⟨Nat.le_refl _, fun _ hi => absurd hi (Nat.not_lt_zero _)⟩
theorem ext_at {B : List (List (Int × Int))} {i : Nat} (hi : i ≤ B.length) : i < (ext B i).length := by
  unfold ext; split
  · assumption
  · simp; omega
theorem take_sub {xs : List (Int × Int)} {k : Nat} {y : Int × Int} (h : y ∈ xs.take k) : y ∈ xs.take (k + 1) := by
  rw [List.take_add_one]; exact List.mem_append.2 (Or.inl h)
theorem take_last {xs : List (Int × Int)} {k : Nat} (hk : k < xs.length) : xs.getD k (0, 0) ∈ xs.take (k + 1) := by
  rw [List.take_add_one]; refine List.mem_append.2 (Or.inr ?_); simp [hk]
theorem fi_ext {xs : List (Int × Int)} {k : Nat} {B : List (List (Int × Int))} (h : FI xs k B) (i : Nat) : ∀ j, j < (ext B i).length → ((ext B i).getD j []).length ≤ k ∧ 0 ≤ rm ((ext B i).getD j []) ∧ rm ((ext B i).getD j []) ≤ 20 ∧ ∀ y ∈ (ext B i).getD j [], y ∈ xs.take k := by
  intro j hj
  unfold ext at hj ⊢
  split
  · rename_i hi
    rw [if_pos hi] at hj
    exact h.box j hj
  · rename_i hi
    rw [if_neg hi] at hj
    by_cases e : j < B.length
    · have : (B ++ [[]]).getD j [] = B.getD j [] := by simp [List.getElem?_append_left e]
      rw [this]; exact h.box j e
    · have e2 : j = B.length := by simp at hj; omega
      have : (B ++ [[]]).getD j [] = [] := by subst e2; simp
      rw [this]
      exact ⟨by simp, by rw [rm_nil]; omega, by rw [rm_nil]; omega, fun y hy => by simp at hy⟩
/-- In the box that is chosen there is room. -/
theorem fi_room {xs : List (Int × Int)} {k : Nat} {B : List (List (Int × Int))} {s : Int} (_h : FI xs k B) (hs : s ≤ 20) : s ≤ rm ((ext B (atI B s)).getD (atI B s) []) := by
  by_cases e : atI B s < B.length
  · have h1 : (B.findIdx fun b => decide (s ≤ rm b)) < B.length := e
    have h2 := List.findIdx_getElem (w := h1)
    unfold ext
    rw [if_pos e]
    rw [List.getD_eq_getElem?_getD, List.getElem?_eq_getElem e]
    simpa [atI] using h2
  · have e2 : atI B s = B.length := by have := at_le B s; omega
    unfold ext
    rw [if_neg e, e2]
    have : (B ++ [[]]).getD B.length [] = [] := by simp
    rw [this, rm_nil]; exact hs
theorem fi_step {xs : List (Int × Int)} {k : Nat} {B : List (List (Int × Int))} (h : FI xs k B) (hk : k < xs.length) (h1 : 0 ≤ (xs.getD k (0, 0)).2) (h2 : (xs.getD k (0, 0)).2 ≤ 20) : FI xs (k + 1) (place B (xs.getD k (0, 0))) := by
  have hr := fi_room h h2
  have hat := ext_at (at_le B (xs.getD k (0, 0)).2)
  refine ⟨?_, fun i hi => ?_⟩
  · unfold place ext
    rw [List.length_set]
    have := h.few
    split
    · omega
    · simp; omega
  · unfold place at hi ⊢
    rw [List.length_set] at hi
    by_cases e : i = atI B (xs.getD k (0, 0)).2
    · subst e
      have hx := fi_ext h (atI B (xs.getD k (0, 0)).2) _ hat
      have : ((ext B (atI B (xs.getD k (0, 0)).2)).set (atI B (xs.getD k (0, 0)).2) ((ext B (atI B (xs.getD k (0, 0)).2)).getD (atI B (xs.getD k (0, 0)).2) [] ++ [xs.getD k (0, 0)])).getD (atI B (xs.getD k (0, 0)).2) [] = (ext B (atI B (xs.getD k (0, 0)).2)).getD (atI B (xs.getD k (0, 0)).2) [] ++ [xs.getD k (0, 0)] := by
        rw [List.getD_eq_getElem?_getD, List.getElem?_set_self hat]; rfl
      rw [this, rm_snoc]
      refine ⟨by rw [List.length_append]; simp only [List.length_cons, List.length_nil]; omega, by omega, by omega, fun y hy => ?_⟩
      rcases List.mem_append.1 hy with hy | hy
      · exact take_sub (hx.2.2.2 y hy)
      · simp only [List.mem_cons, List.not_mem_nil, or_false] at hy
        rw [hy]; exact take_last hk
    · have hx := fi_ext h (atI B (xs.getD k (0, 0)).2) i hi
      have : ((ext B (atI B (xs.getD k (0, 0)).2)).set (atI B (xs.getD k (0, 0)).2) ((ext B (atI B (xs.getD k (0, 0)).2)).getD (atI B (xs.getD k (0, 0)).2) [] ++ [xs.getD k (0, 0)])).getD i [] = (ext B (atI B (xs.getD k (0, 0)).2)).getD i [] := by
        rw [List.getD_eq_getElem?_getD, List.getElem?_set_ne (Ne.symm e), ← List.getD_eq_getElem?_getD]
      rw [this]
      exact ⟨by omega, hx.2.1, hx.2.2.1, fun y hy => take_sub (hx.2.2.2 y hy)⟩
theorem fi_all {xs : List (Int × Int)} (h : ∀ x ∈ xs, 1 ≤ x.2 ∧ x.2 ≤ 20) : ∀ k, k ≤ xs.length → FI xs k (fillTo xs k)
  | 0, _ => fi_start xs
  | k + 1, hk => by
    have hm : xs.getD k (0, 0) ∈ xs := by simp [show k < xs.length by omega]
    have := h _ hm
    rw [fillTo_succ (by omega)]
    exact fi_step (fi_all h k (by omega)) (by omega) (by omega) (by omega)
/-- One that comes is in no box. -/
theorem fi_new {xs : List (Int × Int)} {k i : Nat} {B : List (List (Int × Int))} (hd : xs.Nodup) (h : FI xs k B) (hk : k < xs.length) (hi : i < B.length) : ¬ xs.getD k (0, 0) ∈ B.getD i [] := fun hm => by
  have h1 := (h.box i hi).2.2.2 _ hm
  obtain ⟨j, hj, e⟩ := List.mem_iff_getElem.1 h1
  have hj' : j < k := by rw [List.length_take] at hj; omega
  have e2 : xs[j]'(by omega) = xs[k] := by
    have : (xs.take k)[j] = xs[j]'(by omega) := by simp
    rw [← this, e]; simp [hk]
  have := (List.getElem_inj hd).1 e2
  omega
end Go.Proofs.Ytnchkgblpnompaa.It
