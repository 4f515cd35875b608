/-
  Plain facts, of no program: flows and cuts: no flow is more than a cut is wide, as much where no way goes on, and a way that is pushed makes it just so much more (Ford and Fulkerson).
-/
import Derived.Test.YtlbfnlikjnopoaaKg
namespace Go.Proofs.Ytlbfnlikjnopoaa.Fl
open Bx (sumTo sum_add sum_eq sum_le sum_const sum_only if_ge)

abbrev F2 := Nat → Nat → Int
/-- What goes out of a hall less what goes into it. -/
def ex (n : Nat) (f : F2) (i : Nat) : Int := sumTo (fun k => f i k - f k i) n
structure Cap (n : Nat) (w f : F2) : Prop where
  lo : ∀ i k, i < n → k < n → 0 ≤ f i k
  hi : ∀ i k, i < n → k < n → f i k ≤ w i k
structure Flow (n : Nat) (w f : F2) : Prop where
  cap : Cap n w f
  bal : ∀ i, 0 < i → i + 1 < n → ex n f i = 0
def room (w f : F2) (a b : Nat) : Int := w a b - f a b + f b a
theorem sum_swap (g : F2) (n : Nat) : ∀ m, sumTo (fun a => sumTo (fun k => g a k) n) m = sumTo (fun k => sumTo (fun a => g a k) m) n
  | 0 => by
    have : sumTo (fun k => sumTo (fun a => g a k) 0) n = sumTo (fun _ => 0) n := sum_eq n fun _ _ => rfl
    rw [this, sum_const]; simp [sumTo]
  | m + 1 => by
    have e : sumTo (fun k => sumTo (fun a => g a k) (m + 1)) n = sumTo (fun k => sumTo (fun a => g a k) m + g m k) n := sum_eq n fun _ _ => rfl
    rw [e, sum_add, ← sum_swap g n m]
    rfl
theorem sum_neg (g : Bx.Fn) : ∀ n, sumTo (fun i => - g i) n = - sumTo g n
  | 0 => rfl
  | n + 1 => by simp only [sumTo]; rw [sum_neg g n]; omega
/-- What goes over a cut. -/
def over (n : Nat) (S : Nat → Bool) (g : F2) : Int := sumTo (fun a => sumTo (fun b => if S a && !S b then g a b else 0) n) n
theorem within (n : Nat) (S : Nat → Bool) (f : F2) : sumTo (fun a => sumTo (fun b => if S a && S b then f a b - f b a else 0) n) n = 0 := by
  have h := sum_swap (fun a b => if S a && S b then f a b - f b a else 0) n n
  have e : sumTo (fun b => sumTo (fun a => if S a && S b then f a b - f b a else 0) n) n = - sumTo (fun a => sumTo (fun b => if S a && S b then f a b - f b a else 0) n) n := by
    rw [← sum_neg]
    refine sum_eq n fun i _ => ?_
    rw [← sum_neg]
    refine sum_eq n fun j _ => ?_
    rw [Bool.and_comm (S j) (S i)]
    split <;> omega
  omega
theorem value_over {n : Nat} {w f : F2} {S : Nat → Bool} (hf : Flow n w f) (hn : 2 ≤ n) (h0 : S 0 = true) (hl : S (n - 1) = false) : ex n f 0 = over n S fun a b => f a b - f b a := by
  have h1 : sumTo (fun a => if S a then ex n f a else 0) n = ex n f 0 := by
    rw [sum_only (x := 0) n (by omega)]
    · simp [h0]
    · intro i hi hne
      by_cases e : i = n - 1
      · rw [e, hl]; rfl
      · rw [hf.bal i (by omega) (by omega)]; split <;> rfl
  rw [← h1]
  have h2 : sumTo (fun a => if S a then ex n f a else 0) n = sumTo (fun a => sumTo (fun b => if S a && S b then f a b - f b a else 0) n + sumTo (fun b => if S a && !S b then f a b - f b a else 0) n) n := by
    refine sum_eq n fun a _ => ?_
    rw [← sum_add]
    by_cases ha : S a = true
    · rw [if_pos ha]
      refine sum_eq n fun b _ => ?_
      cases hb : S b <;> simp [ha]
    · have ha' : S a = false := by simpa using ha
      rw [if_neg ha]
      have : sumTo (fun i => (if S a && S i then f a i - f i a else 0) + if S a && !S i then f a i - f i a else 0) n = sumTo (fun _ => 0) n := sum_eq n fun b _ => by simp [ha']
      rw [this, sum_const]; omega
  rw [h2, sum_add, within]
  unfold over
  rw [Int.zero_add]
/-- No flow is more than a cut is wide. -/
theorem weak {n : Nat} {w f : F2} {S : Nat → Bool} (hf : Flow n w f) (hn : 2 ≤ n) (h0 : S 0 = true) (hl : S (n - 1) = false) : ex n f 0 ≤ over n S w := by
  rw [value_over hf hn h0 hl]
  refine sum_le n fun a ha => sum_le n fun b hb => ?_
  have h1 := hf.cap.hi a b ha hb
  have h2 := hf.cap.lo b a hb ha
  show (if S a && !S b then f a b - f b a else 0) ≤ (if S a && !S b then w a b else 0)
  split <;> omega
/-- As much, where there is no room over the cut. -/
theorem strong {n : Nat} {w f : F2} {S : Nat → Bool} (hf : Flow n w f) (hn : 2 ≤ n) (h0 : S 0 = true) (hl : S (n - 1) = false) (hr : ∀ a b, a < n → b < n → S a = true → S b = false → room w f a b ≤ 0) : ex n f 0 = over n S w := by
  rw [value_over hf hn h0 hl]
  refine sum_eq n fun a ha => sum_eq n fun b hb => ?_
  have h1 := hf.cap.hi a b ha hb
  have h2 := hf.cap.lo b a hb ha
  by_cases e : (S a && !S b) = true
  · rw [if_pos e, if_pos e]
    simp only [Bool.and_eq_true, Bool.not_eq_true'] at e
    have := hr a b ha hb e.1 e.2
    unfold room at this
    show f a b - f b a = w a b
    omega
  · rw [if_neg e, if_neg e]
/-- So much more from a to b: first less from b to a. -/
def st (f : F2) (y : Int) (a b : Nat) : F2 := fun i k => if i = b ∧ k = a then f b a - min y (f b a) else if i = a ∧ k = b then f a b + (y - min y (f b a)) else f i k
theorem st_back (f : F2) (y : Int) (a b : Nat) : st f y a b b a = f b a - min y (f b a) := by simp [st]
theorem st_on (f : F2) (y : Int) {a b : Nat} (h : a ≠ b) : st f y a b a b = f a b + (y - min y (f b a)) := by
  have : ¬ (a = b ∧ b = a) := fun e => h e.1
  simp [st, this]
theorem st_else (f : F2) (y : Int) {a b i k : Nat} (h1 : ¬ (i = b ∧ k = a)) (h2 : ¬ (i = a ∧ k = b)) : st f y a b i k = f i k := by simp [st, h1, h2]
theorem st_net (f : F2) (y : Int) {a b : Nat} (h : a ≠ b) (i k : Nat) : st f y a b i k - st f y a b k i = f i k - f k i + (if i = a ∧ k = b then y else 0) - (if i = b ∧ k = a then y else 0) := by
  by_cases h1 : i = a ∧ k = b
  · obtain ⟨rfl, rfl⟩ := h1
    have : ¬ (i = k ∧ k = i) := fun e => h e.1
    rw [st_on f y h, st_back, if_pos ⟨rfl, rfl⟩, if_neg this]; omega
  · by_cases h2 : i = b ∧ k = a
    · obtain ⟨rfl, rfl⟩ := h2
      have : ¬ (i = k ∧ k = i) := fun e => h e.1.symm
      rw [st_back, st_on f y h, if_neg this, if_pos ⟨rfl, rfl⟩]; omega
    · rw [st_else f y h2 h1, st_else f y (fun e => h1 ⟨e.2, e.1⟩) (fun e => h2 ⟨e.2, e.1⟩), if_neg h1, if_neg h2]; omega
theorem st_ex {n : Nat} (f : F2) (y : Int) {a b : Nat} (h : a ≠ b) (ha : a < n) (hb : b < n) (i : Nat) : ex n (st f y a b) i = ex n f i + (if i = a then y else 0) - (if i = b then y else 0) := by
  have e : ex n (st f y a b) i = sumTo (fun k => (f i k - f k i + (if i = a ∧ k = b then y else 0)) + -(if i = b ∧ k = a then y else 0)) n := sum_eq n fun k _ => by rw [st_net f y h]; omega
  rw [e, sum_add, sum_add, sum_neg]
  have e1 : sumTo (fun k => if i = a ∧ k = b then y else 0) n = if i = a then y else 0 := by
    rw [sum_only (x := b) n hb]
    · simp
    · intro k _ hne; simp [hne]
  have e2 : sumTo (fun k => if i = b ∧ k = a then y else 0) n = if i = b then y else 0 := by
    rw [sum_only (x := a) n ha]
    · simp
    · intro k _ hne; simp [hne]
  rw [e1, e2]
  unfold ex
  omega
theorem st_cap {n : Nat} {w f : F2} {y : Int} {a b : Nat} (hc : Cap n w f) (h : a ≠ b) (ha : a < n) (hb : b < n) (hy : 0 ≤ y) (hr : y ≤ room w f a b) : Cap n w (st f y a b) := by
  have h1 := hc.lo b a hb ha
  have h2 := hc.hi b a hb ha
  have h3 := hc.lo a b ha hb
  have h4 := hc.hi a b ha hb
  unfold room at hr
  refine ⟨fun i k hi hk => ?_, fun i k hi hk => ?_⟩
  · by_cases e1 : i = b ∧ k = a
    · obtain ⟨rfl, rfl⟩ := e1; rw [st_back]; omega
    · by_cases e2 : i = a ∧ k = b
      · obtain ⟨rfl, rfl⟩ := e2; rw [st_on f y h]; omega
      · rw [st_else f y e1 e2]; exact hc.lo i k hi hk
  · by_cases e1 : i = b ∧ k = a
    · obtain ⟨rfl, rfl⟩ := e1; rw [st_back]; omega
    · by_cases e2 : i = a ∧ k = b
      · obtain ⟨rfl, rfl⟩ := e2; rw [st_on f y h]; omega
      · rw [st_else f y e1 e2]; exact hc.hi i k hi hk
/-- Along a way. -/
def push (y : Int) : F2 → List Nat → F2
  | f, a :: b :: r => push y (st f y a b) (b :: r)
  | f, _ => f
def Rooms (w f : F2) (y : Int) : List Nat → Prop
  | a :: b :: r => y ≤ room w f a b ∧ Rooms w f y (b :: r)
  | _ => True
theorem Rooms.off {w f : F2} {y z : Int} {a b : Nat} : ∀ {l : List Nat}, a ∉ l → Rooms w f y l → Rooms w (st f z a b) y l
  | [], _, _ => trivial
  | [_], _, _ => trivial
  | c :: d :: r, hn, h => by
    have hc : c ≠ a := fun e => hn (by simp [e])
    have hd : d ≠ a := fun e => hn (by simp [e])
    refine ⟨?_, Rooms.off (l := d :: r) (fun hm => hn (List.mem_cons_of_mem _ hm)) h.2⟩
    have := h.1
    unfold room at this ⊢
    rw [st_else f z (fun e => hd e.2) (fun e => hc e.1), st_else f z (fun e => hc e.2) (fun e => hd e.1)]
    exact this
/-- The last one of a way. -/
def lastOf : Nat → List Nat → Nat
  | a, [] => a
  | _, b :: r => lastOf b r
theorem push_all {n : Nat} {w : F2} {y : Int} (hy : 0 ≤ y) : ∀ (r : List Nat) {f : F2} {a : Nat}, Cap n w f → (a :: r).Nodup → (∀ x, x ∈ a :: r → x < n) → Rooms w f y (a :: r) → Cap n w (push y f (a :: r)) ∧ ∀ i, ex n (push y f (a :: r)) i = ex n f i + (if i = a then y else 0) - (if i = lastOf a r then y else 0)
  | [], f, a, hc, _, _, _ => ⟨hc, fun i => by simp only [push, lastOf]; omega⟩
  | b :: r, f, a, hc, hnd, hb, hr => by
    have hab : a ≠ b := fun e => (List.nodup_cons.1 hnd).1 (by simp [e])
    have han := hb a List.mem_cons_self
    have hbn := hb b (by simp)
    have h1 := st_cap hc hab han hbn hy hr.1
    have h2 := push_all hy r h1 (List.nodup_cons.1 hnd).2 (fun x hx => hb x (List.mem_cons_of_mem _ hx)) (Rooms.off (List.nodup_cons.1 hnd).1 hr.2)
    refine ⟨h2.1, fun i => ?_⟩
    have h3 := h2.2 i
    have h4 := st_ex (n := n) f y hab han hbn i
    show ex n (push y (st f y a b) (b :: r)) i = _
    rw [h3, h4]
    show _ = ex n f i + (if i = a then y else 0) - (if i = lastOf b r then y else 0)
    by_cases e1 : i = b <;> by_cases e2 : i = a <;> simp only [e1, e2, if_true, if_false] <;> omega
/-- A way from 0 to the last one that is pushed makes a flow just so much more. -/
theorem push_flow {n : Nat} {w f : F2} {y : Int} {r : List Nat} (hf : Flow n w f) (hn : 2 ≤ n) (hy : 0 ≤ y) (hnd : (0 :: r).Nodup) (hb : ∀ x, x ∈ 0 :: r → x < n) (hr : Rooms w f y (0 :: r)) (hl : lastOf 0 r = n - 1) : Flow n w (push y f (0 :: r)) ∧ ex n (push y f (0 :: r)) 0 = ex n f 0 + y := by
  obtain ⟨h1, h2⟩ := push_all hy r hf.cap hnd hb hr
  refine ⟨⟨h1, fun i h0 hi => ?_⟩, ?_⟩
  · rw [h2 i, hl, if_neg (by omega), if_neg (by omega), hf.bal i h0 hi]; omega
  · rw [h2 0, hl, if_pos rfl, if_neg (by omega)]; omega
end Go.Proofs.Ytlbfnlikjnopoaa.Fl
