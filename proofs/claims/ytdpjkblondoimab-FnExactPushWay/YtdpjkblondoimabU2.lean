/-
  In one: Ha, Hb, Hc, Fr13, Kg, Ki, As13, Fa13, Fb13, Fd13, Qw0, Lm13, Fe13, Ff13, Fv13, Shelf.
-/
import Derived.Test.YtdpjkblondoimabU1
import Derived.BigQuiet
import Derived.Deep.AppendLies
import Derived.Deep.RegionLaw
import Derived.BigRegion
import Derived.Test.YtdpjkblondoimabChecked
import Derived.Shelf.Spec.SlicesInsertGrow
import Derived.Shelf.Bits.Mul64
import Derived.Shelf.Slices.Reverse
import Derived.Shelf.Slices.Clone
import Derived.Shelf.Slices.Cells
import Derived.Shelf.SlicesE.Clone
namespace Go.Proofs.Ytdpjkblondoimab.Od

def waysB (us ws : List Int) : Bool := decide (us.length = ws.length) && (decide (us.length ≤ 10) && (Pf.allB us 0 1000 && Pf.allB ws 0 1000))
theorem waysB_yes {us ws : List Int} (h : waysB us ws = true) : us.length = ws.length ∧ us.length ≤ 10 ∧ Pf.allB us 0 1000 = true ∧ Pf.allB ws 0 1000 = true := by
  simpa [waysB] using h
theorem waysB_ne {us ws : List Int} (h : us.length ≠ ws.length) : waysB us ws = false := by simp [waysB, h]
theorem waysB_many {us ws : List Int} (h : 10 < us.length) : waysB us ws = false := by simp [waysB, show ¬ us.length ≤ 10 by omega]

/-- The number at i is one of 0 up to n - 1, and none ahead of it is the same. -/
def okAt (xs : List Int) (n i : Nat) : Bool := Pf.inB (xs.getD i 0) 0 ((n : Int) - 1) && !(xs.take i).contains (xs.getD i 0)
def ordB (xs : List Int) (n : Nat) : Bool := decide (xs.length = n) && (List.range n).all (okAt xs n)
theorem ordB_len {xs : List Int} {n : Nat} (h : ordB xs n = true) : xs.length = n := by
  simp only [ordB, Bool.and_eq_true, decide_eq_true_eq] at h; exact h.1
theorem ordB_at {xs : List Int} {n i : Nat} (h : ordB xs n = true) (hi : i < n) : okAt xs n i = true := by
  simp only [ordB, Bool.and_eq_true, List.all_eq_true, List.mem_range] at h; exact h.2 i hi
theorem ordB_of {xs : List Int} {n : Nat} (h1 : xs.length = n) (h : ∀ i, i < n → okAt xs n i = true) : ordB xs n = true := by
  simp only [ordB, Bool.and_eq_true, decide_eq_true_eq, List.all_eq_true, List.mem_range]; exact ⟨h1, h⟩
theorem ordB_ne {xs : List Int} {n : Nat} (h : xs.length ≠ n) : ordB xs n = false := by simp [ordB, h]
theorem ordB_not {xs : List Int} {n i : Nat} (hi : i < n) (h : okAt xs n i = false) : ordB xs n = false := by
  cases e : ordB xs n
  · rfl
  · rw [ordB_at e hi] at h; cases h
theorem ordB_in {xs : List Int} {n i : Nat} (h : ordB xs n = true) (hi : i < n) : 0 ≤ xs.getD i 0 ∧ xs.getD i 0 < n := by
  have := ordB_at h hi
  simp only [okAt, Bool.and_eq_true] at this
  have := Pf.inB_yes this.1
  omega
/-- The number at i as a natural one. -/
def nth (xs : List Int) (i : Nat) : Nat := (xs.getD i 0).toNat
theorem nth_cast {xs : List Int} {n i : Nat} (h : ordB xs n = true) (hi : i < n) : xs.getD i 0 = (nth xs i : Int) := by
  have := ordB_in h hi; unfold nth; omega
theorem nth_lt {xs : List Int} {n i : Nat} (h : ordB xs n = true) (hi : i < n) : nth xs i < n := by
  have := ordB_in h hi; unfold nth; omega

/-- Whether j is among the first k. -/
def seen (xs : List Int) (k n : Nat) : List Bool := (List.range n).map fun (j : Nat) => (xs.take k).contains (j : Int)
theorem seen_len (xs : List Int) (k n : Nat) : (seen xs k n).length = n := by simp [seen]
theorem seen_zero (xs : List Int) (n : Nat) : seen xs 0 n = List.replicate n false := by
  apply List.ext_getElem
  · simp [seen]
  · intro i h1 h2; simp [seen]
theorem seen_get (xs : List Int) (k n j : Nat) (h : j < n) : (seen xs k n).getD j false = (xs.take k).contains (j : Int) := by simp [seen, h]
theorem seen_step (xs : List Int) (k n j : Nat) (hk : k < xs.length) (h : xs.getD k 0 = (j : Int)) : (seen xs k n).set j true = seen xs (k + 1) n := by
  apply List.ext_getElem
  · simp [seen]
  · intro i h1 h2
    have hi : i < n := by simpa [seen] using h2
    have e : xs[k] = (j : Int) := by rw [Pf.getD_lt xs 0 hk] at h; exact h
    simp only [seen, List.getElem_map, List.getElem_range, List.getElem_set]
    rw [List.take_add_one]
    by_cases hij : j = i
    · subst hij; simp [hk, e]
    · have : ¬ (i : Int) = (j : Int) := by omega
      simp [hij, hk, e, this]

/-- The sum of use times way over the first k. -/
def pairTo (us ws : List Int) : Nat → Int
  | 0 => 0
  | k + 1 => pairTo us ws k + us.getD k 0 * ws.getD k 0
def pair (us ws : List Int) : Int := pairTo us ws us.length
/-- What an order costs over the first k places. -/
def costTo (us ws os : List Int) : Nat → Int
  | 0 => 0
  | k + 1 => costTo us ws os k + us.getD (nth os k) 0 * ws.getD k 0
def cost (us ws os : List Int) : Int := costTo us ws os os.length
theorem term_bd {x y : Int} (hx : 0 ≤ x ∧ x ≤ 1000) (hy : 0 ≤ y ∧ y ≤ 1000) : 0 ≤ x * y ∧ x * y ≤ 1000000 := by
  refine ⟨Int.mul_nonneg hx.1 hy.1, ?_⟩
  exact Int.le_trans (Int.mul_le_mul_of_nonneg_right hx.2 hy.1) (Int.le_trans (Int.mul_le_mul_of_nonneg_left hy.2 (show (0 : Int) ≤ 1000 by omega)) (by omega))
theorem pairTo_bd {us ws : List Int} (hu : Pf.allB us 0 1000 = true) (hw : Pf.allB ws 0 1000 = true) : ∀ k, k ≤ us.length → k ≤ ws.length → 0 ≤ pairTo us ws k ∧ pairTo us ws k ≤ 1000000 * (k : Int)
  | 0, _, _ => by simp [pairTo]
  | k + 1, h1, h2 => by
    have := pairTo_bd hu hw k (by omega) (by omega)
    have := term_bd (Pf.inB_yes (Pf.allB_get hu (show k < us.length by omega))) (Pf.inB_yes (Pf.allB_get hw (show k < ws.length by omega)))
    simp only [pairTo]; omega
theorem costTo_bd {us ws os : List Int} (hu : Pf.allB us 0 1000 = true) (hw : Pf.allB ws 0 1000 = true) (hl : us.length = ws.length) (ho : ordB os us.length = true) : ∀ k, k ≤ us.length → 0 ≤ costTo us ws os k ∧ costTo us ws os k ≤ 1000000 * (k : Int)
  | 0, _ => by simp [costTo]
  | k + 1, h1 => by
    have := costTo_bd hu hw hl ho k (by omega)
    have := term_bd (Pf.inB_yes (Pf.allB_get hu (nth_lt ho (show k < us.length by omega)))) (Pf.inB_yes (Pf.allB_get hw (show k < ws.length by omega)))
    simp only [costTo]; omega
/-- The uses as they stand in an order. -/
def placed (us os : List Int) : List Int := os.map fun o => us.getD o.toNat 0
theorem placed_len (us os : List Int) : (placed us os).length = os.length := by simp [placed]
theorem placed_get (us os : List Int) {k : Nat} (h : k < os.length) : (placed us os).getD k 0 = us.getD (nth os k) 0 := by simp [placed, nth, h]
theorem placed_pair (us ws os : List Int) : ∀ k, k ≤ os.length → pairTo (placed us os) ws k = costTo us ws os k
  | 0, _ => rfl
  | k + 1, h => by simp only [pairTo, costTo]; rw [placed_pair us ws os k (by omega), placed_get us os (by omega)]
theorem placed_cost (us ws os : List Int) : pair (placed us os) ws = cost us ws os := by
  unfold pair cost; rw [placed_len]; exact placed_pair us ws os _ (Nat.le_refl _)
theorem placed_all {us os : List Int} (hu : Pf.allB us 0 1000 = true) (ho : ordB os us.length = true) : Pf.allB (placed us os) 0 1000 = true := by
  refine Pf.allB_of fun i hi => ?_
  rw [placed_len] at hi
  have hl := ordB_len ho
  rw [placed_get us os hi]
  exact Pf.allB_get hu (nth_lt ho (by omega))
theorem placed_step (us os ys : List Int) (k : Nat) (hy : ys.length = os.length) (hk : k < os.length) (h : ys.take k = (placed us os).take k) : (ys.set k (us.getD (nth os k) 0)).take (k + 1) = (placed us os).take (k + 1) := by
  rw [List.take_add_one, List.take_add_one, List.take_set_of_le (Nat.le_refl _), h]
  congr 1
  simp [hk, hy, placed, nth]

/-- The goods of two places changed. -/
def swap (os : List Int) (a b : Nat) : List Int := (os.set a (os.getD b 0)).set b (os.getD a 0)
theorem swap_len (os : List Int) (a b : Nat) : (swap os a b).length = os.length := by simp [swap]
theorem swap_get (os : List Int) {a b i : Nat} (ha : a < os.length) (hb : b < os.length) (hi : i < os.length) : (swap os a b).getD i 0 = if i = b then os.getD a 0 else if i = a then os.getD b 0 else os.getD i 0 := by
  simp only [swap, List.getD_eq_getElem?_getD, List.getElem?_set, List.length_set]
  by_cases h1 : b = i
  · subst h1; simp [hb]
  · rw [if_neg h1, if_neg (show ¬ i = b by omega)]
    by_cases h2 : a = i
    · subst h2; simp [ha]
    · rw [if_neg h2, if_neg (show ¬ i = a by omega)]
theorem okAt_iff {xs : List Int} {n i : Nat} (hl : xs.length = n) (hi : i < n) : okAt xs n i = true ↔ (0 ≤ xs.getD i 0 ∧ xs.getD i 0 < n) ∧ ∀ j, j < i → xs.getD j 0 ≠ xs.getD i 0 := by
  simp only [okAt, Bool.and_eq_true, Bool.not_eq_true', List.contains_eq_mem, decide_eq_false_iff_not]
  constructor
  · rintro ⟨h1, h2⟩
    have := Pf.inB_yes h1
    refine ⟨by omega, fun j hj e => h2 ?_⟩
    rw [← e]
    have hj' : j < xs.length := by omega
    rw [Pf.getD_lt xs 0 hj']
    exact List.mem_take_iff_getElem.2 ⟨j, by omega, rfl⟩
  · rintro ⟨h1, h2⟩
    refine ⟨Pf.inB_of h1.1 (by omega), fun hm => ?_⟩
    obtain ⟨j, hj, e⟩ := List.mem_take_iff_getElem.1 hm
    have hj' : j < xs.length := by omega
    exact h2 j (by omega) (by rw [Pf.getD_lt xs 0 hj']; exact e)
/-- An order: its numbers are 0 up to n - 1, no two alike. -/
theorem ordB_iff {xs : List Int} {n : Nat} : ordB xs n = true ↔ xs.length = n ∧ (∀ i, i < n → 0 ≤ xs.getD i 0 ∧ xs.getD i 0 < n) ∧ ∀ i j, i < n → j < n → xs.getD i 0 = xs.getD j 0 → i = j := by
  constructor
  · intro h
    have hl := ordB_len h
    refine ⟨hl, fun i hi => ordB_in h hi, fun i j hi hj e => ?_⟩
    rcases Nat.lt_trichotomy i j with c | c | c
    · exact absurd e (((okAt_iff hl hj).1 (ordB_at h hj)).2 i c)
    · exact c
    · exact absurd e.symm (((okAt_iff hl hi).1 (ordB_at h hi)).2 j c)
  · rintro ⟨hl, h1, h2⟩
    refine ordB_of hl fun i hi => (okAt_iff hl hi).2 ⟨h1 i hi, fun j hj e => ?_⟩
    have := h2 j i (by omega) hi e
    omega
theorem swap_ord {os : List Int} {n a b : Nat} (h : ordB os n = true) (ha : a < n) (hb : b < n) : ordB (swap os a b) n = true := by
  obtain ⟨hl, h1, h2⟩ := ordB_iff.1 h
  subst hl
  refine ordB_iff.2 ⟨swap_len _ _ _, fun i hi => ?_, fun i j hi hj => ?_⟩
  · rw [swap_get os ha hb hi]; split
    · exact h1 a ha
    · split
      · exact h1 b hb
      · exact h1 i hi
  · rw [swap_get os ha hb hi, swap_get os ha hb hj]
    intro e
    by_cases i1 : i = b
    · rw [if_pos i1] at e
      by_cases j1 : j = b
      · omega
      · rw [if_neg j1] at e
        by_cases j2 : j = a
        · rw [if_pos j2] at e
          have := h2 a b ha hb e; omega
        · rw [if_neg j2] at e
          have := h2 a j ha hj e; omega
    · rw [if_neg i1] at e
      by_cases i2 : i = a
      · rw [if_pos i2] at e
        by_cases j1 : j = b
        · rw [if_pos j1] at e; have := h2 b a hb ha e; omega
        · rw [if_neg j1] at e
          by_cases j2 : j = a
          · omega
          · rw [if_neg j2] at e
            have := h2 b j hb hj e; omega
      · rw [if_neg i2] at e
        by_cases j1 : j = b
        · rw [if_pos j1] at e; have := h2 i a hi ha e; omega
        · rw [if_neg j1] at e
          by_cases j2 : j = a
          · rw [if_pos j2] at e; have := h2 i b hi hb e; omega
          · rw [if_neg j2] at e; exact h2 i j hi hj e

theorem count_set {l : List Bool} {k : Nat} (h : l.getD k true = false) : l.count false = (l.set k true).count false + 1 := by
  have hk : k < l.length := by
    by_cases hk : k < l.length
    · exact hk
    · simp [hk] at h
  have e : l[k] = false := by simpa [hk] using h
  have h1 := List.take_append_drop k l
  have h2 : l.drop k = l[k] :: l.drop (k + 1) := List.drop_eq_getElem_cons hk
  have h3 : l.set k true = l.take k ++ true :: l.drop (k + 1) := by rw [List.set_eq_take_append_cons_drop, if_pos hk]
  rw [h3]
  conv => lhs; rw [← h1, h2, e]
  simp [List.count_append]; omega
/-- From k on along the order, until one is met that was gone to. -/
def gone (xs : List Int) (l : List Bool) (k : Nat) : List Bool :=
  if _h : l.getD k true = false then gone xs (l.set k true) (nth xs k) else l
termination_by l.count false
decreasing_by
  have := count_set _h
  omega
theorem gone_stop {xs : List Int} {l : List Bool} {k : Nat} (h : l.getD k true = true) : gone xs l k = l := by
  rw [gone, dif_neg (by rw [h]; decide)]
theorem gone_step {xs : List Int} {l : List Bool} {k : Nat} (h : l.getD k true = false) : gone xs l k = gone xs (l.set k true) (nth xs k) := by
  rw [gone, dif_pos h]
/-- What was gone to, and how many rings there are, behind the first i. -/
def ringsTo (xs : List Int) (n : Nat) : Nat → List Bool × Nat
  | 0 => (List.replicate n false, 0)
  | i + 1 => let s := ringsTo xs n i; (gone xs s.1 i, if s.1.getD i true = false then s.2 + 1 else s.2)
def rings (xs : List Int) : Nat := (ringsTo xs xs.length xs.length).2
theorem gone_len (xs : List Int) : ∀ (m : Nat) (l : List Bool) (k : Nat), l.count false = m → (gone xs l k).length = l.length
  | m, l, k, hm => by
    cases h : l.getD k true
    · have := count_set h
      rw [gone_step h]
      cases m with
      | zero => omega
      | succ m => rw [gone_len xs m _ _ (by omega)]; simp
    · rw [gone_stop h]
theorem ringsTo_len (xs : List Int) (n : Nat) : ∀ i, (ringsTo xs n i).1.length = n
  | 0 => by simp [ringsTo]
  | i + 1 => by simp only [ringsTo]; rw [gone_len xs _ _ _ rfl, ringsTo_len xs n i]
theorem ringsTo_le (xs : List Int) (n : Nat) : ∀ i, (ringsTo xs n i).2 ≤ i
  | 0 => by simp [ringsTo]
  | i + 1 => by have := ringsTo_le xs n i; simp only [ringsTo]; split <;> omega
end Go.Proofs.Ytdpjkblondoimab.Od
namespace Go.Proofs.Ytdpjkblondoimab
open Go.RowKit

def bls (bs : List Bool) : List Value := bs.map fun b => .bool b
theorem bls_len (bs : List Bool) : (bls bs).length = bs.length := by simp [bls]
theorem bls_get (bs : List Bool) (j : Nat) (h : j < bs.length) (d : Bool) : (bls bs)[j]? = some (.bool (bs.getD j d)) := by simp [bls, h]
theorem bls_set (bs : List Bool) (j : Nat) (x : Bool) : (bls bs).set j (.bool x) = bls (bs.set j x) := by simp [bls, List.map_set]
theorem madeB_own (w : World) (n : Nat) (hn : n ≤ 1048576) : (w.alloc (.cells (madeCells #[.bool false] n) 4)).ownsRow w.heap.size 4 1 (.slice (some ⟨w.heap.size, 0, none⟩) n n) n (bls (List.replicate n false)) := by
  have h := World.ownsRow_lit (base := w.heap.size) (e := 4) (size := 1) w (madeCells #[.bool false] n) n (Nat.le_refl _) (by unfold maxLen; omega) (by simp [madeCells])
  rw [toList_madeCells_one] at h
  simpa [bls] using h

end Go.Proofs.Ytdpjkblondoimab
namespace Go.Proofs.Ytdpjkblondoimab
open Go.RowKit


theorem has_step {xs : List Int} {k : Nat} {x : Int} (hk : k < xs.length) (h : (xs.take k).contains x = false) (hne : (xs.getD k 0 == x) = false) : (xs.take (k + 1)).contains x = false := by
  rw [List.take_add_one]
  have e : xs[k]? = some (xs.getD k 0) := by simp [hk]
  simp only [e, Option.toList_some, List.contains_eq_mem, List.mem_append, List.mem_singleton, decide_eq_false_iff_not] at h ⊢
  simp only [beq_eq_false_iff_ne] at hne
  exact fun c => c.elim h (fun c => hne c.symm)
theorem has_yes {xs : List Int} {k : Nat} {x : Int} (hk : k < xs.length) (h : (xs.getD k 0 == x) = true) : xs.contains x = true := by
  have : xs.getD k 0 = x := by simpa using h
  rw [← this, Pf.getD_lt xs 0 hk]
  simp
set_option maxHeartbeats 1000000 in
theorem has7_any {a : Option Addr} {n c : Nat} {xs : List Int} {x : Int} {w : World} (hx : xs.length = n) (hn : n ≤ 1000) (ha : ARow w a xs) :
    Calls Try.prog 25 #[.slice a n c, .int .i64 x] w fun e w' => e = .returned (.bool (xs.contains x)) ∧ w' = w := by
  have HA := hide ha
  have HX := hide hx
  clear ha hx
  go_enter Try.func25, Try.ntmps25
  go_wp2_with fail
  go_loop [4, 6, 9] (fun s4 _ s => ∃ (k : Nat), s4 = .bool false ∧ s = .int .i64 k ∧ k ≤ n ∧ Hid ((xs.take k).contains x = false)) (fun _ _ s => n - (intOf s).toNat)
  case atStart => exact ⟨0, rfl, rfl, Nat.zero_le _, hide (by simp)⟩
  case round =>
    obtain ⟨k, rfl, rfl, hk, HK⟩ := hrel
    by_cases hlt : k < n
    · obtain ⟨b, off, rfl, r1⟩ := HA.out.at (i := k) (by rw [HX.out]; exact hlt)
      have i0 : (0 : Int) ≤ (k : Int) := by omega
      have i1 : (k : Int) < (n : Int) := by omega
      have HS := hide (has_step (x := x) (by rw [HX.out]; exact hlt) HK.out)
      have HY := hide (has_yes (x := x) (k := k) (xs := xs) (by rw [HX.out]; exact hlt))
      generalize xs.getD k 0 = y at *
      cases hb : (y == x)
      · have H1 := hide (HS.out hb)
        go_wp2_with fail
        go_round
        case rel => exact ⟨k + 1, rfl, by go_num, by omega, H1⟩
        case measure => simp only [intOf]; omega
      · have H1 := hide (HY.out hb)
        go_wp2_with fail
        go_ret
        exact ⟨ret_bool (H1.out.symm.trans (List.contains_eq_mem ..)), rfl⟩
    · have hke : k = n := by omega
      subst hke
      have H1 := hide (show xs.contains x = false by have := HK.out; rwa [← HX.out, List.take_length] at this)
      go_wp2_with fail
      go_ret
      exact ⟨ret_bool (H1.out.symm.trans (List.contains_eq_mem ..)), rfl⟩
theorem has7_eq {a : Option Addr} {n c : Nat} {xs : List Int} {x : Int} {w : World} {r : Bool} (hx : Hid (xs.length = n)) (hn : n ≤ 1000) (ha : Hid (ARow w a xs)) (h : Hid (xs.contains x = r)) :
    Calls Try.prog 25 #[.slice a n c, .int .i64 x] w fun e w' => e = .returned (.bool r) ∧ w' = w := h.out ▸ has7_any hx.out hn ha.out
theorem ARow.take {w : World} {a : Option Addr} {xs : List Int} (h : ARow w a xs) (k : Nat) : ARow w a (xs.take k) := by
  rcases h with h | ⟨b, off, ha, hb, hc⟩
  · exact Or.inl (by rw [h]; simp)
  · refine Or.inr ⟨b, off, ha, hb, fun i hi => ?_⟩
    rw [List.length_take] at hi
    rw [hc i (by omega)]
    simp [show i < k by omega]
end Go.Proofs.Ytdpjkblondoimab
namespace Go.Proofs.Ytdpjkblondoimab
open Go.RowKit

theorem rise_no {x t q : Int} (ht : 0 ≤ t) (h : Pf.inB x t (q - 1) = false) : x < 0 ∨ q ≤ x ∨ (0 < t ∧ t - 1 ≥ x) := by
  have := Pf.inB_no h
  omega
set_option maxHeartbeats 1000000 in
theorem ix_any {a : Option Addr} {n c : Nat} {xs : List Int} {x : Int} {w : World} (hx : xs.length = n) (hn : n ≤ 1048576) (ha : ARow w a xs) :
    Calls Try.prog 56 #[.slice a n c, .int .i64 x] w fun e w' => e = .returned (.int .i64 (Ma.idx xs x)) ∧ w' = w := by
  have HA := hide ha
  have HX := hide hx
  clear ha hx
  go_enter Try.func56, Try.ntmps56
  go_wp2_with fail
  go_loop [4, 5, 8] (fun s4 _ s => ∃ (k : Nat), s4 = .int .i64 0 ∧ s = .int .i64 k ∧ k ≤ n ∧ Hid (∀ j, j < k → (xs.getD j 0 == x) = false)) (fun _ _ s => n - (intOf s).toNat)
  case atStart => exact ⟨0, rfl, rfl, Nat.zero_le _, hide fun i hi => absurd hi (Nat.not_lt_zero _)⟩
  case round =>
    obtain ⟨k, rfl, rfl, hk, HK⟩ := hrel
    by_cases hlt : k < n
    · obtain ⟨b, off, rfl, r1⟩ := HA.out.at (i := k) (by rw [HX.out]; exact hlt)
      have i0 : (0 : Int) ≤ (k : Int) := by omega
      have i1 : (k : Int) < (n : Int) := by omega
      have HY := hide fun (h : (xs.getD k 0 == x) = true) => Ma.idx_at (show k < xs.length by rw [HX.out]; exact hlt) h HK.out
      generalize hy : xs.getD k 0 = y at *
      cases hb : (y == x)
      · have hb' : (x == y) = false := by rw [beq_eq_false_iff_ne] at hb ⊢; exact fun e => hb e.symm
        have H1 : Hid (∀ j, j < k + 1 → (xs.getD j 0 == x) = false) := hide fun j hj => by
          by_cases e : j = k
          · subst e; rw [hy]; exact hb
          · exact HK.out j (by omega)
        clear hy
        go_wp2_with fail
        go_round
        case rel => exact ⟨k + 1, rfl, by go_num, by omega, H1⟩
        case measure => simp only [intOf]; omega
      · have hb' : (x == y) = true := by rw [beq_iff_eq] at hb ⊢; exact hb.symm
        have H1 := hide (HY.out hb)
        clear hy
        go_wp2_with fail
        go_ret
        exact ⟨ret_int H1.out.symm, rfl⟩
    · have hke : k = n := by omega
      subst hke
      have H1 := hide (Ma.idx_none (xs := xs) (x := x) (by rw [HX.out]; exact HK.out))
      go_wp2_with fail
      go_ret
      exact ⟨ret_int H1.out.symm, rfl⟩
set_option maxHeartbeats 1000000 in
theorem con_any {a : Option Addr} {n c : Nat} {xs : List Int} {x : Int} {w : World} (hx : xs.length = n) (hn : n ≤ 1048576) (ha : ARow w a xs) :
    Calls Try.prog 43 #[.slice a n c, .int .i64 x] w fun e w' => e = .returned (.bool (xs.contains x)) ∧ w' = w := by
  have HC := hide (ix_any (c := c) (x := x) hx hn ha)
  have HE := hide (Ma.idx_has xs x)
  generalize Ma.idx xs x = q at *
  clear ha hx
  go_enter Try.func43, Try.ntmps43
  go_wp2_with fail
  refine HC.out.mono ?_
  rintro e w1 ⟨rfl, rfl⟩
  go_wp2_with fail
  go_ret
  exact ⟨ret_bool HE.out, rfl⟩
theorem con_eq {a : Option Addr} {n c : Nat} {xs : List Int} {x : Int} {w : World} {r : Bool} (hx : Hid (xs.length = n)) (hn : n ≤ 1048576) (ha : Hid (ARow w a xs)) (h : Hid (xs.contains x = r)) :
    Calls Try.prog 43 #[.slice a n c, .int .i64 x] w fun e w' => e = .returned (.bool r) ∧ w' = w := h.out ▸ con_any hx.out hn ha.out
end Go.Proofs.Ytdpjkblondoimab
namespace Go.Proofs.Ytdpjkblondoimab.Bx

abbrev Fn := Nat → Int
theorem if_ge {c : Prop} [Decidable c] {x : Int} (h : 0 ≤ x) : 0 ≤ if c then x else 0 := by
  split
  · exact h
  · exact Int.le_refl _
def sumTo (f : Fn) : Nat → Int
  | 0 => 0
  | k + 1 => sumTo f k + f k
theorem sum_add (f g : Fn) : ∀ n, sumTo (fun i => f i + g i) n = sumTo f n + sumTo g n
  | 0 => rfl
  | n + 1 => by simp only [sumTo]; rw [sum_add f g n]; omega
theorem sum_le {f g : Fn} : ∀ n, (∀ i, i < n → f i ≤ g i) → sumTo f n ≤ sumTo g n
  | 0, _ => Int.le_refl _
  | n + 1, h => by
    have h1 := sum_le n (fun i hi => h i (by omega))
    have h2 := h n (by omega)
    simp only [sumTo]; omega
theorem sum_eq {f g : Fn} (n : Nat) (h : ∀ i, i < n → f i = g i) : sumTo f n = sumTo g n :=
  Int.le_antisymm (sum_le n fun i hi => Int.le_of_eq (h i hi)) (sum_le n fun i hi => Int.le_of_eq (h i hi).symm)
theorem sum_const (c : Int) : ∀ n : Nat, sumTo (fun _ => c) n = c * (n : Int)
  | 0 => by simp [sumTo]
  | n + 1 => by simp only [sumTo]; rw [sum_const c n, Int.natCast_succ, Int.mul_add]; omega
theorem sum_pos {f : Fn} (n : Nat) (h : ∀ i, i < n → 0 ≤ f i) : 0 ≤ sumTo f n := by
  have := sum_le (f := fun _ => 0) n h
  rw [sum_const] at this
  omega
theorem sum_mono {f : Fn} {m : Nat} : ∀ n, m ≤ n → (∀ i, i < n → 0 ≤ f i) → sumTo f m ≤ sumTo f n
  | 0, h, _ => by
    have : m = 0 := by omega
    subst this; exact Int.le_refl _
  | n + 1, h, hp => by
    by_cases e : m = n + 1
    · subst e; exact Int.le_refl _
    · have h1 := sum_mono (f := f) (m := m) n (by omega) (fun i hi => hp i (by omega))
      have h2 := hp n (by omega)
      simp only [sumTo]; omega
/-- Just one counts. -/
theorem sum_only {f : Fn} {x : Nat} : ∀ n, x < n → (∀ i, i < n → i ≠ x → f i = 0) → sumTo f n = f x
  | 0, h, _ => by omega
  | n + 1, h, hz => by
    simp only [sumTo]
    by_cases e : x = n
    · subst e
      have : sumTo f x = sumTo (fun _ => 0) x := sum_eq x fun i hi => hz i (by omega) (by omega)
      rw [this, sum_const]; omega
    · rw [sum_only n (by omega) (fun i hi hne => hz i (by omega) hne), hz n (by omega) (fun e' => e e'.symm)]; omega
theorem sum_ge_one {f : Fn} {x n : Nat} (hx : x < n) (hp : ∀ i, i < n → 0 ≤ f i) : f x ≤ sumTo f n := by
  have h1 : sumTo (fun i => if i = x then f x else 0) n = f x := by
    rw [sum_only n hx]
    · simp
    · intro i _ hne; simp [hne]
  rw [← h1]
  refine sum_le n fun i hi => ?_
  by_cases e : i = x
  · subst e; simp
  · simp [e]; exact hp i hi
theorem sum_ge_two {f : Fn} {x y n : Nat} (hx : x < n) (hy : y < n) (hxy : x ≠ y) (hp : ∀ i, i < n → 0 ≤ f i) : f x + f y ≤ sumTo f n := by
  have h1 : sumTo (fun i => if i = x then f x else 0) n = f x := by
    rw [sum_only n hx]
    · simp
    · intro i _ hne; simp [hne]
  have h2 : sumTo (fun i => if i = y then f y else 0) n = f y := by
    rw [sum_only n hy]
    · simp
    · intro i _ hne; simp [hne]
  rw [← h1, ← h2, ← sum_add]
  refine sum_le n fun i hi => ?_
  by_cases e : i = x
  · subst e; simp [hxy]
  · by_cases e' : i = y
    · subst e'; simp [e]
    · simp [e, e']; exact hp i hi

/-- What lies in a box of the first k. -/
def lev (q : Nat → Nat) (x : Fn) (k b : Nat) : Int := sumTo (fun j => if q j = b then x j else 0) k
theorem lev_succ (q : Nat → Nat) (x : Fn) (k b : Nat) : lev q x (k + 1) b = lev q x k b + if q k = b then x k else 0 := rfl
theorem lev_sum (q : Nat → Nat) (x : Fn) (n : Nat) : ∀ N, sumTo (fun b => lev q x N b) n = sumTo (fun i => if q i < n then x i else 0) N
  | 0 => by
    have : sumTo (fun b => lev q x 0 b) n = sumTo (fun _ => 0) n := sum_eq n fun i _ => rfl
    rw [this, sum_const]; simp [sumTo]
  | N + 1 => by
    have e : sumTo (fun b => lev q x (N + 1) b) n = sumTo (fun b => lev q x N b + if q N = b then x N else 0) n := sum_eq n fun i _ => rfl
    rw [e, sum_add, lev_sum q x n N]
    simp only [sumTo]
    congr 1
    by_cases h : q N < n
    · rw [if_pos h, sum_only n h]
      · simp
      · intro i _ hne; rw [if_neg (fun e => hne e.symm)]
    · rw [if_neg h]
      have : sumTo (fun b => if q N = b then x N else 0) n = sumTo (fun _ => 0) n := sum_eq n fun i hi => by
        rw [if_neg]; omega
      rw [this, sum_const]; omega
theorem lev_all {q : Nat → Nat} {x : Fn} {n N : Nat} (h : ∀ i, i < N → q i < n) : sumTo (fun b => lev q x N b) n = sumTo x N := by
  rw [lev_sum]
  exact sum_eq N fun i hi => by rw [if_pos (h i hi)]
theorem lev_nonneg {q : Nat → Nat} {x : Fn} {k : Nat} (hx : ∀ i, i < k → 0 ≤ x i) (b : Nat) : 0 ≤ lev q x k b :=
  sum_pos k fun i hi => if_ge (hx i hi)
theorem lev_mono {q : Nat → Nat} {x : Fn} {k m : Nat} (hkm : k ≤ m) (hx : ∀ i, i < m → 0 ≤ x i) (b : Nat) : lev q x k b ≤ lev q x m b :=
  sum_mono m hkm fun i hi => if_ge (hx i hi)
theorem lev_one {q : Nat → Nat} {x : Fn} {k i b : Nat} (hi : i < k) (e : q i = b) (hx : ∀ i, i < k → 0 ≤ x i) : x i ≤ lev q x k b := by
  have := sum_ge_one (f := fun j => if q j = b then x j else 0) hi (fun j hj => if_ge (hx j hj))
  rw [if_pos e] at this
  exact this
theorem lev_two {q : Nat → Nat} {x : Fn} {k i j b : Nat} (hi : i < k) (hj : j < k) (hij : i ≠ j) (e : q i = b) (e' : q j = b) (hx : ∀ i, i < k → 0 ≤ x i) : x i + x j ≤ lev q x k b := by
  have := sum_ge_two (f := fun j => if q j = b then x j else 0) hi hj hij (fun j hj => if_ge (hx j hj))
  rw [if_pos e, if_pos e'] at this
  exact this
theorem lev_le {q : Nat → Nat} {x y : Fn} {k b : Nat} (h : ∀ i, i < k → q i = b → x i ≤ y i) : lev q x k b ≤ lev q y k b :=
  sum_le k fun i hi => by
    by_cases e : q i = b
    · simp [e]; exact h i hi e
    · simp [e]
theorem lev_scale (q : Nat → Nat) (c : Int) (b : Nat) : ∀ k, lev q (fun _ => c) k b = c * lev q (fun _ => 1) k b
  | 0 => by simp [lev, sumTo]
  | k + 1 => by
    rw [lev_succ, lev_succ, lev_scale q c b k, Int.mul_add]
    split <;> simp
theorem lev_none {q : Nat → Nat} {x : Fn} {k b : Nat} (h : ∀ i, i < k → q i ≠ b) : lev q x k b = 0 := by
  have : lev q x k b = sumTo (fun _ => 0) k := sum_eq k fun i hi => by rw [if_neg (h i hi)]
  rw [this, sum_const]; omega
theorem lev_some {q : Nat → Nat} {x : Fn} {k b : Nat} (h : lev q x k b ≠ 0) : ∃ i, i < k ∧ q i = b := by
  apply Classical.byContradiction
  intro hn
  exact h (lev_none fun i hi e => hn ⟨i, hi, e⟩)
theorem lev_only {q : Nat → Nat} {x : Fn} {k i b : Nat} (hi : i < k) (e : q i = b) (h : ∀ j, j < k → j ≠ i → q j ≠ b) : lev q x k b = x i := by
  have := sum_only (f := fun j => if q j = b then x j else 0) k hi (fun j hj hne => by rw [if_neg (h j hj hne)])
  rw [if_pos e] at this
  exact this
/-- How many lie in a box of the first k. -/
abbrev num (q : Nat → Nat) (k b : Nat) : Int := lev q (fun _ => 1) k b
theorem num_one {q : Nat → Nat} {k i b : Nat} (hi : i < k) (e : q i = b) : 1 ≤ num q k b := lev_one (x := fun _ => 1) hi e (fun _ _ => by omega)
theorem num_two {q : Nat → Nat} {k i j b : Nat} (hi : i < k) (hj : j < k) (hij : i ≠ j) (e : q i = b) (e' : q j = b) : 2 ≤ num q k b := lev_two (x := fun _ => 1) hi hj hij e e' (fun _ _ => by omega)
theorem num_alone {q : Nat → Nat} {k i b : Nat} (hi : i < k) (e : q i = b) (h : num q k b ≤ 1) : ∀ j, j < k → j ≠ i → q j ≠ b := by
  intro j hj hne e'
  have := num_two hj hi hne e' e
  omega

/-- A packing into n boxes. -/
structure Pk (x : Fn) (N n : Nat) (p : Nat → Nat) : Prop where
  lt : ∀ i, i < N → p i < n
  le : ∀ b, b < n → lev p x N b ≤ 20
/-- Each item in the first box in which it had room. -/
structure FF (x : Fn) (N : Nat) (q : Nat → Nat) : Prop where
  full : ∀ i, i < N → ∀ b, b < q i → 20 < lev q x i b + x i
  room : ∀ i, i < N → lev q x i (q i) + x i ≤ 20
structure It (x : Fn) (N : Nat) : Prop where
  lo : ∀ i, i < N → 1 ≤ x i
  hi : ∀ i, i < N → x i ≤ 20
theorem It.ge {x : Fn} {N : Nat} (h : It x N) {k : Nat} (hk : k ≤ N) : ∀ i, i < k → 0 ≤ x i := fun i hi => by have := h.lo i (by omega); omega
/-- Boxes are begun in order. -/
theorem FF.before {x : Fn} {N : Nat} {q : Nat → Nat} (h : FF x N q) (hx : It x N) {i b : Nat} (hi : i < N) (hb : b < q i) : ∃ j, j < i ∧ q j = b := by
  have h1 := h.full i hi b hb
  have h2 := hx.hi i hi
  exact lev_some (x := x) (k := i) (by omega)
theorem FF.le {x : Fn} {N : Nat} {q : Nat → Nat} (h : FF x N q) : ∀ k, k ≤ N → ∀ b, lev q x k b ≤ 20
  | 0, _, b => by simp [lev, sumTo]
  | k + 1, hk, b => by
    rw [lev_succ]
    by_cases e : q k = b
    · subst e; simp; exact h.room k (by omega)
    · simp [e]; exact FF.le h k (by omega) b
/-- Two boxes together have more than one has room for. -/
theorem FF.two {x : Fn} {N : Nat} {q : Nat → Nat} (h : FF x N q) (hx : It x N) {i b : Nat} (hi : i < N) (hb : b < q i) : 20 < lev q x N b + lev q x N (q i) := by
  have h1 := h.full i hi b hb
  have h2 := lev_mono (q := q) (show i ≤ N by omega) (hx.ge (Nat.le_refl _)) b
  have h3 := lev_one (q := q) hi rfl (hx.ge (Nat.le_refl _))
  omega
/-- The boxes used: s of them. -/
structure Many (q : Nat → Nat) (N s : Nat) : Prop where
  lt : ∀ i, i < N → q i < s
  all : ∀ b, b < s → ∃ i, i < N ∧ q i = b
theorem pairs {x : Fn} {N s : Nat} {q : Nat → Nat} (h : FF x N q) (hx : It x N) (hs : Many q N s) : ∀ m, 2 * m ≤ s → 21 * (m : Int) ≤ sumTo (fun b => lev q x N b) (2 * m)
  | 0, _ => by simp [sumTo]
  | m + 1, hm => by
    have h1 := pairs h hx hs m (by omega)
    obtain ⟨i, hi, e⟩ := hs.all (2 * m + 1) (by omega)
    have h2 := h.two hx hi (b := 2 * m) (by omega)
    rw [e] at h2
    have e2 : 2 * (m + 1) = 2 * m + 1 + 1 := by omega
    rw [e2]
    simp only [sumTo]
    omega
/-- First fit needs fewer than twice as many as the least. -/
theorem ff_twice {x : Fn} {N s m : Nat} {q : Nat → Nat} (h : FF x N q) (hx : It x N) (hs : Many q N s) (hm : 1 ≤ m) (hsum : sumTo x N ≤ 20 * (m : Int)) : s + 1 ≤ 2 * m := by
  apply Classical.byContradiction
  intro hn
  have h1 := pairs h hx hs m (by omega)
  have h2 := sum_mono (f := fun b => lev q x N b) (m := 2 * m) s (by omega) (fun b _ => lev_nonneg (hx.ge (Nat.le_refl _)) b)
  rw [lev_all hs.lt] at h2
  omega

/-- How many of the first k lie behind the first n boxes. -/
def ov (q : Nat → Nat) (n : Nat) : Nat → Nat
  | 0 => 0
  | k + 1 => ov q n k + if n ≤ q k then 1 else 0
theorem ov_sum {x : Fn} {N n : Nat} {q : Nat → Nat} (h : FF x N q) (hx : It x N) : ∀ k, k ≤ N → ov q n k ≤ n → 21 * (ov q n k : Int) ≤ sumTo (fun b => lev q x N b) (ov q n k) + sumTo (fun i => if n ≤ q i then x i else 0) k
  | 0, _, _ => by simp [ov, sumTo]
  | k + 1, hk, ho => by
    by_cases hq : n ≤ q k
    · have e : ov q n (k + 1) = ov q n k + 1 := by simp [ov, hq]
      rw [e] at ho ⊢
      have h1 := ov_sum (n := n) h hx k (by omega) (by omega)
      have h2 := h.full k (by omega) (ov q n k) (by omega)
      have h3 := lev_mono (q := q) (show k ≤ N by omega) (hx.ge (Nat.le_refl _)) (ov q n k)
      simp only [sumTo, if_pos hq]
      omega
    · have e : ov q n (k + 1) = ov q n k := by simp [ov, hq]
      rw [e] at ho ⊢
      have h1 := ov_sum (n := n) h hx k (by omega) ho
      simp only [sumTo, if_neg hq]
      omega
/-- Behind as many boxes as are enough lie fewer items than these boxes are. -/
theorem ov_few {x : Fn} {N n : Nat} {q p : Nat → Nat} (h : FF x N q) (hx : It x N) (hp : Pk x N n p) (hn : 1 ≤ n) : ∀ k, k ≤ N → ov q n k < n
  | 0, _ => by simp [ov]; omega
  | k + 1, hk => by
    have h0 := ov_few h hx hp hn k (by omega)
    by_cases hq : n ≤ q k
    · have e : ov q n (k + 1) = ov q n k + 1 := by simp [ov, hq]
      apply Classical.byContradiction
      intro hc
      have e2 : ov q n (k + 1) = n := by omega
      have h1 := ov_sum (n := n) h hx (k + 1) hk (by omega)
      rw [e2] at h1
      rw [lev_sum] at h1
      have h2 := sum_mono (f := fun i => if n ≤ q i then x i else 0) (m := k + 1) N hk (fun i hi => if_ge (hx.ge (Nat.le_refl _) i hi))
      have h3 : sumTo (fun i => if q i < n then x i else 0) N + sumTo (fun i => if n ≤ q i then x i else 0) N = sumTo x N := by
        rw [← sum_add]
        refine sum_eq N fun i _ => ?_
        by_cases hl : q i < n
        · rw [if_pos hl, if_neg (by omega)]; omega
        · rw [if_neg hl, if_pos (by omega)]; omega
      have h4 : sumTo x N ≤ 20 * (n : Int) := by
        rw [← lev_all hp.lt, ← sum_const]
        exact sum_le n fun b hb => hp.le b hb
      omega
    · have e : ov q n (k + 1) = ov q n k := by simp [ov, hq]
      omega
theorem ov_num (q : Nat → Nat) (n : Nat) : ∀ k, sumTo (fun b => num q k b) n + (ov q n k : Int) = (k : Int) := by
  intro k
  rw [lev_sum]
  induction k with
  | zero => simp [sumTo, ov]
  | succ k ih =>
    simp only [sumTo, ov]
    by_cases h : n ≤ q k
    · simp [h, show ¬ q k < n by omega]; omega
    · simp [h, show q k < n by omega]; omega
/-- Items of which no two have room in one box are no more than boxes. -/
theorem apart {x : Fn} {N n t : Nat} {p : Nat → Nat} (hx : It x N) (hp : Pk x N n p) (ht : t ≤ N) (h : ∀ i j, i < j → j < t → 20 < x i + x j) : t ≤ n := by
  have h1 : ∀ b, b < n → num p t b ≤ 1 := by
    intro b hb
    apply Classical.byContradiction
    intro hc
    obtain ⟨i, hi, e⟩ := lev_some (q := p) (x := fun _ => 1) (k := t) (b := b) (fun e => by have e2 : num p t b = 0 := e; omega)
    have hno : ¬ ∀ j, j < t → j ≠ i → p j ≠ b := fun hall => by
      have e2 : num p t b = 1 := lev_only (x := fun _ => 1) hi e hall
      omega
    have : ∃ j, j < t ∧ j ≠ i ∧ p j = b := by
      apply Classical.byContradiction
      intro hn
      exact hno fun j hj hne e' => hn ⟨j, hj, hne, e'⟩
    obtain ⟨j, hj, hne, e'⟩ := this
    have h2 := lev_two (x := x) (k := N) (show i < N by omega) (show j < N by omega) (fun e => hne e.symm) e e' (hx.ge (Nat.le_refl _))
    have h3 := hp.le b hb
    rcases Nat.lt_or_gt_of_ne hne with c | c
    · have := h j i c hi; omega
    · have := h i j c hj; omega
  have h2 : sumTo (fun b => num p t b) n = sumTo (fun _ => 1) t := lev_all fun i hi => hp.lt i (by omega)
  have h3 := sum_le (f := fun b => num p t b) (g := fun _ => 1) n h1
  rw [h2, sum_const, sum_const] at h3
  omega

/-- The first item that did not go into the first n boxes is of a third at most. -/
theorem third {x : Fn} {N n t : Nat} {q p : Nat → Nat} (h : FF x N q) (hx : It x N) (hp : Pk x N n p) (hd : ∀ i j, i ≤ j → j < N → x j ≤ x i) (ht : t < N) (hq : q t = n) (hf : ∀ i, i < t → q i < n) : x t ≤ 6 := by
  apply Classical.byContradiction
  intro hc
  have hge : ∀ k, k ≤ t + 1 → ∀ r : Nat → Nat, ∀ b, 7 * num r k b ≤ lev r x k b := by
    intro k hk r b
    rw [← lev_scale r 7 b k]
    exact lev_le fun i hi _ => by have := hd i t (by omega) ht; omega
  -- weights: two for one alone in its box, else one
  have hw : ∃ w : Fn, (∀ i, i < t → num q t (q i) = 1 → w i = 2) ∧ (∀ i, i < t → num q t (q i) ≠ 1 → w i = 1) ∧ w t = 1 :=
    ⟨fun i => if i < t ∧ num q t (q i) = 1 then 2 else 1, fun i h1 h2 => by simp [h1, h2], fun i h1 h2 => by simp [h2], by simp⟩
  obtain ⟨w, w2, w1, wt⟩ := hw
  have hlen : ∀ b, b < n → lev q w t b = 2 := by
    intro b hb
    obtain ⟨j, hj, ej⟩ := h.before hx ht (b := b) (by rw [hq]; exact hb)
    have n1 := num_one hj ej
    have n2 := hge t (by omega) q b
    have n3 := h.le t (by omega) b
    by_cases e1 : num q t b = 1
    · have h1 : lev q w t b ≤ lev q (fun _ => 2) t b := lev_le fun i hi e => by rw [w2 i hi (by rw [e]; exact e1)]; omega
      have h2 : lev q (fun _ => 2) t b ≤ lev q w t b := lev_le fun i hi e => by rw [w2 i hi (by rw [e]; exact e1)]; omega
      rw [lev_scale] at h1 h2
      have e2 : lev q (fun _ => 1) t b = 1 := e1
      omega
    · have h1 : lev q w t b ≤ lev q (fun _ => 1) t b := lev_le fun i hi e => by rw [w1 i hi (by rw [e]; exact e1)]; omega
      have h2 : lev q (fun _ => 1) t b ≤ lev q w t b := lev_le fun i hi e => by rw [w1 i hi (by rw [e]; exact e1)]; omega
      have e2 : lev q (fun _ => 1) t b = num q t b := rfl
      omega
  have htot : sumTo w (t + 1) = 2 * (n : Int) + 1 := by
    simp only [sumTo]
    rw [wt, ← lev_all (q := q) (x := w) hf, sum_eq n hlen, sum_const]
  have hbox : ∀ b, b < n → lev p w (t + 1) b ≤ 2 := by
    intro b hb
    have l20 : lev p x (t + 1) b ≤ 20 := by
      have := lev_mono (q := p) (show t + 1 ≤ N by omega) (hx.ge (Nat.le_refl _)) b
      have := hp.le b hb
      omega
    by_cases hs : ∃ i, i < t ∧ p i = b ∧ num q t (q i) = 1
    · obtain ⟨i, hi, e, e1⟩ := hs
      have hal : lev q x t (q i) = x i := lev_only hi rfl (num_alone hi rfl (by omega))
      have hfu := h.full t ht (q i) (by rw [hq]; exact hf i hi)
      rw [hal] at hfu
      have hone : ∀ j, j < t + 1 → j ≠ i → p j ≠ b := fun j hj hne e' => by
        have h1 := lev_two (x := x) (k := t + 1) (show i < t + 1 by omega) hj (fun e => hne e.symm) e e' (hx.ge (by omega))
        have h2 := hd j t (by omega) ht
        omega
      rw [lev_only (show i < t + 1 by omega) e hone, w2 i hi e1]
      omega
    · have h1 : lev p w (t + 1) b ≤ lev p (fun _ => 1) (t + 1) b := lev_le fun i hi e => by
        by_cases hit : i = t
        · subst hit; rw [wt]; omega
        · rw [w1 i (by omega) (fun e1 => hs ⟨i, by omega, e, e1⟩)]; omega
      have h2 := hge (t + 1) (Nat.le_refl _) p b
      have e2 : lev p (fun _ => 1) (t + 1) b = num p (t + 1) b := rfl
      omega
  have h1 : sumTo (fun b => lev p w (t + 1) b) n = sumTo w (t + 1) := lev_all fun i hi => hp.lt i (by omega)
  have h2 := sum_le (f := fun b => lev p w (t + 1) b) (g := fun _ => 2) n hbox
  rw [h1, htot, sum_const] at h2
  omega
theorem first_at {P : Nat → Prop} : ∀ k, P k → ∃ m, m ≤ k ∧ P m ∧ ∀ j, j < m → ¬ P j := by
  intro k
  induction k using Nat.strongRecOn with
  | _ k ih =>
    intro hk
    by_cases h : ∃ j, j < k ∧ P j
    · obtain ⟨j, hj, hp⟩ := h
      obtain ⟨m, h1, h2, h3⟩ := ih j hj hp
      exact ⟨m, by omega, h2, h3⟩
    · exact ⟨k, Nat.le_refl _, hk, fun j hj hp => h ⟨j, hj, hp⟩⟩
/-- From the greatest on, of nine at most. -/
theorem johnson {x : Fn} {N n s : Nat} {q p : Nat → Nat} (h : FF x N q) (hx : It x N) (hs : Many q N s) (hp : Pk x N n p) (hd : ∀ i j, i ≤ j → j < N → x j ≤ x i) (hN : N ≤ 9) : 9 * s ≤ 11 * n + 6 := by
  apply Classical.byContradiction
  intro hc
  have hsN : s ≤ N := by
    -- each box has an item
    have h1 : sumTo (fun _ => 1) s ≤ sumTo (fun b => num q N b) s := sum_le s fun b hb => by
      obtain ⟨i, hi, e⟩ := hs.all b hb
      exact num_one hi e
    have h2 : sumTo (fun b => num q N b) s = sumTo (fun _ => 1) N := lev_all hs.lt
    rw [h2, sum_const, sum_const] at h1
    omega
  have hn : 1 ≤ n := by
    apply Classical.byContradiction
    intro h0
    by_cases hN0 : 0 < N
    · have := hp.lt 0 hN0; omega
    · omega
  have hlt : n < s := by omega
  have hov := ov_few h hx hp hn N (Nat.le_refl _)
  have hnum := ov_num q n N
  -- the first item behind n boxes
  obtain ⟨i0, hi0, e0⟩ := hs.all n hlt
  obtain ⟨t, ht0, ⟨htN, hqt⟩, hmin⟩ := first_at (P := fun i => i < N ∧ q i = n) i0 ⟨hi0, e0⟩
  have hf : ∀ i, i < t → q i < n := by
    intro i hi
    apply Classical.byContradiction
    intro hge
    by_cases e : q i = n
    · exact hmin i hi ⟨by omega, e⟩
    · obtain ⟨j, hj, ej⟩ := h.before hx (i := i) (by omega) (b := n) (by omega)
      exact hmin j (by omega) ⟨by omega, ej⟩
  have h6 := third h hx hp hd htN hqt hf
  have small : ∀ i, i < N → n ≤ q i → x i ≤ 6 := by
    intro i hi hq
    have : t ≤ i := by
      apply Classical.byContradiction
      intro hl
      have := hf i (by omega)
      omega
    have := hd t i this hi
    omega
  -- a box that is full for such an item has three of them
  have three : ∀ b, n ≤ b → b + 1 < s → 3 ≤ num q N b := by
    intro b hb hbs
    obtain ⟨i, hi, e⟩ := hs.all (b + 1) hbs
    have h1 := h.full i hi b (by omega)
    have h2 := small i hi (by omega)
    have h3 : lev q x i b ≤ lev q (fun _ => 6) i b := lev_le fun j hj e => small j (by omega) (by omega)
    rw [lev_scale] at h3
    have h4 : lev q (fun _ => 1) i b ≤ lev q (fun _ => 1) N b := lev_mono (by omega) (fun _ _ => by omega) b
    have e5 : num q N b = lev q (fun _ => 1) N b := rfl
    omega
  have htot : sumTo (fun b => num q N b) s = (N : Int) := by
    have h2 : sumTo (fun b => num q N b) s = sumTo (fun _ => 1) N := lev_all hs.lt
    rw [h2, sum_const]; omega
  have hge0 : ∀ b, b < s → 0 ≤ num q N b := fun b _ => lev_nonneg (fun _ _ => by omega) b
  have one : ∀ b, b < s → 1 ≤ num q N b := fun b hb => by
    obtain ⟨i, hi, e⟩ := hs.all b hb
    exact num_one hi e
  by_cases hs2 : n + 2 ≤ s
  · have h3 := three n (Nat.le_refl _) (by omega)
    have h4 := one (n + 1) (by omega)
    have h5 := sum_mono (f := fun b => num q N b) (m := n + 1 + 1) s (by omega) hge0
    simp only [sumTo] at h5
    have hn5 : 5 ≤ n := by omega
    by_cases hs3 : n + 3 ≤ s
    · have h6 := three (n + 1) (by omega) (by omega)
      have h7 := one (n + 2) (by omega)
      have h8 := sum_mono (f := fun b => num q N b) (m := n + 2 + 1) s (by omega) hge0
      simp only [sumTo] at h8
      have h9 := sum_le (f := fun _ => 1) (g := fun b => num q N b) n (fun b hb => one b (by omega))
      rw [sum_const] at h9
      omega
    · -- five boxes with one item each
      have hn' : n = 5 := by omega
      have hsum5 : sumTo (fun b => num q N b) n ≤ 5 := by omega
      have h9 := sum_le (f := fun _ => 1) (g := fun b => num q N b) n (fun b hb => one b (by omega))
      rw [sum_const] at h9
      have each : ∀ b, b < n → num q N b ≤ 1 := by
        intro b hb
        apply Classical.byContradiction
        intro hgt
        have h1 : sumTo (fun c => num q N c - 1) n = sumTo (fun b => num q N b) n - (n : Int) := by
          have := sum_add (fun b => num q N b) (fun _ => -1) n
          rw [sum_const] at this
          have e : sumTo (fun c => num q N c - 1) n = sumTo (fun i => num q N i + -1) n := sum_eq n fun i _ => by omega
          omega
        have h2 := sum_ge_one (f := fun c => num q N c - 1) hb (fun c hc => by have := one c (by omega); omega)
        omega
      have hap := apart (t := t + 1) hx hp (by omega) (fun i j hij hj => by
        have hit : i < t := by omega
        have h1 := h.full t htN (q i) (by rw [hqt]; exact hf i hit)
        have hal : num q t (q i) ≤ 1 := by
          have h2 : num q t (q i) ≤ num q N (q i) := lev_mono (by omega) (fun _ _ => by omega) _
          have h3 := each (q i) (hf i hit)
          omega
        have h4 : lev q x t (q i) = x i := lev_only hit rfl (num_alone hit rfl hal)
        have h5 := hd j t (by omega) htN
        omega)
      -- t is at least n
      have h10 := sum_le (f := fun _ => 1) (g := fun b => num q t b) n (fun b hb => by
        obtain ⟨j, hj, ej⟩ := h.before hx htN (b := b) (by rw [hqt]; exact hb)
        exact num_one hj ej)
      have h11 : sumTo (fun b => num q t b) n = sumTo (fun _ => 1) t := lev_all hf
      rw [h11, sum_const, sum_const] at h10
      omega
  · -- one box more
    have : s = n + 1 := by omega
    have h1 : n = 1 := by omega
    have h5 := sum_mono (f := fun b => num q N b) (m := n + 1) s (by omega) hge0
    simp only [sumTo] at h5
    have := one n (by omega)
    omega
end Go.Proofs.Ytdpjkblondoimab.Bx
namespace Go.Proofs.Ytdpjkblondoimab.Fl
open Bx (sumTo sum_add sum_eq sum_le sum_const sum_only if_ge)

abbrev F2 := Nat → Nat → Int
/-- What goes out of a hall less what goes into it. -/
def ex (n : Nat) (f : F2) (i : Nat) : Int := sumTo (fun k => f i k - f k i) n
structure Cap (n : Nat) (w f : F2) : Prop where
  lo : ∀ i k, i < n → k < n → 0 ≤ f i k
  hi : ∀ i k, i < n → k < n → f i k ≤ w i k
structure Flow (n : Nat) (w f : F2) : Prop where
  cap : Cap n w f
  bal : ∀ i, 0 < i → i + 1 < n → ex n f i = 0
def room (w f : F2) (a b : Nat) : Int := w a b - f a b + f b a
theorem sum_swap (g : F2) (n : Nat) : ∀ m, sumTo (fun a => sumTo (fun k => g a k) n) m = sumTo (fun k => sumTo (fun a => g a k) m) n
  | 0 => by
    have : sumTo (fun k => sumTo (fun a => g a k) 0) n = sumTo (fun _ => 0) n := sum_eq n fun _ _ => rfl
    rw [this, sum_const]; simp [sumTo]
  | m + 1 => by
    have e : sumTo (fun k => sumTo (fun a => g a k) (m + 1)) n = sumTo (fun k => sumTo (fun a => g a k) m + g m k) n := sum_eq n fun _ _ => rfl
    rw [e, sum_add, ← sum_swap g n m]
    rfl
theorem sum_neg (g : Bx.Fn) : ∀ n, sumTo (fun i => - g i) n = - sumTo g n
  | 0 => rfl
  | n + 1 => by simp only [sumTo]; rw [sum_neg g n]; omega
/-- What goes over a cut. -/
def over (n : Nat) (S : Nat → Bool) (g : F2) : Int := sumTo (fun a => sumTo (fun b => if S a && !S b then g a b else 0) n) n
theorem within (n : Nat) (S : Nat → Bool) (f : F2) : sumTo (fun a => sumTo (fun b => if S a && S b then f a b - f b a else 0) n) n = 0 := by
  have h := sum_swap (fun a b => if S a && S b then f a b - f b a else 0) n n
  have e : sumTo (fun b => sumTo (fun a => if S a && S b then f a b - f b a else 0) n) n = - sumTo (fun a => sumTo (fun b => if S a && S b then f a b - f b a else 0) n) n := by
    rw [← sum_neg]
    refine sum_eq n fun i _ => ?_
    rw [← sum_neg]
    refine sum_eq n fun j _ => ?_
    rw [Bool.and_comm (S j) (S i)]
    split <;> omega
  omega
theorem value_over {n : Nat} {w f : F2} {S : Nat → Bool} (hf : Flow n w f) (hn : 2 ≤ n) (h0 : S 0 = true) (hl : S (n - 1) = false) : ex n f 0 = over n S fun a b => f a b - f b a := by
  have h1 : sumTo (fun a => if S a then ex n f a else 0) n = ex n f 0 := by
    rw [sum_only (x := 0) n (by omega)]
    · simp [h0]
    · intro i hi hne
      by_cases e : i = n - 1
      · rw [e, hl]; rfl
      · rw [hf.bal i (by omega) (by omega)]; split <;> rfl
  rw [← h1]
  have h2 : sumTo (fun a => if S a then ex n f a else 0) n = sumTo (fun a => sumTo (fun b => if S a && S b then f a b - f b a else 0) n + sumTo (fun b => if S a && !S b then f a b - f b a else 0) n) n := by
    refine sum_eq n fun a _ => ?_
    rw [← sum_add]
    by_cases ha : S a = true
    · rw [if_pos ha]
      refine sum_eq n fun b _ => ?_
      cases hb : S b <;> simp [ha]
    · have ha' : S a = false := by simpa using ha
      rw [if_neg ha]
      have : sumTo (fun i => (if S a && S i then f a i - f i a else 0) + if S a && !S i then f a i - f i a else 0) n = sumTo (fun _ => 0) n := sum_eq n fun b _ => by simp [ha']
      rw [this, sum_const]; omega
  rw [h2, sum_add, within]
  unfold over
  rw [Int.zero_add]
/-- No flow is more than a cut is wide. -/
theorem weak {n : Nat} {w f : F2} {S : Nat → Bool} (hf : Flow n w f) (hn : 2 ≤ n) (h0 : S 0 = true) (hl : S (n - 1) = false) : ex n f 0 ≤ over n S w := by
  rw [value_over hf hn h0 hl]
  refine sum_le n fun a ha => sum_le n fun b hb => ?_
  have h1 := hf.cap.hi a b ha hb
  have h2 := hf.cap.lo b a hb ha
  show (if S a && !S b then f a b - f b a else 0) ≤ (if S a && !S b then w a b else 0)
  split <;> omega
/-- As much, where there is no room over the cut. -/
theorem strong {n : Nat} {w f : F2} {S : Nat → Bool} (hf : Flow n w f) (hn : 2 ≤ n) (h0 : S 0 = true) (hl : S (n - 1) = false) (hr : ∀ a b, a < n → b < n → S a = true → S b = false → room w f a b ≤ 0) : ex n f 0 = over n S w := by
  rw [value_over hf hn h0 hl]
  refine sum_eq n fun a ha => sum_eq n fun b hb => ?_
  have h1 := hf.cap.hi a b ha hb
  have h2 := hf.cap.lo b a hb ha
  by_cases e : (S a && !S b) = true
  · rw [if_pos e, if_pos e]
    simp only [Bool.and_eq_true, Bool.not_eq_true'] at e
    have := hr a b ha hb e.1 e.2
    unfold room at this
    show f a b - f b a = w a b
    omega
  · rw [if_neg e, if_neg e]
/-- So much more from a to b: first less from b to a. -/
def st (f : F2) (y : Int) (a b : Nat) : F2 := fun i k => if i = b ∧ k = a then f b a - min y (f b a) else if i = a ∧ k = b then f a b + (y - min y (f b a)) else f i k
theorem st_back (f : F2) (y : Int) (a b : Nat) : st f y a b b a = f b a - min y (f b a) := by simp [st]
theorem st_on (f : F2) (y : Int) {a b : Nat} (h : a ≠ b) : st f y a b a b = f a b + (y - min y (f b a)) := by
  have : ¬ (a = b ∧ b = a) := fun e => h e.1
  simp [st, this]
theorem st_else (f : F2) (y : Int) {a b i k : Nat} (h1 : ¬ (i = b ∧ k = a)) (h2 : ¬ (i = a ∧ k = b)) : st f y a b i k = f i k := by simp [st, h1, h2]
theorem st_net (f : F2) (y : Int) {a b : Nat} (h : a ≠ b) (i k : Nat) : st f y a b i k - st f y a b k i = f i k - f k i + (if i = a ∧ k = b then y else 0) - (if i = b ∧ k = a then y else 0) := by
  by_cases h1 : i = a ∧ k = b
  · obtain ⟨rfl, rfl⟩ := h1
    have : ¬ (i = k ∧ k = i) := fun e => h e.1
    rw [st_on f y h, st_back, if_pos ⟨rfl, rfl⟩, if_neg this]; omega
  · by_cases h2 : i = b ∧ k = a
    · obtain ⟨rfl, rfl⟩ := h2
      have : ¬ (i = k ∧ k = i) := fun e => h e.1.symm
      rw [st_back, st_on f y h, if_neg this, if_pos ⟨rfl, rfl⟩]; omega
    · rw [st_else f y h2 h1, st_else f y (fun e => h1 ⟨e.2, e.1⟩) (fun e => h2 ⟨e.2, e.1⟩), if_neg h1, if_neg h2]; omega
theorem st_ex {n : Nat} (f : F2) (y : Int) {a b : Nat} (h : a ≠ b) (ha : a < n) (hb : b < n) (i : Nat) : ex n (st f y a b) i = ex n f i + (if i = a then y else 0) - (if i = b then y else 0) := by
  have e : ex n (st f y a b) i = sumTo (fun k => (f i k - f k i + (if i = a ∧ k = b then y else 0)) + -(if i = b ∧ k = a then y else 0)) n := sum_eq n fun k _ => by rw [st_net f y h]; omega
  rw [e, sum_add, sum_add, sum_neg]
  have e1 : sumTo (fun k => if i = a ∧ k = b then y else 0) n = if i = a then y else 0 := by
    rw [sum_only (x := b) n hb]
    · simp
    · intro k _ hne; simp [hne]
  have e2 : sumTo (fun k => if i = b ∧ k = a then y else 0) n = if i = b then y else 0 := by
    rw [sum_only (x := a) n ha]
    · simp
    · intro k _ hne; simp [hne]
  rw [e1, e2]
  unfold ex
  omega
theorem st_cap {n : Nat} {w f : F2} {y : Int} {a b : Nat} (hc : Cap n w f) (h : a ≠ b) (ha : a < n) (hb : b < n) (hy : 0 ≤ y) (hr : y ≤ room w f a b) : Cap n w (st f y a b) := by
  have h1 := hc.lo b a hb ha
  have h2 := hc.hi b a hb ha
  have h3 := hc.lo a b ha hb
  have h4 := hc.hi a b ha hb
  unfold room at hr
  refine ⟨fun i k hi hk => ?_, fun i k hi hk => ?_⟩
  · by_cases e1 : i = b ∧ k = a
    · obtain ⟨rfl, rfl⟩ := e1; rw [st_back]; omega
    · by_cases e2 : i = a ∧ k = b
      · obtain ⟨rfl, rfl⟩ := e2; rw [st_on f y h]; omega
      · rw [st_else f y e1 e2]; exact hc.lo i k hi hk
  · by_cases e1 : i = b ∧ k = a
    · obtain ⟨rfl, rfl⟩ := e1; rw [st_back]; omega
    · by_cases e2 : i = a ∧ k = b
      · obtain ⟨rfl, rfl⟩ := e2; rw [st_on f y h]; omega
      · rw [st_else f y e1 e2]; exact hc.hi i k hi hk
/-- Along a way. -/
def push (y : Int) : F2 → List Nat → F2
  | f, a :: b :: r => push y (st f y a b) (b :: r)
  | f, _ => f
def Rooms (w f : F2) (y : Int) : List Nat → Prop
  | a :: b :: r => y ≤ room w f a b ∧ Rooms w f y (b :: r)
  | _ => True
theorem Rooms.off {w f : F2} {y z : Int} {a b : Nat} : ∀ {l : List Nat}, a ∉ l → Rooms w f y l → Rooms w (st f z a b) y l
  | [], _, _ => trivial
  | [_], _, _ => trivial
  | c :: d :: r, hn, h => by
    have hc : c ≠ a := fun e => hn (by simp [e])
    have hd : d ≠ a := fun e => hn (by simp [e])
    refine ⟨?_, Rooms.off (l := d :: r) (fun hm => hn (List.mem_cons_of_mem _ hm)) h.2⟩
    have := h.1
    unfold room at this ⊢
    rw [st_else f z (fun e => hd e.2) (fun e => hc e.1), st_else f z (fun e => hc e.2) (fun e => hd e.1)]
    exact this
/-- The last one of a way. -/
def lastOf : Nat → List Nat → Nat
  | a, [] => a
  | _, b :: r => lastOf b r
theorem push_all {n : Nat} {w : F2} {y : Int} (hy : 0 ≤ y) : ∀ (r : List Nat) {f : F2} {a : Nat}, Cap n w f → (a :: r).Nodup → (∀ x, x ∈ a :: r → x < n) → Rooms w f y (a :: r) → Cap n w (push y f (a :: r)) ∧ ∀ i, ex n (push y f (a :: r)) i = ex n f i + (if i = a then y else 0) - (if i = lastOf a r then y else 0)
  | [], f, a, hc, _, _, _ => ⟨hc, fun i => by simp only [push, lastOf]; omega⟩
  | b :: r, f, a, hc, hnd, hb, hr => by
    have hab : a ≠ b := fun e => (List.nodup_cons.1 hnd).1 (by simp [e])
    have han := hb a List.mem_cons_self
    have hbn := hb b (by simp)
    have h1 := st_cap hc hab han hbn hy hr.1
    have h2 := push_all hy r h1 (List.nodup_cons.1 hnd).2 (fun x hx => hb x (List.mem_cons_of_mem _ hx)) (Rooms.off (List.nodup_cons.1 hnd).1 hr.2)
    refine ⟨h2.1, fun i => ?_⟩
    have h3 := h2.2 i
    have h4 := st_ex (n := n) f y hab han hbn i
    show ex n (push y (st f y a b) (b :: r)) i = _
    rw [h3, h4]
    show _ = ex n f i + (if i = a then y else 0) - (if i = lastOf b r then y else 0)
    by_cases e1 : i = b <;> by_cases e2 : i = a <;> simp only [e1, e2, if_true, if_false] <;> omega
/-- A way from 0 to the last one that is pushed makes a flow just so much more. -/
theorem push_flow {n : Nat} {w f : F2} {y : Int} {r : List Nat} (hf : Flow n w f) (hn : 2 ≤ n) (hy : 0 ≤ y) (hnd : (0 :: r).Nodup) (hb : ∀ x, x ∈ 0 :: r → x < n) (hr : Rooms w f y (0 :: r)) (hl : lastOf 0 r = n - 1) : Flow n w (push y f (0 :: r)) ∧ ex n (push y f (0 :: r)) 0 = ex n f 0 + y := by
  obtain ⟨h1, h2⟩ := push_all hy r hf.cap hnd hb hr
  refine ⟨⟨h1, fun i h0 hi => ?_⟩, ?_⟩
  · rw [h2 i, hl, if_neg (by omega), if_neg (by omega), hf.bal i h0 hi]; omega
  · rw [h2 0, hl, if_pos rfl, if_neg (by omega)]; omega
end Go.Proofs.Ytdpjkblondoimab.Fl
namespace Go.Proofs.Ytdpjkblondoimab
namespace Nt
def rowB (g : Int) (n : Nat) (r : List Int) : Bool := decide (r.length = n) && Pf.allB r 0 g
def sqB (g : Int) (c : List (List Int)) : Bool := c.all (rowB g c.length)
theorem rowB_len {g : Int} {n : Nat} {r : List Int} (h : r.length ≠ n) : rowB g n r = false := by simp [rowB, h]
theorem rowB_all {g : Int} {n : Nat} {r : List Int} (h : r.length = n) : rowB g n r = Pf.allB r 0 g := by simp [rowB, h]
theorem sqB_row {g : Int} {c : List (List Int)} (h : sqB g c = true) {i : Nat} (hi : i < c.length) : (c.getD i []).length = c.length ∧ Pf.allB (c.getD i []) 0 g = true := by
  have h2 := List.all_eq_true.1 h (c.getD i []) (by rw [Pf.getD_lt _ _ hi]; exact List.getElem_mem hi)
  simpa [rowB] using h2
theorem sqB_not {g : Int} {c : List (List Int)} {i : Nat} (hi : i < c.length) (h : rowB g c.length (c.getD i []) = false) : sqB g c = false := by
  cases e : sqB g c
  · rfl
  · have := sqB_row e hi
    rw [rowB, this.1, this.2] at h
    simp at h
theorem sqB_of {g : Int} {c : List (List Int)} (h : ∀ i, i < c.length → rowB g c.length (c.getD i []) = true) : sqB g c = true := by
  refine List.all_eq_true.2 fun r hr => ?_
  obtain ⟨i, hi, rfl⟩ := List.getElem_of_mem hr
  have := h i hi
  rwa [Pf.getD_lt _ _ hi] at this
end Nt
open Go.RowKit

theorem areb9_eqn {a : Option Addr} {n c : Nat} {xs : List Int} {lo hi : Int} {w : World} {r : Bool} (h : Hid (ARow w a xs)) (hn : Hid (xs.length = n)) (hl : n ≤ 1048576) (hr : Hid (Pf.allB xs lo hi = r)) :
    Calls Try.prog 57 #[.slice a n c, .int .i64 lo, .int .i64 hi] w fun e w' => e = .returned (.bool r) ∧ w' = w := by
  have := hn.out
  subst this
  have := areb_any (c := c) (lo := lo) (hi := hi) h.out (by omega)
  rwa [hr.out] at this
theorem all9_eqn {a : Option Addr} {n c : Nat} {xs : List Int} {lo hi : Int} {w : World} {r : Bool} (h : Hid (ARow w a xs)) (hn : Hid (xs.length = n)) (hl : n ≤ 1048576) (hr : Hid (Pf.allB xs lo hi = r)) :
    Calls Try.prog 45 #[.slice a n c, .int .i64 lo, .int .i64 hi] w fun e w' => e = .returned (.bool r) ∧ w' = w := by
  have := hn.out
  subst this
  have := all_any (c := c) (lo := lo) (hi := hi) h.out (by omega)
  rwa [hr.out] at this
set_option maxHeartbeats 2000000 in
theorem as_any {a : Option Addr} {n c : Nat} {g : Int} {C : List (List Int)} {w : World} (hn : C.length = n) (hl : n ≤ 1048576) (h : CRow w a C) :
    Calls Try.prog 47 #[.slice a n c, .int .i64 g] w fun e w' => e = .returned (.bool (Nt.sqB g C)) ∧ w' = w := by
  have HN := hide hn
  have H := hide h
  have HNOT := hide fun (i : Nat) (hi : i < C.length) (hh : Nt.rowB g C.length (C.getD i []) = false) => Nt.sqB_not hi hh
  have HOF := hide (@Nt.sqB_of g C)
  rw [hn] at HNOT HOF
  generalize Nt.sqB g C = G at *
  clear h hn
  go_enter Try.func47, Try.ntmps47
  go_wp2_with fail
  go_loop [4, 6, 9] (fun s2 _ s => ∃ (k : Nat), s2 = .bool false ∧ s = .int .i64 k ∧ k ≤ n ∧ Hid (∀ i, i < k → Nt.rowB g n (C.getD i []) = true)) (fun _ _ s => n - (intOf s).toNat)
  case atStart => exact ⟨0, rfl, rfl, Nat.zero_le _, hide fun i hi => absurd hi (Nat.not_lt_zero _)⟩
  case round =>
    obtain ⟨k, rfl, rfl, hk, HK⟩ := hrel
    by_cases hlt : k < n
    · obtain ⟨b, off, ai, ci, rfl, hb, r1, R1⟩ := H.out.at (i := k) (by rw [HN.out]; exact hlt)
      have j0 : (0 : Int) ≤ (k : Int) := by omega
      have j1 : (k : Int) < (n : Int) := by omega
      have HR := hide R1
      have HRB := hide (fun h => Nt.rowB_all (g := g) (r := C.getD k []) (n := n) h)
      have HRL := hide (fun h => Nt.rowB_len (g := g) (r := C.getD k []) (n := n) h)
      generalize hq : (C.getD k []).length = q at r1 HRB HRL
      have HQ := hide hq
      clear hq R1
      by_cases e : q = n
      · subst e
        have he : ((q : Int) != (q : Int)) = false := by simp
        cases hal : Pf.allB (C.getD k []) 0 g
        · have HAL := hide hal
          have H1 := hide (HNOT.out k hlt ((HRB.out rfl).trans hal))
          clear hal
          go_wp2_with fail
          refine (areb9_eqn HR HQ (by omega) HAL).mono ?_
          rintro e w1 ⟨rfl, hw1⟩
          obtain rfl : w = w1 := hw1.symm
          go_wp2_with fail
          go_ret
          exact ⟨ret_bool H1.out.symm, rfl⟩
        · have HAL := hide hal
          have H1 : Hid (∀ i, i < k + 1 → Nt.rowB g q (C.getD i []) = true) := hide fun i hi => by
            by_cases e : i = k
            · subst e; exact (HRB.out rfl).trans hal
            · exact HK.out i (by omega)
          clear hal
          go_wp2_with fail
          refine (areb9_eqn HR HQ (by omega) HAL).mono ?_
          rintro e w1 ⟨rfl, hw1⟩
          obtain rfl : w = w1 := hw1.symm
          go_wp2_with fail
          go_round
          case rel => exact ⟨k + 1, rfl, by go_num, by omega, H1⟩
          case measure => simp only [intOf]; omega
      · have he : ((q : Int) != (n : Int)) = true := by simp; omega
        have H1 := hide (HNOT.out k hlt (HRL.out e))
        clear e
        go_wp2_with fail
        go_ret
        exact ⟨ret_bool H1.out.symm, rfl⟩
    · have hke : k = n := by omega
      subst hke
      have H1 := hide (HOF.out HK.out)
      go_wp2_with fail
      go_ret
      exact ⟨ret_bool H1.out.symm, rfl⟩
theorem as_eq {a : Option Addr} {n c : Nat} {g : Int} {C : List (List Int)} {w : World} {r : Bool} (hn : Hid (C.length = n)) (hl : n ≤ 1048576) (h : Hid (CRow w a C)) (hr : Hid (Nt.sqB g C = r)) :
    Calls Try.prog 47 #[.slice a n c, .int .i64 g] w fun e w' => e = .returned (.bool r) ∧ w' = w := hr.out ▸ as_any hn.out hl h.out
end Go.Proofs.Ytdpjkblondoimab
namespace Go.Proofs.Ytdpjkblondoimab.Nt
open Bx (sumTo)

/-- 2 to 8 rows of as many numbers in 0..50. -/
def rowsB (c : List (List Int)) : Bool := Pf.inB (c.length : Int) 2 8 && sqB 50 c
def at2 (c : List (List Int)) (i k : Nat) : Int := (c.getD i []).getD k 0
theorem rowsB_len {c : List (List Int)} (h : rowsB c = true) : 2 ≤ c.length ∧ c.length ≤ 8 := by
  simp only [rowsB, Bool.and_eq_true] at h
  have := Pf.inB_yes h.1
  omega
theorem rowsB_sq {c : List (List Int)} (h : rowsB c = true) : sqB 50 c = true := by
  simp only [rowsB, Bool.and_eq_true] at h; exact h.2
theorem rowsB_row {c : List (List Int)} (h : rowsB c = true) {i : Nat} (hi : i < c.length) : (c.getD i []).length = c.length := (sqB_row (rowsB_sq h) hi).1
theorem rowsB_bd {c : List (List Int)} (h : rowsB c = true) {i k : Nat} (hi : i < c.length) (hk : k < c.length) : 0 ≤ at2 c i k ∧ at2 c i k ≤ 50 := by
  have h1 := sqB_row (rowsB_sq h) hi
  have := Pf.inB_yes (Pf.allB_get h1.2 (i := k) (by omega))
  exact this
def netB (c : List (List Int)) : Bool := rowsB c && (List.range c.length).all fun i => at2 c i i == 0
theorem netB_rows {c : List (List Int)} (h : netB c = true) : rowsB c = true := by
  simp only [netB, Bool.and_eq_true] at h; exact h.1
theorem netB_diag {c : List (List Int)} (h : netB c = true) {i : Nat} (hi : i < c.length) : at2 c i i = 0 := by
  simp only [netB, Bool.and_eq_true, List.all_eq_true, List.mem_range] at h
  simpa using h.2 i hi
theorem netB_no {c : List (List Int)} (h : rowsB c = false) : netB c = false := by simp [netB, h]
theorem netB_not {c : List (List Int)} {i : Nat} (hi : i < c.length) (h : at2 c i i ≠ 0) : netB c = false := by
  cases e : netB c
  · rfl
  · exact absurd (netB_diag e hi) h
theorem netB_of {c : List (List Int)} (h : rowsB c = true) (hd : ∀ i, i < c.length → at2 c i i = 0) : netB c = true := by
  simp only [netB, Bool.and_eq_true, List.all_eq_true, List.mem_range]
  exact ⟨h, fun i hi => by simp [hd i hi]⟩
/-- What goes out of a hall less what goes into it. -/
def outI (c : List (List Int)) (h : Nat) : Int := Fl.ex c.length (at2 c) h
def fvI (c : List (List Int)) : Int := if rowsB c then outI c 0 else 0
theorem sumTo_bd {f : Nat → Int} {lo hi : Int} : ∀ n, (∀ i, i < n → lo ≤ f i ∧ f i ≤ hi) → lo * n ≤ sumTo f n ∧ sumTo f n ≤ hi * n
  | 0, _ => by simp [sumTo]
  | n + 1, h => by
    have h1 := sumTo_bd n fun i hi => h i (by omega)
    have h2 := h n (by omega)
    have e1 : lo * ((n + 1 : Nat) : Int) = lo * n + lo := by rw [Int.natCast_add, Int.mul_add]; simp
    have e2 : hi * ((n + 1 : Nat) : Int) = hi * n + hi := by rw [Int.natCast_add, Int.mul_add]; simp
    simp only [sumTo]
    rw [e1, e2]
    omega
theorem sumTo_sub (f g : Nat → Int) : ∀ n, sumTo (fun k => f k - g k) n = sumTo f n - sumTo g n
  | 0 => by simp [sumTo]
  | n + 1 => by simp only [sumTo]; rw [sumTo_sub f g n]; omega
theorem sum_list : ∀ (l : List Int), l.sum = sumTo (fun k => l.getD k 0) l.length := by
  intro l
  have : ∀ k, k ≤ l.length → (l.take k).sum = sumTo (fun k => l.getD k 0) k := by
    intro k
    induction k with
    | zero => intro _; simp [sumTo]
    | succ k ih =>
      intro hk
      rw [List.take_succ_eq_append_getElem (by omega), List.sum_append, ih (by omega)]
      simp only [sumTo]
      rw [Pf.getD_lt _ _ (show k < l.length by omega)]
      simp
  have h := this l.length (Nat.le_refl _)
  rwa [List.take_length] at h
/-- All of a row less the first so many of a column. -/
theorem out_eq {c : List (List Int)} {h : Nat} (hl : (c.getD h []).length = c.length) : outI c h = (c.getD h []).sum - sumTo (fun k => at2 c k h) c.length := by
  rw [outI, Fl.ex, sumTo_sub, sum_list, hl]; rfl
/-- The halls of a side: rising, with 0, without the last one. -/
def sideB (c : List (List Int)) (s : List Int) : Bool := netB c && (decide (0 < s.length) && (s.getD 0 0 == 0) && Ma.riseB s (c.length - 1))
end Go.Proofs.Ytdpjkblondoimab.Nt
namespace Go.Proofs.Ytdpjkblondoimab
open Go.RowKit
open Bx (sumTo)

/-- One number of the rows, in memory. -/
theorem crow_at2 {w : World} {a : Option Addr} {C : List (List Int)} (h : CRow w a C) {n i k : Nat} (hn : C.length = n) (hr : Nt.rowsB C = true) (hi : i < n) (hk : k < n) :
    ∃ b off b' off' ci, a = some ⟨b, off, none⟩ ∧ w.cell? ⟨b, off + i, none⟩ = some (.slice (some ⟨b', off', none⟩) n ci) ∧ w.cell? ⟨b', off' + k, none⟩ = some (.int .i64 (Nt.at2 C i k)) := by
  obtain ⟨b, off, ai, ci, ha, _, h1, h2⟩ := h.at (i := i) (by omega)
  have hl := Nt.rowsB_row hr (i := i) (by omega)
  obtain ⟨b', off', e, h3⟩ := h2.at (i := k) (by omega)
  subst e
  rw [hl, hn] at h1
  exact ⟨b, off, b', off', ci, ha, h1, h3⟩
set_option maxHeartbeats 1000000 in
theorem ahr_any {a : Option Addr} {n c : Nat} {C : List (List Int)} {w : World} (hn : C.length = n) (h : CRow w a C) :
    Calls Try.prog 36 #[.slice a n c] w fun e w' => e = .returned (.bool (Nt.rowsB C)) ∧ w' = w := by
  have HE : Hid (Nt.rowsB C = (Pf.inB (n : Int) 2 8 && Nt.sqB 50 C)) := hide (by rw [Nt.rowsB, hn])
  cases hi : Pf.inB (n : Int) 2 8
  · have H1 : Hid (Nt.rowsB C = false) := hide (by rw [HE.out, hi]; rfl)
    generalize Nt.rowsB C = G at *
    clear h hn HE
    go_enter Try.func36, Try.ntmps36
    go_wp2_with fail
    refine (between_eq hi).mono ?_
    rintro e w1 ⟨rfl, hw1⟩
    obtain rfl : w = w1 := hw1.symm
    go_wp2_with fail
    go_ret
    exact ⟨ret_bool H1.out.symm, rfl⟩
  · have hl := Pf.inB_yes hi
    have H1 : Hid (Nt.rowsB C = Nt.sqB 50 C) := hide (by rw [HE.out, hi]; rfl)
    have HC := hide (as_any (c := c) (g := 50) hn (by omega) h)
    generalize Nt.rowsB C = G at *
    generalize Nt.sqB 50 C = Y at *
    clear h hn HE
    go_enter Try.func36, Try.ntmps36
    go_wp2_with fail
    refine (between_eq hi).mono ?_
    rintro e w1 ⟨rfl, hw1⟩
    obtain rfl : w = w1 := hw1.symm
    go_wp2_with fail
    refine HC.out.mono ?_
    rintro e w1 ⟨rfl, hw1⟩
    obtain rfl : w = w1 := hw1.symm
    go_wp2_with fail
    go_ret
    exact ⟨ret_bool H1.out.symm, rfl⟩
theorem ahr_eq {a : Option Addr} {n c : Nat} {C : List (List Int)} {w : World} {r : Bool} (hn : Hid (C.length = n)) (h : Hid (CRow w a C)) (hr : Hid (Nt.rowsB C = r)) :
    Calls Try.prog 36 #[.slice a n c] w fun e w' => e = .returned (.bool r) ∧ w' = w := hr.out ▸ ahr_any hn.out h.out
set_option maxHeartbeats 2000000 in
theorem slr_any {a : Option Addr} {n c : Nat} {C : List (List Int)} {w : World} (hn : C.length = n) (hl : n ≤ 1048576) (h : CRow w a C) :
    Calls Try.prog 33 #[.slice a n c] w fun e w' => e = .returned (.bool (Nt.rowsB C)) ∧ w' = w := by
  have HE : Hid (Nt.rowsB C = (Pf.inB (n : Int) 2 8 && Nt.sqB 50 C)) := hide (by rw [Nt.rowsB, hn])
  have HN := hide hn
  have H := hide h
  have HNOT := hide fun (i : Nat) (hi : i < C.length) (hh : Nt.rowB 50 C.length (C.getD i []) = false) => Nt.sqB_not hi hh
  have HOF := hide (@Nt.sqB_of 50 C)
  rw [hn] at HNOT HOF
  generalize Nt.rowsB C = G at *
  generalize Nt.sqB 50 C = Y at *
  clear h hn
  go_enter Try.func33, Try.ntmps33
  go_wp2_with fail
  go_loop [2, 4, 7] (fun s2 _ s => ∃ (k : Nat), s2 = .bool false ∧ s = .int .i64 k ∧ k ≤ n ∧ Hid (∀ i, i < k → Nt.rowB 50 n (C.getD i []) = true)) (fun _ _ s => n - (intOf s).toNat)
  case atStart => exact ⟨0, rfl, rfl, Nat.zero_le _, hide fun i hi => absurd hi (Nat.not_lt_zero _)⟩
  case round =>
    obtain ⟨k, rfl, rfl, hk, HK⟩ := hrel
    by_cases hlt : k < n
    · obtain ⟨b, off, ai, ci, rfl, hb, r1, R1⟩ := H.out.at (i := k) (by rw [HN.out]; exact hlt)
      have j0 : (0 : Int) ≤ (k : Int) := by omega
      have j1 : (k : Int) < (n : Int) := by omega
      have HR := hide R1
      have HRB := hide (fun h => Nt.rowB_all (g := 50) (r := C.getD k []) (n := n) h)
      have HRL := hide (fun h => Nt.rowB_len (g := 50) (r := C.getD k []) (n := n) h)
      generalize hq : (C.getD k []).length = q at r1 HRB HRL
      have HQ := hide hq
      clear hq R1
      by_cases e : q = n
      · subst e
        have he : ((q : Int) != (q : Int)) = false := by simp
        cases hal : Pf.allB (C.getD k []) 0 50
        · have HAL := hide hal
          have H1 : Hid (G = false) := hide (by rw [HE.out, HNOT.out k hlt ((HRB.out rfl).trans hal), Bool.and_false])
          clear hal
          go_wp2_with fail
          refine (all9_eqn HR HQ (by omega) HAL).mono ?_
          rintro e w1 ⟨rfl, hw1⟩
          obtain rfl : w = w1 := hw1.symm
          go_wp2_with fail
          go_ret
          exact ⟨ret_bool H1.out.symm, rfl⟩
        · have HAL := hide hal
          have H1 : Hid (∀ i, i < k + 1 → Nt.rowB 50 q (C.getD i []) = true) := hide fun i hi => by
            by_cases e : i = k
            · subst e; exact (HRB.out rfl).trans hal
            · exact HK.out i (by omega)
          clear hal
          go_wp2_with fail
          refine (all9_eqn HR HQ (by omega) HAL).mono ?_
          rintro e w1 ⟨rfl, hw1⟩
          obtain rfl : w = w1 := hw1.symm
          go_wp2_with fail
          go_round
          case rel => exact ⟨k + 1, rfl, by go_num, by omega, H1⟩
          case measure => simp only [intOf]; omega
      · have he : ((q : Int) != (n : Int)) = true := by simp; omega
        have H1 : Hid (G = false) := hide (by rw [HE.out, HNOT.out k hlt (HRL.out e), Bool.and_false])
        clear e
        go_wp2_with fail
        go_ret
        exact ⟨ret_bool H1.out.symm, rfl⟩
    · have hke : k = n := by omega
      subst hke
      have H1 : Hid (G = Pf.inB (k : Int) 2 8) := hide (by rw [HE.out, HOF.out HK.out, Bool.and_true])
      cases hi : Pf.inB (k : Int) 2 8
      · have hi' := hide (Pf.inB_no hi)
        go_wp2_with fail
        refine (in_no hi'.out).mono ?_
        rintro e w1 ⟨rfl, hw1⟩
        obtain rfl : w = w1 := hw1.symm
        go_wp2_with fail
        go_ret
        exact ⟨ret_bool (H1.out.trans hi).symm, rfl⟩
      · have hi' := Pf.inB_yes hi
        go_wp2_with fail
        refine (in_yes hi'.1 hi'.2).mono ?_
        rintro e w1 ⟨rfl, hw1⟩
        obtain rfl : w = w1 := hw1.symm
        go_wp2_with fail
        go_ret
        exact ⟨ret_bool (H1.out.trans hi).symm, rfl⟩
theorem slr_eq {a : Option Addr} {n c : Nat} {C : List (List Int)} {w : World} {r : Bool} (hn : Hid (C.length = n)) (hl : n ≤ 1048576) (h : Hid (CRow w a C)) (hr : Hid (Nt.rowsB C = r)) :
    Calls Try.prog 33 #[.slice a n c] w fun e w' => e = .returned (.bool r) ∧ w' = w := hr.out ▸ slr_any hn.out hl h.out
set_option maxHeartbeats 1000000 in
theorem gn_any {a : Option Addr} {n c : Nat} {C : List (List Int)} {w : World} (hn : C.length = n) (h : CRow w a C) :
    Calls Try.prog 35 #[.slice a n c] w fun e w' => e = .returned (.bool (Nt.netB C)) ∧ w' = w := by
  have HN := hide hn
  have H := hide h
  cases hr : Nt.rowsB C
  · have HR := hide hr
    have H1 := hide (Nt.netB_no hr)
    generalize Nt.netB C = G at *
    clear h hn hr
    go_enter Try.func35, Try.ntmps35
    go_wp2_with fail
    refine (ahr_eq HN H HR).mono ?_
    rintro e w1 ⟨rfl, hw1⟩
    obtain rfl : w = w1 := hw1.symm
    go_wp2_with fail
    go_ret
    exact ⟨ret_bool H1.out.symm, rfl⟩
  · have HR := hide hr
    have HNOT := hide fun (i : Nat) (hi : i < C.length) (hh : Nt.at2 C i i ≠ 0) => Nt.netB_not hi hh
    have HOF := hide fun h => Nt.netB_of hr h
    rw [hn] at HNOT HOF
    have h8 := Nt.rowsB_len hr
    rw [hn] at h8
    obtain ⟨h2, h8⟩ := h8
    generalize Nt.netB C = G at *
    clear h hn hr
    go_enter Try.func35, Try.ntmps35
    go_wp2_with fail
    refine (ahr_eq HN H HR).mono ?_
    rintro e w1 ⟨rfl, hw1⟩
    obtain rfl : w = w1 := hw1.symm
    go_wp2_with fail
    go_loop [2, 3, 4, 10] (fun s2 _ _ s => ∃ (k : Nat), s2 = .bool false ∧ s = .int .i64 k ∧ k ≤ n ∧ Hid (∀ i, i < k → Nt.at2 C i i = 0)) (fun _ _ _ s => n - (intOf s).toNat)
    case atStart => exact ⟨0, rfl, rfl, Nat.zero_le _, hide fun i hi => absurd hi (Nat.not_lt_zero _)⟩
    case round =>
      obtain ⟨k, rfl, rfl, hk, HK⟩ := hrel
      by_cases hlt : k < n
      · obtain ⟨b, off, b', off', ci, rfl, r1, r2⟩ := crow_at2 H.out HN.out HR.out hlt hlt
        have j0 : (0 : Int) ≤ (k : Int) := by omega
        have j1 : (k : Int) < (n : Int) := by omega
        have HNK := hide (HNOT.out k hlt)
        have HKK : Hid (Nt.at2 C k k = 0 → ∀ i, i < k + 1 → Nt.at2 C i i = 0) := hide fun h0 i hi => by
          by_cases e : i = k
          · subst e; exact h0
          · exact HK.out i (by omega)
        generalize Nt.at2 C k k = x at *
        by_cases e : x = 0
        · subst e
          have H1 := hide (HKK.out rfl)
          go_wp2_with fail
          go_round
          case rel => exact ⟨k + 1, rfl, by go_num, by omega, H1⟩
          case measure => simp only [intOf]; omega
        · have H1 := hide (HNK.out e)
          have he : (x != (0 : Int)) = true := by simpa using e
          clear e
          go_wp2_with fail
          go_ret
          exact ⟨ret_bool H1.out.symm, rfl⟩
      · have hke : k = n := by omega
        subst hke
        have H1 := hide (HOF.out HK.out)
        go_wp2_with fail
        go_ret
        exact ⟨ret_bool H1.out.symm, rfl⟩
theorem gn_eq {a : Option Addr} {n c : Nat} {C : List (List Int)} {w : World} {r : Bool} (hn : Hid (C.length = n)) (h : Hid (CRow w a C)) (hr : Hid (Nt.netB C = r)) :
    Calls Try.prog 35 #[.slice a n c] w fun e w' => e = .returned (.bool r) ∧ w' = w := hr.out ▸ gn_any hn.out h.out
set_option maxHeartbeats 1000000 in
theorem sgn_any {a : Option Addr} {n c : Nat} {C : List (List Int)} {w : World} (hn : C.length = n) (hl : n ≤ 1048576) (h : CRow w a C) :
    Calls Try.prog 19 #[.slice a n c] w fun e w' => e = .returned (.bool (Nt.netB C)) ∧ w' = w := by
  have HN := hide hn
  have H := hide h
  cases hr : Nt.rowsB C
  · have HR := hide hr
    have H1 := hide (Nt.netB_no hr)
    generalize Nt.netB C = G at *
    clear h hn hr
    go_enter Try.func19, Try.ntmps19
    go_wp2_with fail
    refine (slr_eq HN hl H HR).mono ?_
    rintro e w1 ⟨rfl, hw1⟩
    obtain rfl : w = w1 := hw1.symm
    go_wp2_with fail
    go_ret
    exact ⟨ret_bool H1.out.symm, rfl⟩
  · have HR := hide hr
    have HNOT := hide fun (i : Nat) (hi : i < C.length) (hh : Nt.at2 C i i ≠ 0) => Nt.netB_not hi hh
    have HOF := hide fun h => Nt.netB_of hr h
    rw [hn] at HNOT HOF
    have h8 := Nt.rowsB_len hr
    rw [hn] at h8
    obtain ⟨h2, h8⟩ := h8
    generalize Nt.netB C = G at *
    clear h hn hr
    go_enter Try.func19, Try.ntmps19
    go_wp2_with fail
    refine (slr_eq HN hl H HR).mono ?_
    rintro e w1 ⟨rfl, hw1⟩
    obtain rfl : w = w1 := hw1.symm
    go_wp2_with fail
    go_loop [2, 3, 9] (fun s2 _ s => ∃ (k : Nat), s2 = .bool false ∧ s = .int .i64 k ∧ k ≤ n ∧ Hid (∀ i, i < k → Nt.at2 C i i = 0)) (fun _ _ s => n - (intOf s).toNat)
    case atStart => exact ⟨0, rfl, rfl, Nat.zero_le _, hide fun i hi => absurd hi (Nat.not_lt_zero _)⟩
    case round =>
      obtain ⟨k, rfl, rfl, hk, HK⟩ := hrel
      by_cases hlt : k < n
      · obtain ⟨b, off, b', off', ci, rfl, r1, r2⟩ := crow_at2 H.out HN.out HR.out hlt hlt
        have j0 : (0 : Int) ≤ (k : Int) := by omega
        have j1 : (k : Int) < (n : Int) := by omega
        have HNK := hide (HNOT.out k hlt)
        have HKK : Hid (Nt.at2 C k k = 0 → ∀ i, i < k + 1 → Nt.at2 C i i = 0) := hide fun h0 i hi => by
          by_cases e : i = k
          · subst e; exact h0
          · exact HK.out i (by omega)
        generalize Nt.at2 C k k = x at *
        by_cases e : x = 0
        · subst e
          have H1 := hide (HKK.out rfl)
          go_wp2_with fail
          go_round
          case rel => exact ⟨k + 1, rfl, by go_num, by omega, H1⟩
          case measure => simp only [intOf]; omega
        · have H1 := hide (HNK.out e)
          have he : (x != (0 : Int)) = true := by simpa using e
          clear e
          go_wp2_with fail
          go_ret
          exact ⟨ret_bool H1.out.symm, rfl⟩
      · have hke : k = n := by omega
        subst hke
        have H1 := hide (HOF.out HK.out)
        go_wp2_with fail
        go_ret
        exact ⟨ret_bool H1.out.symm, rfl⟩
theorem sgn_eq {a : Option Addr} {n c : Nat} {C : List (List Int)} {w : World} {r : Bool} (hn : Hid (C.length = n)) (hl : n ≤ 1048576) (h : Hid (CRow w a C)) (hr : Hid (Nt.netB C = r)) :
    Calls Try.prog 19 #[.slice a n c] w fun e w' => e = .returned (.bool r) ∧ w' = w := hr.out ▸ sgn_any hn.out hl h.out
theorem isum13 {a : Option Addr} {n c : Nat} {xs : List Int} {w : World} {S : Int} (hx : Hid (xs.length = n)) (hn : n ≤ 8) (ha : Hid (ARow w a xs)) (hg : Hid (Pf.allB xs 0 50 = true)) (hs : Hid (xs.sum = S)) :
    Calls Try.prog 58 #[.slice a n c] w fun e w' => e = .returned (.int .i64 S) ∧ w' = w := by
  have h1 := hx.out
  have h2 := hs.out
  subst h1 h2
  exact isum_any ha.out (by omega) (Pf.allB_of fun i hi => by have := Pf.inB_yes (Pf.allB_get hg.out hi); exact Pf.inB_of (by omega) (by omega))
set_option maxHeartbeats 1000000 in
theorem oli_any {a : Option Addr} {n c h : Nat} {C : List (List Int)} {w : World} (HN : Hid (C.length = n)) (hh : h < n) (HR : Hid (Nt.rowsB C = true)) (H : Hid (CRow w a C)) :
    Calls Try.prog 48 #[.slice a n c, .int .i64 (h : Int)] w fun e w' => e = .returned (.int .i64 (Nt.outI C h)) ∧ w' = w := by
  have h8 := Nt.rowsB_len HR.out
  rw [HN.out] at h8
  obtain ⟨h2, h8⟩ := h8
  have hrow := Nt.sqB_row (Nt.rowsB_sq HR.out) (i := h) (by rw [HN.out]; exact hh)
  have HE := hide (Nt.out_eq (c := C) (h := h) hrow.1)
  obtain ⟨b, off, ai, ci, rfl, hb, r1, R1⟩ := H.out.at (i := h) (by rw [HN.out]; exact hh)
  have HL : Hid ((C.getD h []).length = n) := hide (hrow.1.trans HN.out)
  have HAl := hide hrow.2
  have HR1 := hide R1
  have hS : 0 ≤ (C.getD h []).sum ∧ (C.getD h []).sum ≤ 400 := by
    have e1 := Nt.sum_list (C.getD h [])
    have e2 := Nt.sumTo_bd (f := fun k => (C.getD h []).getD k 0) (lo := 0) (hi := 50) n fun i hi => Pf.inB_yes (Pf.allB_get HAl.out (i := i) (by rw [HL.out]; exact hi))
    rw [HL.out] at e1
    rw [e1]
    omega
  obtain ⟨S, eS⟩ : ∃ S, (C.getD h []).sum = S := ⟨_, rfl⟩
  have HS := hide eS
  rw [eS] at HE hS
  obtain ⟨S0, S1⟩ := hS
  rw [HL.out] at r1
  rw [HN.out] at HE
  clear hrow R1 eS
  generalize Nt.outI C h = G at *
  have j0 : (0 : Int) ≤ (h : Int) := by omega
  have j1 : (h : Int) < (n : Int) := by omega
  go_enter Try.func48, Try.ntmps48
  go_wp2_with fail
  refine (isum13 HL h8 HR1 HAl HS).mono ?_
  rintro e w1 ⟨rfl, hw1⟩
  obtain rfl : w = w1 := hw1.symm
  go_wp2_with fail
  go_loop [5, 7, 15] (fun s5 _ s => ∃ (k : Nat) (x : Int), s5 = .int .i64 x ∧ s = .int .i64 k ∧ k ≤ n ∧ Hid (x = S - sumTo (fun k => Nt.at2 C k h) k)) (fun _ _ s => n - (intOf s).toNat)
  case atStart => exact ⟨0, S, rfl, rfl, Nat.zero_le _, hide (by simp [sumTo])⟩
  case round =>
    obtain ⟨k, x, rfl, rfl, hk, HX⟩ := hrel
    by_cases hlt : k < n
    · obtain ⟨b1, off1, b', off', ci', e1, r2, r3⟩ := crow_at2 H.out HN.out HR.out hlt hh
      cases e1
      have k0 : (0 : Int) ≤ (k : Int) := by omega
      have k1 : (k : Int) < (n : Int) := by omega
      have hbd := Nt.rowsB_bd HR.out (i := k) (k := h) (by rw [HN.out]; exact hlt) (by rw [HN.out]; exact hh)
      have hs := Nt.sumTo_bd (f := fun k => Nt.at2 C k h) (lo := 0) (hi := 50) k fun i hi => Nt.rowsB_bd HR.out (i := i) (k := h) (by rw [HN.out]; omega) (by rw [HN.out]; exact hh)
      have hx := HX.out
      have H1 : Hid (x - Nt.at2 C k h = S - sumTo (fun k => Nt.at2 C k h) (k + 1)) := hide (by rw [HX.out]; simp only [sumTo]; omega)
      generalize sumTo (fun k => Nt.at2 C k h) k = Z at hs hx
      generalize Nt.at2 C k h = y at *
      have x0 : -1000 ≤ x := by omega
      have x1 : x ≤ 1000 := by omega
      obtain ⟨y0, y1⟩ := hbd
      clear hs hx
      go_wp2_with fail
      go_round
      case rel => exact ⟨k + 1, x - y, by go_num, by go_num, by omega, H1⟩
      case measure => simp only [intOf]; omega
    · have hke : k = n := by omega
      subst hke
      have H1 : Hid (G = x) := hide (by rw [HX.out]; exact HE.out)
      go_wp2_with fail
      go_ret
      exact ⟨ret_int H1.out.symm, rfl⟩
end Go.Proofs.Ytdpjkblondoimab
namespace Go.Proofs.Ytdpjkblondoimab.Nt
open Bx (sumTo)

def roomAt (W F : List (List Int)) (i k : Nat) : Int := at2 W i k - at2 F i k + at2 F k i
def roomR (W F : List (List Int)) (i : Nat) : List Int := (List.range W.length).map (roomAt W F i)
def rooms (W F : List (List Int)) : List (List Int) := (List.range W.length).map (roomR W F)
theorem rooms_len (W F : List (List Int)) : (rooms W F).length = W.length := by simp [rooms]
theorem roomR_len (W F : List (List Int)) (i : Nat) : (roomR W F i).length = W.length := by simp [roomR]
theorem rooms_row (W F : List (List Int)) {i : Nat} (h : i < W.length) : (rooms W F).getD i [] = roomR W F i := by simp [rooms, h]
theorem roomR_at (W F : List (List Int)) {i k : Nat} (h : k < W.length) : (roomR W F i).getD k 0 = roomAt W F i k := by simp [roomR, h]
theorem rooms_at (W F : List (List Int)) {i k : Nat} (hi : i < W.length) (hk : k < W.length) : at2 (rooms W F) i k = roomAt W F i k := by rw [at2, rooms_row W F hi, roomR_at W F hk]
theorem rooms_snoc (W F : List (List Int)) {k : Nat} (hk : k < W.length) : (rooms W F).take k ++ [roomR W F k] = (rooms W F).take (k + 1) := by
  rw [List.take_add_one, List.getElem?_eq_getElem (by rw [rooms_len]; exact hk)]
  simp [rooms]
/-- Nowhere more than the width. -/
def withB (W F : List (List Int)) : Bool := (List.range W.length).all fun i => (List.range W.length).all fun k => decide (at2 F i k ≤ at2 W i k)
/-- As much in as out, but at the first hall and at the last one. -/
def passB (F : List (List Int)) : Bool := (List.range F.length).all fun i => decide (i = 0) || decide (F.length ≤ i + 1) || (outI F i == 0)
def flowB (W F : List (List Int)) : Bool := (rowsB F && decide (F.length = W.length)) && (withB W F && passB F)
/-- A flow of a net. -/
def nfB (W F : List (List Int)) : Bool := netB W && flowB W F
structure NF (W F : List (List Int)) : Prop where
  net : netB W = true
  rows : rowsB F = true
  len : F.length = W.length
  hi : ∀ i k, i < W.length → k < W.length → at2 F i k ≤ at2 W i k
  bal : ∀ i, 0 < i → i + 1 < W.length → outI F i = 0
theorem withB_iff {W F : List (List Int)} : withB W F = true ↔ ∀ i k, i < W.length → k < W.length → at2 F i k ≤ at2 W i k := by
  simp only [withB, List.all_eq_true, List.mem_range, decide_eq_true_eq]
  exact ⟨fun h i k hi hk => h i hi k hk, fun h i hi k hk => h i k hi hk⟩
theorem passB_iff {F : List (List Int)} : passB F = true ↔ ∀ i, 0 < i → i + 1 < F.length → outI F i = 0 := by
  simp only [passB, List.all_eq_true, List.mem_range, Bool.or_eq_true, decide_eq_true_eq, beq_iff_eq]
  refine ⟨fun h i h0 h1 => ?_, fun h i hi => ?_⟩
  · rcases h i (by omega) with (h | h) | h
    · omega
    · omega
    · exact h
  · by_cases e : i = 0
    · exact Or.inl (Or.inl e)
    · by_cases e2 : F.length ≤ i + 1
      · exact Or.inl (Or.inr e2)
      · exact Or.inr (h i (by omega) (by omega))
theorem nfB_iff {W F : List (List Int)} : nfB W F = true ↔ NF W F := by
  simp only [nfB, flowB, Bool.and_eq_true, decide_eq_true_eq, withB_iff, passB_iff]
  refine ⟨fun ⟨h1, ⟨h2, h3⟩, h4, h5⟩ => ⟨h1, h2, h3, h4, fun i h0 hi => h5 i h0 (by omega)⟩, fun h => ⟨h.net, ⟨h.rows, h.len⟩, h.hi, fun i h0 hi => h.bal i h0 (by rw [← h.len]; exact hi)⟩⟩
theorem NF.flow {W F : List (List Int)} (h : NF W F) : Fl.Flow W.length (at2 W) (at2 F) :=
  ⟨⟨fun i k hi hk => (rowsB_bd h.rows (i := i) (k := k) (by rw [h.len]; exact hi) (by rw [h.len]; exact hk)).1, h.hi⟩, fun i h0 hi => by have := h.bal i h0 hi; rw [outI, h.len] at this; exact this⟩
theorem NF.room_bd {W F : List (List Int)} (h : NF W F) {i k : Nat} (hi : i < W.length) (hk : k < W.length) : 0 ≤ roomAt W F i k ∧ roomAt W F i k ≤ 100 := by
  have h1 := rowsB_bd (netB_rows h.net) hi hk
  have h2 := rowsB_bd h.rows (i := i) (k := k) (by rw [h.len]; exact hi) (by rw [h.len]; exact hk)
  have h3 := rowsB_bd h.rows (i := k) (k := i) (by rw [h.len]; exact hk) (by rw [h.len]; exact hi)
  have h4 := h.hi i k hi hk
  unfold roomAt
  omega
/-- No flow at all. -/
def zeros (n : Nat) : List (List Int) := List.replicate n (List.replicate n 0)
theorem zeros_len (n : Nat) : (zeros n).length = n := by simp [zeros]
theorem zeros_row {n i : Nat} (h : i < n) : (zeros n).getD i [] = List.replicate n 0 := by simp [zeros, h]
theorem zeros_at (n i k : Nat) : at2 (zeros n) i k = 0 := by
  unfold at2
  by_cases h : i < n
  · rw [zeros_row h]
    by_cases hk : k < n <;> simp [hk]
  · simp [zeros, h]
theorem zeros_snoc {n k : Nat} (hk : k < n) : (zeros n).take k ++ [List.replicate n 0] = (zeros n).take (k + 1) := by
  rw [List.take_add_one, List.getElem?_eq_getElem (by rw [zeros_len]; exact hk)]
  simp [zeros]
theorem ex_zero {n : Nat} {f : Nat → Nat → Int} (h : ∀ i k, f i k = 0) (i : Nat) : Fl.ex n f i = 0 := by
  unfold Fl.ex
  have : sumTo (fun k => f i k - f k i) n = sumTo (fun _ => 0) n := Bx.sum_eq n fun k _ => by rw [h, h]; rfl
  rw [this, Bx.sum_const]; simp
theorem zeros_nf {W : List (List Int)} (h : netB W = true) : NF W (zeros W.length) := by
  have hl := rowsB_len (netB_rows h)
  refine ⟨h, ?_, zeros_len _, fun i k hi hk => ?_, fun i _ _ => ?_⟩
  · simp only [rowsB, Bool.and_eq_true]
    refine ⟨Pf.inB_of (by rw [zeros_len]; omega) (by rw [zeros_len]; omega), sqB_of fun i hi => ?_⟩
    rw [zeros_len] at hi ⊢
    rw [zeros_row hi, rowB_all (by simp)]
    exact Pf.allB_of fun j hj => by simp at hj; simp [hj, Pf.inB]
  · rw [zeros_at]; exact (rowsB_bd (netB_rows h) hi hk).1
  · rw [outI]; exact ex_zero (fun a b => zeros_at _ a b) i
/-- One number is another one. -/
def setM (F : List (List Int)) (i k : Nat) (x : Int) : List (List Int) := F.set i ((F.getD i []).set k x)
theorem setM_len (F : List (List Int)) (i k : Nat) (x : Int) : (setM F i k x).length = F.length := by simp [setM]
theorem setM_row (F : List (List Int)) (i k : Nat) (x : Int) (j : Nat) : ((setM F i k x).getD j []).length = (F.getD j []).length := by
  unfold setM
  by_cases hi : i < F.length
  · by_cases e : j = i
    · subst e; simp [hi]
    · simp [List.getElem?_set_ne (Ne.symm e)]
  · rw [List.set_eq_of_length_le (by omega)]
theorem setM_at {F : List (List Int)} {i k : Nat} {x : Int} (hi : i < F.length) (hk : k < (F.getD i []).length) (a b : Nat) : at2 (setM F i k x) a b = if a = i ∧ b = k then x else at2 F a b := by
  unfold at2 setM
  by_cases e : a = i
  · subst e
    simp only [List.getD_eq_getElem?_getD, List.getElem?_set_self hi, Option.getD_some, true_and]
    simp only [List.getD_eq_getElem?_getD] at hk
    by_cases e2 : b = k
    · subst e2; simp [List.getElem?_set_self hk]
    · rw [if_neg e2, List.getElem?_set_ne (Ne.symm e2)]
  · rw [if_neg (fun h => e h.1)]
    simp [List.getElem?_set_ne (Ne.symm e)]
/-- So much more from a to b: first less from b to a. -/
def stL (F : List (List Int)) (y : Int) (a b : Nat) : List (List Int) :=
  setM (setM F b a (at2 F b a - min y (at2 F b a))) a b (at2 (setM F b a (at2 F b a - min y (at2 F b a))) a b + (y - min y (at2 F b a)))
theorem stL_len (F : List (List Int)) (y : Int) (a b : Nat) : (stL F y a b).length = F.length := by simp [stL, setM_len]
theorem stL_row (F : List (List Int)) (y : Int) (a b j : Nat) : ((stL F y a b).getD j []).length = (F.getD j []).length := by simp only [stL, setM_row]
theorem stL_at {F : List (List Int)} {n a b : Nat} (y : Int) (hl : F.length = n) (hr : ∀ i, i < n → (F.getD i []).length = n) (ha : a < n) (hb : b < n) (hne : a ≠ b) (i k : Nat) : at2 (stL F y a b) i k = Fl.st (at2 F) y a b i k := by
  have h0 : at2 (setM F b a (at2 F b a - min y (at2 F b a))) a b = at2 F a b := by
    rw [setM_at (by omega) (by rw [hr b hb]; exact ha), if_neg (fun h => hne h.1)]
  rw [stL, setM_at (by rw [setM_len]; omega) (by rw [setM_row, hr a ha]; exact hb), h0]
  rw [setM_at (by omega) (by rw [hr b hb]; exact ha)]
  unfold Fl.st
  by_cases e1 : i = b ∧ k = a
  · rw [if_pos e1, if_pos e1, if_neg (fun e2 => hne (e2.1.symm.trans e1.1))]
  · rw [if_neg e1, if_neg e1]
/-- The first so many steps of a way. -/
def pushTo (y : Int) (F : List (List Int)) (P : List Int) : Nat → List (List Int)
  | 0 => F
  | k + 1 => stL (pushTo y F P k) y (P.getD k 0).toNat (P.getD (k + 1) 0).toNat
def pushL (y : Int) (F : List (List Int)) (P : List Int) : List (List Int) := pushTo y F P (P.length - 1)
theorem pushTo_len (y : Int) (F : List (List Int)) (P : List Int) : ∀ k, (pushTo y F P k).length = F.length
  | 0 => rfl
  | k + 1 => by rw [pushTo, stL_len, pushTo_len y F P k]
theorem pushTo_row (y : Int) (F : List (List Int)) (P : List Int) (j : Nat) : ∀ k, ((pushTo y F P k).getD j []).length = (F.getD j []).length
  | 0 => rfl
  | k + 1 => by rw [pushTo, stL_row, pushTo_row y F P j k]
/-- Halls of a way: unlike, each in the net, with room from each to the next one. -/
structure Way (R : List (List Int)) (n : Nat) (P : List Int) : Prop where
  len : 2 ≤ P.length
  first : P.getD 0 0 = 0
  last : P.getD (P.length - 1) 0 = (n : Int) - 1
  lo : ∀ i, i < P.length → 0 ≤ P.getD i 0 ∧ P.getD i 0 < n
  ne : ∀ i j, i < P.length → j < P.length → i ≠ j → P.getD i 0 ≠ P.getD j 0
  room : ∀ i, i + 1 < P.length → 0 < at2 R (P.getD i 0).toNat (P.getD (i + 1) 0).toNat
/-- Unlike numbers below n are at most n. -/
theorem few {P : List Int} {n k : Nat} (lo : ∀ i, i < k → 0 ≤ P.getD i 0 ∧ P.getD i 0 < n) (ne : ∀ i j, i < k → j < k → i ≠ j → P.getD i 0 ≠ P.getD j 0) : k ≤ n := by
  have hnd : ((List.range k).map fun i => (P.getD i 0).toNat).Nodup := by
    rw [List.nodup_iff_pairwise_ne, List.pairwise_map]
    refine List.Pairwise.imp_of_mem ?_ (List.nodup_iff_pairwise_ne.1 (List.nodup_range (n := k)))
    intro a b ha hb hab e
    rw [List.mem_range] at ha hb
    have h1 := lo a ha
    have h2 := lo b hb
    exact ne a b ha hb hab (by omega)
  have := hnd.length_le_of_subset (l₂ := List.range n) fun x hx => by
    obtain ⟨i, hi, rfl⟩ := List.mem_map.1 hx
    rw [List.mem_range] at hi ⊢
    have := lo i hi
    omega
  simpa using this
theorem Way.few {R : List (List Int)} {n : Nat} {P : List Int} (h : Way R n P) : P.length ≤ n := Nt.few h.lo h.ne
/-- The rooms along a way. -/
def along (R : List (List Int)) (P : List Int) : List Int := (List.range (P.length - 1)).map fun i => at2 R (P.getD i 0).toNat (P.getD (i + 1) 0).toNat
theorem along_len (R : List (List Int)) (P : List Int) : (along R P).length = P.length - 1 := by simp [along]
theorem along_at (R : List (List Int)) (P : List Int) {i : Nat} (h : i + 1 < P.length) : (along R P).getD i 0 = at2 R (P.getD i 0).toNat (P.getD (i + 1) 0).toNat := by
  have : i < P.length - 1 := by omega
  simp [along, this]
theorem along_snoc (R : List (List Int)) (P : List Int) {k : Nat} (hk : k + 1 < P.length) : (along R P).take k ++ [at2 R (P.getD k 0).toNat (P.getD (k + 1) 0).toNat] = (along R P).take (k + 1) := by
  rw [List.take_add_one, List.getElem?_eq_getElem (by rw [along_len]; omega)]
  simp [along]
/-- What holds behind the first so many steps of a push. -/
structure Psh (W F : List (List Int)) (y : Int) (P : List Int) (k : Nat) : Prop where
  cap : Fl.Cap W.length (at2 W) (at2 (pushTo y F P k))
  ex : ∀ i, Fl.ex W.length (at2 (pushTo y F P k)) i = Fl.ex W.length (at2 F) i + (if i = 0 then y else 0) - (if i = (P.getD k 0).toNat then y else 0)
  room : ∀ i, k ≤ i → i + 1 < P.length → y ≤ roomAt W (pushTo y F P k) (P.getD i 0).toNat (P.getD (i + 1) 0).toNat
theorem st_ext {F : List (List Int)} {f : Nat → Nat → Int} (h : ∀ i k, at2 F i k = f i k) : at2 F = f := funext fun i => funext fun k => h i k
theorem push_to {W F : List (List Int)} {y : Int} {P : List Int} (hf : NF W F) (hw : Way (rooms W F) W.length P) (hy : 0 ≤ y) (hle : ∀ i, i + 1 < P.length → y ≤ roomAt W F (P.getD i 0).toNat (P.getD (i + 1) 0).toNat) : ∀ k, k < P.length → Psh W F y P k
  | 0, _ => ⟨hf.flow.cap, fun i => by
      show Fl.ex W.length (at2 F) i = _
      rw [hw.first]
      show Fl.ex W.length (at2 F) i = Fl.ex W.length (at2 F) i + (if i = 0 then y else 0) - (if i = 0 then y else 0)
      omega, fun i _ hi => hle i hi⟩
  | k + 1, hk => by
    have ih := push_to hf hw hy hle k (by omega)
    have ha := hw.lo k (by omega)
    have hb := hw.lo (k + 1) hk
    have hne := hw.ne k (k + 1) (by omega) hk (by omega)
    obtain ⟨a, ea⟩ : ∃ a : Nat, P.getD k 0 = (a : Int) := ⟨(P.getD k 0).toNat, by omega⟩
    obtain ⟨b, eb⟩ : ∃ b : Nat, P.getD (k + 1) 0 = (b : Int) := ⟨(P.getD (k + 1) 0).toNat, by omega⟩
    have hab : a ≠ b := fun e => hne (by rw [ea, eb, e])
    have han : a < W.length := by omega
    have hbn : b < W.length := by omega
    have hstep : at2 (pushTo y F P (k + 1)) = Fl.st (at2 (pushTo y F P k)) y a b := st_ext fun i j => by
      rw [pushTo, ea, eb, Int.toNat_natCast, Int.toNat_natCast]
      exact stL_at y (by rw [pushTo_len, hf.len]) (fun i hi => by rw [pushTo_row, rowsB_row hf.rows (by rw [hf.len]; exact hi), hf.len]) han hbn hab i j
    have hr := ih.room k (Nat.le_refl _) hk
    rw [ea, eb, Int.toNat_natCast, Int.toNat_natCast] at hr
    refine ⟨?_, fun i => ?_, fun i hki hi => ?_⟩
    · rw [hstep]; exact Fl.st_cap ih.cap hab han hbn hy hr
    · rw [hstep, Fl.st_ex _ y hab han hbn i, ih.ex i, ea, eb, Int.toNat_natCast, Int.toNat_natCast]
      omega
    · have h1 := ih.room i (by omega) hi
      have hc := hw.lo i (by omega)
      have hd := hw.lo (i + 1) hi
      have n1 := hw.ne i k (by omega) (by omega) (by omega)
      have n2 := hw.ne (i + 1) k (by omega) (by omega) (by omega)
      unfold roomAt at h1 ⊢
      rw [hstep, Fl.st_else _ y (by omega) (by omega), Fl.st_else _ y (by omega) (by omega)]
      exact h1
theorem ex_out {F : List (List Int)} {n i : Nat} (hl : F.length = n) : outI F i = Fl.ex n (at2 F) i := by rw [outI, hl]
/-- What is pushed along a way is a flow, just so much more. -/
theorem push_nf {W F : List (List Int)} {y : Int} {P : List Int} (hf : NF W F) (hw : Way (rooms W F) W.length P) (hy : 0 ≤ y) (hle : ∀ i, i + 1 < P.length → y ≤ roomAt W F (P.getD i 0).toNat (P.getD (i + 1) 0).toNat) : NF W (pushL y F P) ∧ outI (pushL y F P) 0 = outI F 0 + y := by
  have h2 := hw.len
  have hp := push_to hf hw hy hle (P.length - 1) (by omega)
  have hW := rowsB_len (netB_rows hf.net)
  have hl : (pushL y F P).length = W.length := by rw [pushL, pushTo_len, hf.len]
  have hlast : (P.getD (P.length - 1) 0).toNat = W.length - 1 := by rw [hw.last]; omega
  refine ⟨⟨hf.net, ?_, hl, hp.cap.hi, fun i h0 hi => ?_⟩, ?_⟩
  · simp only [rowsB, Bool.and_eq_true]
    refine ⟨Pf.inB_of (by rw [hl]; omega) (by rw [hl]; omega), sqB_of fun i hi => ?_⟩
    have hrow : ((pushL y F P).getD i []).length = W.length := by rw [pushL, pushTo_row, rowsB_row hf.rows (by rw [hf.len, ← hl]; exact hi), hf.len]
    rw [hl] at hi ⊢
    rw [rowB_all hrow]
    refine Pf.allB_of fun j hj => ?_
    rw [hrow] at hj
    have h1 := hp.cap.lo i j hi hj
    have h2 := hp.cap.hi i j hi hj
    have h3 := rowsB_bd (netB_rows hf.net) hi hj
    exact Pf.inB_of h1 (by show at2 (pushL y F P) i j ≤ 50; unfold pushL; omega)
  · rw [ex_out hl, pushL, hp.ex i, hlast, if_neg (by omega), if_neg (by omega)]
    have := hf.bal i h0 hi
    rw [ex_out hf.len] at this
    omega
  · rw [ex_out hl, pushL, hp.ex 0, hlast, if_pos rfl, if_neg (by omega), ex_out hf.len]; omega
end Go.Proofs.Ytdpjkblondoimab.Nt
namespace Go.Proofs.Ytdpjkblondoimab
open Go.RowKit

theorem mem9 {α : Type} (l : List α) (d : α) {i : Nat} (h : i < l.length) : l.getD i d ∈ l := by rw [List.getD_eq_getElem?_getD, List.getElem?_eq_getElem h]; exact List.getElem_mem h
theorem add_plain9 (b o j : Nat) : (⟨b, o, none⟩ : Addr).add j = ⟨b, o + j, none⟩ := by unfold Addr.add; split <;> simp_all
/-- One value more behind an owned list, and where it lies then. -/
theorem push_9 {w : World} {base n e t bytes : Nat} {z x v : Value} {xs : List Value} (hu : Try.prog.underlying t = some (.slice e)) (hinf : ∃ i, Try.prog.info? e = some i ∧ i.zero = some z ∧ i.size = 1 ∧ i.bytes = bytes) (hz : z.cells.size = 1) (hx : x.oneCell' = true) (h24 : bytes ≤ 24) (hown : w.ownsRow base e 1 v n xs) (hn : n ≤ 100000) (hb : base ≤ w.heap.size) :
    ∃ g cap w', (∀ ty, (Builtin.append_ #[t, t] ty #[v, .slice (some ⟨w.heap.size, 0, none⟩) 1 1]).run Try.prog (w.alloc (.cells #[x] e)) = .ok (.slice (some ⟨g, 0, none⟩) (n + 1) cap) w') ∧ w'.ownsRow base e 1 (.slice (some ⟨g, 0, none⟩) (n + 1) cap) (n + 1) (xs ++ [x]) ∧ (w.alloc (.cells #[x] e)).grownBy w' v.ownBlock ∧ (v.ownBlock = some g ∨ g = w.heap.size + 1) := by
  obtain ⟨i0, hi, hz0, hz1, hz2⟩ := hinf
  have hby : (n + 1) * bytes ≤ 100001 * 24 := Nat.mul_le_mul (by omega) h24
  obtain ⟨g, cap, w', h1, h2, h3, h4, _⟩ := run_append_lies (P := Try.prog) (w := w.alloc (.cells #[x] e)) t 0 base e i0 _ 1 bytes hu hi hz0 hz1 hz2 hz (by decide) v n xs (hown.alloc _) ⟨w.heap.size, 0, none⟩ 1 1 [x] rfl (fun j u hj => by
      have hj2 : j = 0 := by
        have := (List.getElem?_eq_some_iff.1 hj).1
        simp at this; omega
      subst hj2
      rw [add_plain9]
      simp at hj; subst hj; simp) (fun u hu => by simp at hu; subst hu; exact hx) (by omega) (by unfold maxLen; omega) (by omega) (by simp; omega) _ rfl
  refine ⟨g, cap, w', fun _ => h1, h2, h3, ?_⟩
  rcases h4 with h4 | h4
  · exact Or.inl h4
  · exact Or.inr (by rw [h4]; simp)
theorem step_append_run9 {P : Program} {w : World} {ops : Array Oper} {o : Oper} {a : Act} {K : Act → World → Prop} {Q : Exit → Act → World → Prop} {E : Prop} (hgd : o.guard = none) (d s : Operand) (t t' : TypeId)
    (ho : o.op = .call { callee := .builtin .append, args := #[d, s], argTypes := #[t, t'] }) (vd vs : Value) (hd : a.eval d = vd) (hs : a.eval s = vs)
    (v' : Value) (w' : World) (hr : (Builtin.append_ #[t, t'] o.type #[vd, vs]).run P w = .ok v' w') (h : K (a.put o.dst v') w') :
    if Region.wanted o (yielded ops a.tmps) = true then Oper.wp P o a w K Q else E := by
  have hw : Region.wanted o (yielded ops a.tmps) = true := by simp [Region.wanted, hgd]
  rw [if_pos hw]
  unfold Oper.wp execOp
  simp only [ho, resolve, invoke, builtin, Sem.run_bind, Sem.run_pure, Result.andThen_ok, List.map_toArray, List.map_cons, List.map_nil, hd, hs, hr]
  exact h
end Go.Proofs.Ytdpjkblondoimab
namespace Go.Proofs.Ytdpjkblondoimab
open Go.RowKit

theorem own_form2 {w : World} {base e s n : Nat} {v : Value} {xs : List Value} (h : w.ownsRow base e s v n xs) : ∃ a cap, v = .slice a n cap := by
  rcases h.2 with ⟨rfl, hn⟩ | ⟨g, cap, cur, rfl, _⟩
  · exact ⟨none, 0, by rw [hn]⟩
  · exact ⟨_, _, rfl⟩
theorem own_keep2 {w w' : World} {base e s n : Nat} {v : Value} {xs : List Value} (h : w.ownsRow base e s v n xs) (hb : ∀ g, v.ownBlock = some g → g < w.heap.size → w'.heap[g]? = w.heap[g]?) : w'.ownsRow base e s v n xs := by
  rcases h with ⟨h0, h | ⟨g', cap, cur, rfl, h2, h3, h4⟩⟩
  · exact ⟨h0, Or.inl h⟩
  · exact ⟨h0, Or.inr ⟨g', cap, cur, rfl, h2, (hb g' rfl (Array.getElem?_eq_some_iff.1 h3).1).trans h3, h4⟩⟩
theorem own_below2 {w w' : World} {base e s n : Nat} {v : Value} {xs : List Value} (h : w.ownsRow base e s v n xs) (hb : Below w.heap.size w w') : w'.ownsRow base e s v n xs := own_keep2 h fun _ _ hl => hb.block _ hl
theorem own_low2 {w : World} {base base' e s n : Nat} {v : Value} {xs : List Value} (h : w.ownsRow base e s v n xs) (hb : base' ≤ base) : w.ownsRow base' e s v n xs := by
  rcases h with ⟨h0, h | ⟨g, cap, cur, h1, h2, h3⟩⟩
  · exact ⟨h0, Or.inl h⟩
  · exact ⟨h0, Or.inr ⟨g, cap, cur, h1, Nat.le_trans hb h2, h3⟩⟩
theorem infoS : ∃ i, Try.prog.info? 24 = some i ∧ i.zero = some (.slice none 0 0) ∧ i.size = 1 ∧ i.bytes = 24 := by
  have h : (Try.prog.info? 24).map (fun i => (i.zero, i.size, i.bytes)) = some (some (.slice none 0 0), 1, 24) := by kernel_rfl
  obtain ⟨i, hi, hzz⟩ := Option.map_eq_some_iff.1 h
  simp only [Prod.mk.injEq] at hzz
  exact ⟨i, hi, hzz.1, hzz.2.1, hzz.2.2⟩
def nilS : Value := .slice none 0 0
def LL {α : Type} (W : World) (base T E s : Nat) (enc : List α → List Value) (v : Value) (us : List Value) (R : List (List α)) : Prop :=
  W.ownsRow base T 1 v R.length us ∧ (∀ i, i < R.length → W.ownsRow base E s (us.getD i nilS) (R.getD i []).length (enc (R.getD i []))) ∧
  (∀ i g, i < R.length → (us.getD i nilS).ownBlock = some g → v.ownBlock ≠ some g) ∧
  (∀ i j g, i < R.length → j < R.length → i ≠ j → (us.getD i nilS).ownBlock = some g → (us.getD j nilS).ownBlock ≠ some g)
theorem LL.len {α : Type} {W : World} {base T E s : Nat} {enc : List α → List Value} {v : Value} {us : List Value} {R : List (List α)} (h : LL W base T E s enc v us R) : us.length = R.length := by
  have := h.1.1; omega
theorem LL.nil {α : Type} (W : World) (base T E s : Nat) (enc : List α → List Value) : LL W base T E s enc nilS [] ([] : List (List α)) :=
  ⟨World.ownsRow_nil _ _ _ _, fun _ hi => absurd hi (Nat.not_lt_zero _), fun _ _ hi => absurd hi (Nat.not_lt_zero _), fun _ _ _ hi => absurd hi (Nat.not_lt_zero _)⟩
theorem LL.keep {α : Type} {W W' : World} {base T E s : Nat} {enc : List α → List Value} {v : Value} {us : List Value} {R : List (List α)} (h : LL W base T E s enc v us R) (hb : ∀ g, base ≤ g → g < W.heap.size → W'.heap[g]? = W.heap[g]?) : LL W' base T E s enc v us R :=
  ⟨own_keep2 h.1 fun g hv hl => hb g (h.1.lt g hv).1 hl, fun i hi => own_keep2 (h.2.1 i hi) fun g hv hl => hb g ((h.2.1 i hi).lt g hv).1 hl, h.2.2⟩
theorem LL.below {α : Type} {W W' : World} {base T E s : Nat} {enc : List α → List Value} {v : Value} {us : List Value} {R : List (List α)} (h : LL W base T E s enc v us R) (hb : Below W.heap.size W W') : LL W' base T E s enc v us R := h.keep fun g _ hl => hb.block g hl
theorem LL.form {α : Type} {W : World} {base T E s : Nat} {enc : List α → List Value} {v : Value} {us : List Value} {R : List (List α)} (h : LL W base T E s enc v us R) : ∃ a c, v = .slice a R.length c := own_form2 h.1
theorem LL.cell {α : Type} {W : World} {base T E s G cap : Nat} {enc : List α → List Value} {us : List Value} {R : List (List α)} (h : LL W base T E s enc (.slice (some ⟨G, 0, none⟩) R.length cap) us R) {i : Nat} (hi : i < R.length) : W.cell? ⟨G, i, none⟩ = some (us.getD i nilS) := by
  have hl := h.len
  rw [h.1.cellAt i (by omega), List.getD_eq_getElem?_getD, List.getElem?_eq_getElem (by omega)]; rfl
theorem getD_set' {α : Type} {l : List α} {i b : Nat} {x d : α} (hi : i < l.length) : (l.set i x).getD b d = if b = i then x else l.getD b d := by
  by_cases e : b = i
  · subst e; simp [hi]
  · rw [if_neg e]; simp [Ne.symm e]
theorem getD_snoc {α : Type} {l : List α} {b : Nat} {x d : α} (hb : b < l.length + 1) : (l ++ [x]).getD b d = if b = l.length then x else l.getD b d := by
  by_cases e : b = l.length
  · subst e; simp
  · rw [if_neg e]; simp [List.getElem?_append_left (show b < l.length by omega)]
/-- A row in place i is another one now. -/
theorem LL.put {α : Type} {W W' : World} {base T E s G cap i : Nat} {enc : List α → List Value} {us : List Value} {R : List (List α)} {u' : Value} {r' : List α} (h : LL W base T E s enc (.slice (some ⟨G, 0, none⟩) R.length cap) us R) (hi : i < R.length)
    (hB : ∀ b, b < W.heap.size → some b ≠ (us.getD i nilS).ownBlock → W'.heap[b]? = W.heap[b]?) (_hs : W.heap.size ≤ W'.heap.size) (hu : W'.ownsRow base E s u' r'.length (enc r')) (hf : ∀ g, u'.ownBlock = some g → (us.getD i nilS).ownBlock = some g ∨ W.heap.size ≤ g) :
    LL (W'.setCell ⟨G, i, none⟩ u') base T E s enc (.slice (some ⟨G, 0, none⟩) R.length cap) (us.set i u') (R.set i r') := by
  have hl := h.len
  have hG : G < W.heap.size := (h.1.lt G rfl).2
  have hGi : ∀ j, j < R.length → (us.getD j nilS).ownBlock ≠ some G := fun j hj e => h.2.2.1 j G hj e rfl
  have hG' : W'.ownsRow base T 1 (.slice (some ⟨G, 0, none⟩) R.length cap) R.length us := own_keep2 h.1 fun g hv hl' => hB g hl' (fun e => by
    obtain rfl : G = g := by simpa [Value.ownBlock] using hv
    exact hGi i hi e.symm)
  have huG : u'.ownBlock ≠ some G := fun e => by
    rcases hf G e with e' | e'
    · exact hGi i hi e'
    · omega
  have far : ∀ g, g ≠ G → (W'.setCell ⟨G, i, none⟩ u').heap[g]? = W'.heap[g]? := fun g hg => Below.heap_setCell W' ⟨G, i, none⟩ u' g hg
  refine ⟨by rw [List.length_set]; exact (hG'.stored i u').1, fun j hj => ?_, fun j g hj he => ?_, fun j k g hj hk hne he => ?_⟩
  · rw [List.length_set] at hj
    rw [getD_set' (by omega), getD_set' hi]
    by_cases e : j = i
    · rw [if_pos e, if_pos e]
      exact own_keep2 hu fun g hv _ => far g (fun e' => huG (e' ▸ hv))
    · rw [if_neg e, if_neg e]
      refine own_keep2 (own_keep2 (h.2.1 j hj) fun g hv hl' => hB g hl' (fun e' => h.2.2.2 j i g hj hi e hv e'.symm)) fun g hv _ => far g (fun e' => hGi j hj (e' ▸ hv))
  · rw [List.length_set] at hj
    rw [getD_set' (by omega)] at he
    intro e2
    obtain rfl : G = g := by simpa [Value.ownBlock] using e2
    by_cases e : j = i
    · rw [if_pos e] at he; exact huG he
    · rw [if_neg e] at he; exact hGi j hj he
  · rw [List.length_set] at hj hk
    rw [getD_set' (by omega)] at he ⊢
    by_cases e1 : j = i
    · subst e1
      rw [if_pos rfl] at he
      rw [if_neg (Ne.symm hne)]
      intro e2
      rcases hf g he with e' | e'
      · exact h.2.2.2 j k g hj hk hne e' e2
      · have := ((h.2.1 k hk).lt g e2).2; omega
    · rw [if_neg e1] at he
      by_cases e2 : k = i
      · subst e2
        rw [if_pos rfl]
        intro e3
        rcases hf g e3 with e' | e'
        · exact h.2.2.2 j k g hj hk hne he e'
        · have := ((h.2.1 j hj).lt g he).2; omega
      · rw [if_neg e2]; exact h.2.2.2 j k g hj hk hne he
/-- One row more. -/
theorem LL.snoc {α : Type} {W W' : World} {base T E s : Nat} {enc : List α → List Value} {v v' : Value} {us : List Value} {R : List (List α)} {u : Value} {r : List α} (h : LL W base T E s enc v us R)
    (hv : W'.ownsRow base T 1 v' (R.length + 1) (us ++ [u])) (hB : ∀ b, b < W.heap.size → some b ≠ v.ownBlock → W'.heap[b]? = W.heap[b]?) (hf : ∀ g, v'.ownBlock = some g → v.ownBlock = some g ∨ W.heap.size ≤ g)
    (hu : W'.ownsRow base E s u r.length (enc r)) (huf : ∀ g, u.ownBlock = some g → W.heap.size ≤ g ∧ v'.ownBlock ≠ some g) :
    LL W' base T E s enc v' (us ++ [u]) (R ++ [r]) := by
  have hl := h.len
  refine ⟨by rw [List.length_append]; exact hv, fun j hj => ?_, fun j g hj he => ?_, fun j k g hj hk hne he => ?_⟩
  · rw [List.length_append] at hj
    simp only [List.length_cons, List.length_nil] at hj
    rw [getD_snoc (by omega), getD_snoc hj, hl]
    by_cases e : j = R.length
    · rw [if_pos e, if_pos e]; exact hu
    · rw [if_neg e, if_neg e]
      exact own_keep2 (h.2.1 j (by omega)) fun g hv' hl' => hB g hl' (fun e' => h.2.2.1 j g (by omega) hv' e'.symm)
  · rw [List.length_append] at hj
    simp only [List.length_cons, List.length_nil] at hj
    rw [getD_snoc (by omega), hl] at he
    intro e2
    by_cases e : j = R.length
    · rw [if_pos e] at he; exact (huf g he).2 e2
    · rw [if_neg e] at he
      rcases hf g e2 with e' | e'
      · exact h.2.2.1 j g (by omega) he e'
      · have := ((h.2.1 j (by omega)).lt g he).2; omega
  · rw [List.length_append] at hj hk
    simp only [List.length_cons, List.length_nil] at hj hk
    rw [getD_snoc (by omega), hl] at he ⊢
    by_cases e1 : j = R.length
    · rw [if_pos e1] at he
      rw [if_neg (by omega)]
      intro e2
      have h1 := (huf g he).1
      have h2 := ((h.2.1 k (by omega)).lt g e2).2
      omega
    · rw [if_neg e1] at he
      by_cases e2 : k = R.length
      · rw [if_pos e2]
        intro e3
        have h1 := (huf g e3).1
        have h2 := ((h.2.1 j (by omega)).lt g he).2
        omega
      · rw [if_neg e2]; exact h.2.2.2 j k g (by omega) (by omega) hne he
/-- Lists of ints can be read. -/
theorem LL.crow {W : World} {base T E : Nat} {a : Option Addr} {c : Nat} {us : List Value} {R : List (List Int)} (h : LL W base T E 1 ints (.slice a R.length c) us R) : CRow W a R := by
  rcases h.1.2 with ⟨hv, hn⟩ | ⟨g, cap, cur, hv, _, hg, _⟩
  · exact Or.inl (List.length_eq_zero_iff.1 hn)
  · cases hv
    refine Or.inr ⟨g, 0, rfl, (Array.getElem?_eq_some_iff.1 hg).1, fun i hi => ?_⟩
    have ho := h.2.1 i hi
    have hc := h.cell hi
    rw [Nat.zero_add, hc]
    rcases ho.2 with ⟨hv, hn⟩ | ⟨g', cap', cur', hv, _⟩
    · exact ⟨none, 0, by rw [hv, hn], Or.inl (List.length_eq_zero_iff.1 hn)⟩
    · refine ⟨some ⟨g', 0, none⟩, cap', by rw [hv], ?_⟩
      rw [hv] at ho
      exact arow_owns rfl ho
theorem LL.keep2 {α : Type} {W W' : World} {base T E s : Nat} {enc : List α → List Value} {v : Value} {us : List Value} {R : List (List α)} (h : LL W base T E s enc v us R) (hb : ∀ g, g < W.heap.size → (v.ownBlock = some g ∨ ∃ i, i < R.length ∧ (us.getD i nilS).ownBlock = some g) → W'.heap[g]? = W.heap[g]?) : LL W' base T E s enc v us R :=
  ⟨own_keep2 h.1 fun g hv hl => hb g hl (Or.inl hv), fun i hi => own_keep2 (h.2.1 i hi) fun g hv hl => hb g hl (Or.inr ⟨i, hi, hv⟩), h.2.2⟩
/-- A list more, which lies behind all. -/
theorem LL.pushRow {W V : World} {base : Nat} {v : Value} {us : List Value} {R : List (List Int)} {r : List Int} {u : Value} (h : LL W base 24 3 1 ints v us R) (hV : Below W.heap.size W V) (hu : V.ownsRow W.heap.size 3 1 u r.length (ints r)) (hu1 : u.oneCell' = true) (hn : R.length ≤ 1000) (hb : base ≤ W.heap.size) :
    ∃ G cap w1, (∀ ty, (Builtin.append_ #[22, 22] ty #[v, .slice (some ⟨V.heap.size, 0, none⟩) 1 1]).run Try.prog (V.alloc (.cells #[u] 24)) = .ok (.slice (some ⟨G, 0, none⟩) (R.length + 1) cap) w1) ∧
      LL w1 base 24 3 1 ints (.slice (some ⟨G, 0, none⟩) (R.length + 1) cap) (us ++ [u]) (R ++ [r]) ∧ Below base W w1 := by
  have hv := own_below2 h.1 hV
  obtain ⟨G, cap, w1, r1, o1, g1, f1⟩ := push_9 (x := u) Try.underlying22 infoS rfl hu1 (by omega) hv (by omega) (Nat.le_trans hb hV.size)
  have k1 : ∀ b, b < V.heap.size → some b ≠ v.ownBlock → w1.heap[b]? = V.heap[b]? := fun b hb' hne => (g1.block b (by simp; omega) hne).trans ((below_new V _).block b hb')
  have z1 : V.heap.size ≤ w1.heap.size := Nat.le_trans (by simp) g1.size
  have z0 := hV.size
  have hG : (Value.slice (some ⟨G, 0, none⟩) (R.length + 1) cap).ownBlock = some G := rfl
  refine ⟨G, cap, w1, r1, h.snoc o1 (fun b hb' hne => (k1 b (by omega) hne).trans (hV.block b hb')) (fun g e => ?_) (own_low2 (own_keep2 hu fun g hv' hl => k1 g hl (fun e => ?_)) hb) (fun g e => ⟨(hu.lt g e).1, fun e2 => ?_⟩), ?_⟩
  · rw [hG] at e; cases e
    rcases f1 with f1 | f1
    · exact Or.inl f1
    · exact Or.inr (by omega)
  · have h1 := (hu.lt g hv').1
    have h2 := (h.1.lt g e.symm).2
    omega
  · rw [hG] at e2; cases e2
    have h1 := hu.lt G e
    rcases f1 with f1 | f1
    · have := (h.1.lt G f1).2; omega
    · omega
  · exact ⟨g1.os.trans hV.os, g1.tape.trans hV.tape, g1.output.trans hV.output, by omega, fun b hb' => (k1 b (by omega) (fun e => by have := (hv.lt b e.symm).1; omega)).trans (hV.block b (by omega))⟩
/-- One number in row i is another one now. -/
theorem LL.write {W : World} {base T i k : Nat} {v : Value} {us : List Value} {R : List (List Int)} {x : Int} (h : LL W base T 3 1 ints v us R) (hi : i < R.length) (hk : k < (R.getD i []).length) :
    ∃ g c, us.getD i nilS = .slice (some ⟨g, 0, none⟩) (R.getD i []).length c ∧ W.cell? ⟨g, k, none⟩ = some (.int .i64 ((R.getD i []).getD k 0)) ∧ W.frozen? ⟨g, k, none⟩ = false ∧ base ≤ g ∧ g < W.heap.size ∧
      LL (W.setCell ⟨g, k, none⟩ (.int .i64 x)) base T 3 1 ints v us (R.set i ((R.getD i []).set k x)) := by
  have ho := h.2.1 i hi
  have hl := h.len
  obtain ⟨g, c, e, _, _⟩ := ho.form (by omega)
  rw [e] at ho
  have hgi : (us.getD i nilS).ownBlock = some g := by rw [e]; rfl
  obtain ⟨st1, st2⟩ := ho.stored k (.int .i64 x)
  rw [ints_set] at st1
  have far : ∀ b, b ≠ g → (W.setCell ⟨g, k, none⟩ (.int .i64 x)).heap[b]? = W.heap[b]? := fun b hb => Below.heap_setCell W ⟨g, k, none⟩ _ b hb
  refine ⟨g, c, e, ?_, ho.frozenAt k, (ho.lt g rfl).1, (ho.lt g rfl).2, ⟨?_, fun j hj => ?_, fun j b hj he => h.2.2.1 j b (by rwa [List.length_set] at hj) he, fun j l b hj hl' hne he => h.2.2.2 j l b (by rwa [List.length_set] at hj) (by rwa [List.length_set] at hl') hne he⟩⟩
  · rw [ho.cellAt k (by omega), ints_get _ k hk]
  · rw [List.length_set]
    exact own_keep2 h.1 fun b hv _ => far b (fun e' => h.2.2.1 i g hi hgi (e' ▸ hv))
  · rw [List.length_set] at hj
    rw [getD_set' hi]
    by_cases e' : j = i
    · subst e'
      rw [if_pos rfl, List.length_set, e]
      exact st1
    · rw [if_neg e']
      exact own_keep2 (h.2.1 j hj) fun b hv _ => far b (fun e2 => h.2.2.2 j i g hj hi e' (e2 ▸ hv) hgi)
theorem LL.low {W : World} {base base' T : Nat} {v : Value} {us : List Value} {R : List (List Int)} (h : LL W base T 3 1 ints v us R) (hb : base' ≤ base) : LL W base' T 3 1 ints v us R :=
  ⟨own_low2 h.1 hb, fun i hi => own_low2 (h.2.1 i hi) hb, h.2.2⟩
/-- One number, in memory. -/
theorem LL.at2 {W : World} {base T i k n cap G : Nat} {us : List Value} {R : List (List Int)} (h : LL W base T 3 1 ints (.slice (some ⟨G, 0, none⟩) n cap) us R) (hn : R.length = n) (hi : i < n) (hk : k < (R.getD i []).length) :
    ∃ g c, W.cell? ⟨G, i, none⟩ = some (.slice (some ⟨g, 0, none⟩) (R.getD i []).length c) ∧ us.getD i nilS = .slice (some ⟨g, 0, none⟩) (R.getD i []).length c ∧ W.cell? ⟨g, k, none⟩ = some (.int .i64 ((R.getD i []).getD k 0)) := by
  subst hn
  obtain ⟨g, c, e, h1, _⟩ := h.write (x := 0) hi hk
  exact ⟨g, c, by rw [← e]; exact h.cell hi, e, h1⟩
end Go.Proofs.Ytdpjkblondoimab
namespace Go.Proofs.Ytdpjkblondoimab
open Go.RowKit

set_option maxHeartbeats 2000000 in
theorem slm_q {aw af : Option Addr} {n c d i k : Nat} {W F : List (List Int)} {w : World} (HN : Hid (W.length = n)) (hi : i < n) (hk : k < n) (HF : Hid (Nt.NF W F)) (HW : Hid (CRow w aw W)) (HA : Hid (CRow w af F)) :
    Calls Try.prog 26 #[.slice aw n c, .slice af n d, .int .i64 (i : Int), .int .i64 (k : Int)] w fun e w' => e = .returned (.int .i64 (Nt.roomAt W F i k)) ∧ ∃ q, w' = w.drewN q := by
  have hFn : F.length = n := HF.out.len.trans HN.out
  obtain ⟨b, off, b', off', ci, rfl, r1, r2⟩ := crow_at2 HW.out HN.out (Nt.netB_rows HF.out.net) hi hk
  obtain ⟨b1, off1, b2, off2, ci2, rfl, r3, r4⟩ := crow_at2 HA.out hFn HF.out.rows hi hk
  obtain ⟨b5, off5, b3, off3, ci3, e5, r5, r6⟩ := crow_at2 HA.out hFn HF.out.rows hk hi
  cases e5
  have h1 := Nt.rowsB_bd (Nt.netB_rows HF.out.net) (i := i) (k := k) (by rw [HN.out]; exact hi) (by rw [HN.out]; exact hk)
  have h2 := Nt.rowsB_bd HF.out.rows (i := i) (k := k) (by omega) (by omega)
  have h3 := Nt.rowsB_bd HF.out.rows (i := k) (k := i) (by omega) (by omega)
  unfold Nt.roomAt
  generalize Nt.at2 W i k = x at *
  generalize Nt.at2 F i k = y at *
  generalize Nt.at2 F k i = z at *
  obtain ⟨x0, x1⟩ := h1
  obtain ⟨y0, y1⟩ := h2
  obtain ⟨z0, z1⟩ := h3
  have i0 : (0 : Int) ≤ (i : Int) := by omega
  have i1 : (i : Int) < (n : Int) := by omega
  have k0 : (0 : Int) ≤ (k : Int) := by omega
  have k1 : (k : Int) < (n : Int) := by omega
  clear HN HF HW HA hFn
  go_enter Try.func26, Try.ntmps26
  go_wp2_with fail
  go_quiet (fail)
  go_wp2_with fail
  go_ret
  exact ⟨ret_int (by go_num), _, rfl⟩
theorem slm_any {aw af : Option Addr} {n c d i k : Nat} {W F : List (List Int)} {w : World} (HN : Hid (W.length = n)) (hi : i < n) (hk : k < n) (HF : Hid (Nt.NF W F)) (HW : Hid (CRow w aw W)) (HA : Hid (CRow w af F)) :
    Calls Try.prog 26 #[.slice aw n c, .slice af n d, .int .i64 (i : Int), .int .i64 (k : Int)] w fun e w' => e = .returned (.int .i64 (Nt.roomAt W F i k)) ∧ Below w.heap.size w w' :=
  (slm_q HN hi hk HF HW HA).mono fun _ _ ⟨h1, _, h2⟩ => ⟨h1, h2 ▸ below_drewN (Below.refl _ _) _⟩
theorem set_snoc {α : Type} (l : List α) (z y : α) {k : Nat} (hk : l.length = k) : (l ++ [z]).set k y = l ++ [y] := by subst hk; simp
theorem getD_end {α : Type} (l : List α) (z d : α) {k : Nat} (hk : l.length = k) : (l ++ [z]).getD k d = z := by subst hk; simp
set_option maxRecDepth 100000 in
set_option maxHeartbeats 8000000 in
theorem ro13_any {aw af : Option Addr} {n c d : Nat} {W F : List (List Int)} {w : World} (HN : Hid (W.length = n)) (HF : Hid (Nt.NF W F)) (HW : Hid (CRow w aw W)) (HA : Hid (CRow w af F)) :
    Calls Try.prog 24 #[.slice aw n c, .slice af n d] w fun e w' => ∃ v us, e = .returned v ∧ LL w' w.heap.size 24 3 1 ints v us (Nt.rooms W F) ∧ Below w.heap.size w w' := by
  have hFn : Hid (F.length = n) := hide (HF.out.len.trans HN.out)
  have HRW := hide (Nt.netB_rows HF.out.net)
  have h8 := Nt.rowsB_len HRW.out
  rw [HN.out] at h8
  obtain ⟨h2, h8⟩ := h8
  have hmk := makeI_run n (by omega)
  have HLR : Hid ((Nt.rooms W F).length = n) := hide ((Nt.rooms_len W F).trans HN.out)
  go_enter Try.func24, Try.ntmps24
  go_wp2_with fail
  go_loopw [5, 6, 7, 8, 9, 12] (fun s5 _ _ _ _ sk wr => ∃ (k : Nat) (us : List Value), sk = .int .i64 k ∧ k ≤ n ∧ Hid (LL wr w.heap.size 24 3 1 ints s5 us ((Nt.rooms W F).take k)) ∧ Hid (Below w.heap.size w wr)) (fun _ _ _ _ _ sk _ => n - (intOf sk).toNat)
  case atStart => exact ⟨0, [], rfl, Nat.zero_le _, hide (LL.nil _ _ _ _ _ _), hide (Below.refl _ _)⟩
  case round =>
    obtain ⟨k, us, rfl, hk, HL, HB⟩ := hrel
    by_cases hlt : k < n
    · obtain ⟨b, off, ai, ci, rfl, hb, q1, Q1⟩ := HW.out.at (i := k) (by rw [HN.out]; exact hlt)
      rw [Nt.rowsB_row HRW.out (i := k) (by rw [HN.out]; exact hlt), HN.out] at q1
      have r1 := (HB.out.cell (p := ⟨b, off + k, none⟩) hb).trans q1
      have HQ1 := hide Q1
      have j0 : (0 : Int) ≤ (k : Int) := by omega
      have j1 : (k : Int) < (n : Int) := by omega
      have hkl : ((Nt.rooms W F).take k).length = k := by rw [List.length_take, HLR.out]; omega
      obtain ⟨av, cv, ev⟩ := HL.out.form
      rw [hkl] at ev
      subst ev
      obtain ⟨G, cap, w1, p1, L1, B1⟩ := HL.out.pushRow (V := wr.alloc (.cells (madeCells #[.int .i64 0] n) 3)) (u := .slice (some ⟨wr.heap.size, 0, none⟩) n n) (r := List.replicate n 0) (below_new _ _) (by rw [List.length_replicate]; exact made_own wr n (by omega)) rfl (by rw [hkl]; omega) HB.out.size
      rw [hkl] at p1 L1
      rw [World.size_alloc] at p1
      generalize us ++ [Value.slice (some ⟨wr.heap.size, 0, none⟩) n n] = us2 at L1
      have HL1 := hide L1
      have HB1 := hide (HB.out.trans (B1.mono (Nat.le_refl _)))
      have HKL := hide hkl
      clear Q1 q1 L1 B1 HL hkl
      go_wp2_with (first | (at_builtin; refine Lib.wpList_append_run _ rfl (.tmp 17) (.tmp 21) 22 22 rfl _ _ rfl rfl _ _ (p1 _) ?_))
      clear p1 hmk HB r1
      go_loopw [8, 9, 25] (fun _ _ sj wq => ∃ (j : Nat) (zs : List Int), sj = .int .i64 j ∧ j ≤ n ∧ zs.length = n ∧ Hid (zs.take j = (Nt.roomR W F k).take j) ∧ Hid (LL wq w.heap.size 24 3 1 ints (.slice (some ⟨G, 0, none⟩) (k + 1) cap) us2 ((Nt.rooms W F).take k ++ [zs])) ∧ Hid (Below w.heap.size w wq)) (fun _ _ sj _ => n - (intOf sj).toNat)
      case atStart => exact ⟨0, List.replicate n 0, rfl, Nat.zero_le _, by simp, hide (by simp), HL1, HB1⟩
      case round =>
        clear HL1 HB1
        obtain ⟨j, zs, rfl, hj, hzl, HT, HL, HB⟩ := hrel
        by_cases hjn : j < n
        · have hR : ((Nt.rooms W F).take k ++ [zs]).length = k + 1 := by rw [List.length_append, HKL.out]; rfl
          have hrow := getD_end ((Nt.rooms W F).take k) zs [] HKL.out
          obtain ⟨g, cg, e1, r1, r2, hg0, hg1, L2⟩ := HL.out.write (i := k) (k := j) (x := Nt.roomAt W F k j) (by omega) (by rw [hrow]; omega)
          rw [hrow, set_snoc _ _ _ HKL.out] at L2
          rw [hrow] at r1 e1
          rw [hzl] at e1
          have hv := HL.out
          rw [← hR] at hv
          have r3 := hv.cell (i := k) (by omega)
          rw [e1] at r3
          obtain ⟨b1, off1, b2, off2, ci2, rfl, r4, r5⟩ := crow_at2 (HA.out.below HB.out) hFn.out HF.out.rows hlt hjn
          obtain ⟨b5, off5, b3, off3, ci3, e5, r6, r7⟩ := crow_at2 (HA.out.below HB.out) hFn.out HF.out.rows hjn hlt
          cases e5
          obtain ⟨bq, oq, rfl, r8⟩ := (HQ1.out.below HB.out).at (i := j) (by rw [Nt.rowsB_row HRW.out (i := k) (by rw [HN.out]; exact hlt), HN.out]; exact hjn)
          have k0 : (0 : Int) ≤ (j : Int) := by omega
          have k1 : (j : Int) < (n : Int) := by omega
          have jj : (k : Int) < (k : Int) + 1 := by omega
          have h1 := Nt.rowsB_bd HRW.out (i := k) (k := j) (by rw [HN.out]; exact hlt) (by rw [HN.out]; exact hjn)
          have h3 := Nt.rowsB_bd HF.out.rows (i := k) (k := j) (by rw [hFn.out]; exact hlt) (by rw [hFn.out]; exact hjn)
          have h4 := Nt.rowsB_bd HF.out.rows (i := j) (k := k) (by rw [hFn.out]; exact hjn) (by rw [hFn.out]; exact hlt)
          have HT2 : Hid ((zs.set j (Nt.roomAt W F k j)).take (j + 1) = (Nt.roomR W F k).take (j + 1)) := hide (by
            have := getD_set_take (Nt.roomR W F k) zs j (by rw [Nt.roomR_len, HN.out]; exact hzl) (by rw [Nt.roomR_len, HN.out]; exact hjn) HT.out
            rwa [Nt.roomR_at W F (by rw [HN.out]; exact hjn)] at this)
          have HL2 := hide L2
          have HB2 := hide (HB.out.setCell (p := ⟨g, j, none⟩) hg0 (.int .i64 (Nt.roomAt W F k j)))
          have r9 : wr.cell? ⟨bq, oq + j, none⟩ = some (.int .i64 (Nt.at2 W k j)) := r8
          unfold Nt.roomAt at HL2 HB2 HT2
          generalize Nt.at2 W k j = x at *
          generalize Nt.at2 F k j = y at *
          generalize Nt.at2 F j k = z at *
          generalize zs.getD j 0 = z0 at *
          obtain ⟨x0, x1⟩ := h1
          obtain ⟨y0, y1⟩ := h3
          obtain ⟨z1, z2⟩ := h4
          have wr1 : wrap64 (x - y) = x - y := wrap_id' _ (by omega) (by omega)
          have wr2 : wrap64 (x - y + z) = x - y + z := wrap_id' _ (by omega) (by omega)
          clear r8 hrow hv L2 e1 hR
          go_wp2_with fail
          go_region
          go_wp2_with fail
          go_roundw
          case rel => exact ⟨j + 1, zs.set j (x - y + z), by go_num, by omega, by simpa using hzl, HT2, hide (HL2.out.keep fun g _ _ => rfl), hide HB2.out.drew⟩
          case measure => simp only [intOf]; omega
        · have hje : j = n := by omega
          subst hje
          have HE : Hid ((Nt.rooms W F).take k ++ [zs] = (Nt.rooms W F).take (k + 1)) := hide (by
            have := HT.out
            rw [List.take_of_length_le (by omega), List.take_of_length_le (by rw [Nt.roomR_len, HN.out]; exact Nat.le_refl _)] at this
            rw [this]; exact Nt.rooms_snoc W F (by rw [HN.out]; exact hlt))
          have HL2 : Hid (LL wr w.heap.size 24 3 1 ints (.slice (some ⟨G, 0, none⟩) (k + 1) cap) us2 ((Nt.rooms W F).take (k + 1))) := hide (by rw [← HE.out]; exact HL.out)
          go_wp2_with fail
          go_roundw
          case rel => exact ⟨k + 1, us2, by go_num, by omega, HL2, HB⟩
          case measure => simp only [intOf]; omega
    · have hke : k = n := by omega
      subst hke
      have HE : Hid ((Nt.rooms W F).take k = Nt.rooms W F) := hide (List.take_of_length_le (by rw [HLR.out]; exact Nat.le_refl _))
      rw [HE.out] at HL
      clear hmk
      go_wp2_with fail
      go_ret
      exact ⟨_, us, rfl, HL.out, HB.out⟩
end Go.Proofs.Ytdpjkblondoimab
namespace Go.Proofs.Ytdpjkblondoimab.Nt
open Bx (sumTo)

/-- The first so many halls are looked at from hall a: those not come to yet (-2) wait behind. -/
def scanTo (R : List (List Int)) (a : Int) (M Q : List Int) : Nat → List Int × List Int
  | 0 => (M, Q)
  | k + 1 => if (scanTo R a M Q k).1.getD k 0 = -2 ∧ 0 < at2 R a.toNat k then ((scanTo R a M Q k).1.set k a, (scanTo R a M Q k).2 ++ [(k : Int)]) else scanTo R a M Q k
def bfs (R : List (List Int)) (n : Nat) : Nat → List Int → List Int → List Int
  | 0, M, _ => M
  | _ + 1, M, [] => M
  | f + 1, M, a :: Q => bfs R n f (scanTo R a M Q n).1 (scanTo R a M Q n).2
def start (n : Nat) : List Int := (List.replicate n (-2)).set 0 (-1)
/-- From which hall each one is come to: -1 for 0, -2 for those not come to. -/
def come (R : List (List Int)) (n : Nat) : List Int := bfs R n n (start n) [0]
def open2 (M Q : List Int) : Nat := M.count (-2) + Q.length
theorem start_len (n : Nat) : (start n).length = n := by simp [start]
theorem count_set {M : List Int} {k : Nat} {a : Int} (hk : k < M.length) (h : M.getD k 0 = -2) (ha : a ≠ -2) : (M.set k a).count (-2) + 1 = M.count (-2) := by
  induction M generalizing k with
  | nil => simp at hk
  | cons x M ih =>
    cases k with
    | zero =>
      simp at h
      subst h
      simp [ha]
    | succ k =>
      have := ih (k := k) (by simpa using hk) (by simpa using h)
      simp only [List.set_cons_succ, List.count_cons]
      omega
theorem scan_len (R : List (List Int)) (a : Int) (M Q : List Int) : ∀ k, (scanTo R a M Q k).1.length = M.length
  | 0 => rfl
  | k + 1 => by
    rw [scanTo]
    split
    · rw [List.length_set, scan_len R a M Q k]
    · exact scan_len R a M Q k
theorem scan_open {R : List (List Int)} {a : Int} {M Q : List Int} (ha : 0 ≤ a) : ∀ k, k ≤ M.length → open2 (scanTo R a M Q k).1 (scanTo R a M Q k).2 = open2 M Q
  | 0, _ => rfl
  | k + 1, hk => by
    have ih := scan_open (R := R) (a := a) (M := M) (Q := Q) ha k (by omega)
    rw [scanTo]
    split
    · next h =>
      have := count_set (a := a) (by rw [scan_len]; omega) h.1 (by omega)
      unfold open2 at ih ⊢
      simp only [List.length_append, List.length_cons, List.length_nil]
      omega
    · exact ih
theorem start_open {n : Nat} (hn : 0 < n) : open2 (start n) [0] = n := by
  have h1 := count_set (M := List.replicate n (-2)) (k := 0) (a := -1) (by simpa using hn) (by simp [hn]) (by omega)
  rw [List.count_replicate_self] at h1
  unfold open2 start
  simp only [List.length_cons, List.length_nil]
  omega
theorem open_pos {M Q : List Int} {k : Nat} (hk : k < M.length) (h : M.getD k 0 = -2) : Q.length + 1 ≤ open2 M Q := by
  have : 0 < M.count (-2) := List.count_pos_iff.2 (by rw [← h, Pf.getD_lt _ _ hk]; exact List.getElem_mem hk)
  unfold open2; omega
/-- What holds on the way: H are all that came, the first i of them are done, the next one up to k. -/
structure Bi (R : List (List Int)) (n : Nat) (M H : List Int) (i k : Nat) : Prop where
  len : M.length = n
  pos : 0 < H.length
  h0 : H.getD 0 0 = 0
  lo : ∀ j, j < H.length → 0 ≤ H.getD j 0 ∧ H.getD j 0 < n
  nd : ∀ j l, j < H.length → l < H.length → j ≠ l → H.getD j 0 ≠ H.getD l 0
  m0 : M.getD 0 0 = -1
  mem : ∀ b, b < n → (M.getD b 0 ≠ -2 ↔ ∃ j, j < H.length ∧ H.getD j 0 = (b : Int))
  par : ∀ j, 0 < j → j < H.length → ∃ l, l < j ∧ M.getD (H.getD j 0).toNat 0 = H.getD l 0 ∧ 0 < at2 R (H.getD l 0).toNat (H.getD j 0).toNat
  done : ∀ l, l < i → ∀ b, b < n → 0 < at2 R (H.getD l 0).toNat b → M.getD b 0 ≠ -2
  cur : ∀ b, b < k → 0 < at2 R (H.getD i 0).toNat b → M.getD b 0 ≠ -2
theorem snoc_lt {l : List Int} {x : Int} {j : Nat} (h : j < l.length) : (l ++ [x]).getD j 0 = l.getD j 0 := by simp [List.getElem?_append_left h]
theorem snoc_end {l : List Int} {x : Int} : (l ++ [x]).getD l.length 0 = x := by simp
theorem set_self {M : List Int} {k : Nat} {a : Int} (h : k < M.length) : (M.set k a).getD k 0 = a := by simp [h]
theorem set_else {M : List Int} {k b : Nat} {a : Int} (h : b ≠ k) : (M.set k a).getD b 0 = M.getD b 0 := by simp [List.getElem?_set_ne (Ne.symm h)]
theorem Bi.step_no {R : List (List Int)} {n i k : Nat} {M H : List Int} (h : Bi R n M H i k) (hno : ¬ (M.getD k 0 = -2 ∧ 0 < at2 R (H.getD i 0).toNat k)) : Bi R n M H i (k + 1) :=
  ⟨h.len, h.pos, h.h0, h.lo, h.nd, h.m0, h.mem, h.par, h.done, fun b hb hr => by
    by_cases e : b = k
    · subst e; exact fun h2 => hno ⟨h2, hr⟩
    · exact h.cur b (by omega) hr⟩
theorem Bi.step_yes {R : List (List Int)} {n i k : Nat} {M H : List Int} (h : Bi R n M H i k) (hi : i < H.length) (hk : k < n) (hy : M.getD k 0 = -2 ∧ 0 < at2 R (H.getD i 0).toNat k) : Bi R n (M.set k (H.getD i 0)) (H ++ [(k : Int)]) i (k + 1) := by
  have hkM : k < M.length := by rw [h.len]; exact hk
  have hk0 : k ≠ 0 := fun e => by have := h.m0; rw [e] at hy; rw [hy.1] at this; omega
  have hnew : ∀ j, j < H.length → H.getD j 0 ≠ (k : Int) := fun j hj e => (h.mem k hk).2 ⟨j, hj, e⟩ hy.1
  have ha := h.lo i hi
  have old : ∀ b, b ≠ k → (M.set k (H.getD i 0)).getD b 0 = M.getD b 0 := fun b hb => set_else hb
  have big : ∀ b, M.getD b 0 ≠ -2 → (M.set k (H.getD i 0)).getD b 0 ≠ -2 := fun b hb => by
    by_cases e : b = k
    · subst e; exact absurd hy.1 hb
    · rw [old b e]; exact hb
  refine ⟨by rw [List.length_set]; exact h.len, by simp, by rw [snoc_lt h.pos]; exact h.h0, fun j hj => ?_, fun j l hj hl hne => ?_, by rw [old 0 (Ne.symm hk0)]; exact h.m0, fun b hb => ?_, fun j h0 hj => ?_, fun l hl b hb hr => ?_, fun b hb hr => ?_⟩
  · simp only [List.length_append, List.length_cons, List.length_nil] at hj
    by_cases e : j = H.length
    · subst e; rw [snoc_end]; omega
    · rw [snoc_lt (by omega)]; exact h.lo j (by omega)
  · simp only [List.length_append, List.length_cons, List.length_nil] at hj hl
    by_cases e1 : j = H.length
    · subst e1
      rw [snoc_end, snoc_lt (by omega)]
      exact fun e => hnew l (by omega) e.symm
    · by_cases e2 : l = H.length
      · subst e2
        rw [snoc_end, snoc_lt (by omega)]
        exact hnew j (by omega)
      · rw [snoc_lt (by omega), snoc_lt (by omega)]; exact h.nd j l (by omega) (by omega) hne
  · by_cases e : b = k
    · subst e
      refine ⟨fun _ => ⟨H.length, by simp, snoc_end⟩, fun _ => ?_⟩
      rw [set_self hkM]; omega
    · rw [old b e, h.mem b hb]
      refine ⟨fun ⟨j, hj, ej⟩ => ⟨j, by simp; omega, by rw [snoc_lt hj]; exact ej⟩, fun ⟨j, hj, ej⟩ => ?_⟩
      simp only [List.length_append, List.length_cons, List.length_nil] at hj
      by_cases e2 : j = H.length
      · subst e2; rw [snoc_end] at ej; omega
      · rw [snoc_lt (by omega)] at ej; exact ⟨j, by omega, ej⟩
  · simp only [List.length_append, List.length_cons, List.length_nil] at hj
    by_cases e : j = H.length
    · subst e
      refine ⟨i, hi, ?_, ?_⟩
      · rw [snoc_end, Int.toNat_natCast, set_self hkM, snoc_lt hi]
      · rw [snoc_end, Int.toNat_natCast, snoc_lt hi]; exact hy.2
    · obtain ⟨l, hl, e1, e2⟩ := h.par j h0 (by omega)
      refine ⟨l, hl, ?_, ?_⟩
      · rw [snoc_lt (by omega), snoc_lt (by omega), old _ (fun e' => hnew j (by omega) (by have := h.lo j (by omega); omega))]; exact e1
      · rw [snoc_lt (by omega), snoc_lt (by omega)]; exact e2
  · rw [snoc_lt (by omega)] at hr
    exact big b (h.done l hl b hb hr)
  · rw [snoc_lt hi] at hr
    by_cases e : b = k
    · subst e; rw [set_self hkM]; omega
    · exact big b (h.cur b (by omega) hr)
theorem Bi.scan {R : List (List Int)} {n i : Nat} {M H Q : List Int} (h : Bi R n M H i 0) (hi : i < H.length) (hQ : Q = H.drop (i + 1)) : ∀ k, k ≤ n → ∃ H', Bi R n (scanTo R (H.getD i 0) M Q k).1 H' i k ∧ (scanTo R (H.getD i 0) M Q k).2 = H'.drop (i + 1) ∧ i < H'.length ∧ H'.getD i 0 = H.getD i 0
  | 0, _ => ⟨H, h, hQ, hi, rfl⟩
  | k + 1, hk => by
    obtain ⟨H', h1, h2, h3, h4⟩ := Bi.scan h hi hQ k (by omega)
    rw [scanTo]
    split
    · next hy =>
      refine ⟨H' ++ [(k : Int)], ?_, ?_, by simp; omega, by rw [snoc_lt h3]; exact h4⟩
      · have := h1.step_yes h3 (by omega) (by rw [h4]; exact hy)
        rw [h4] at this
        exact this
      · show (scanTo R (H.getD i 0) M Q k).2 ++ [(k : Int)] = (H' ++ [(k : Int)]).drop (i + 1)
        rw [h2, List.drop_append_of_le_length (by omega)]
    · next hn => exact ⟨H', h1.step_no (by rw [h4]; exact hn), h2, h3, h4⟩
theorem Bi.pop {R : List (List Int)} {n i : Nat} {M H : List Int} (h : Bi R n M H i n) : Bi R n M H (i + 1) 0 :=
  ⟨h.len, h.pos, h.h0, h.lo, h.nd, h.m0, h.mem, h.par, fun l hl b hb hr => by
    by_cases e : l = i
    · subst e; exact h.cur b hb hr
    · exact h.done l (by omega) b hb hr, fun b hb => absurd hb (Nat.not_lt_zero _)⟩
theorem bfs_inv {R : List (List Int)} {n : Nat} : ∀ f {M Q H : List Int} {i : Nat}, Bi R n M H i 0 → i ≤ H.length → Q = H.drop i → open2 M Q ≤ f → ∃ H', Bi R n (bfs R n f M Q) H' H'.length 0
  | 0, M, Q, H, i, h, hi, hQ, hf => by
    have hq : Q.length = 0 := by unfold open2 at hf; omega
    have : i = H.length := by rw [hQ, List.length_drop] at hq; omega
    exact ⟨H, this ▸ h⟩
  | f + 1, M, [], H, i, h, hi, hQ, _ => by
    have : i = H.length := by
      have : (H.drop i).length = 0 := by rw [← hQ]; rfl
      rw [List.length_drop] at this; omega
    exact ⟨H, this ▸ h⟩
  | f + 1, M, a :: Q, H, i, h, hi, hQ, hf => by
    have hlt : i < H.length := by
      have : (H.drop i).length = Q.length + 1 := by rw [← hQ]; rfl
      rw [List.length_drop] at this; omega
    rw [List.drop_eq_getElem_cons hlt] at hQ
    have ea : a = H.getD i 0 := by rw [Pf.getD_lt _ _ hlt]; exact (List.cons.inj hQ).1
    have eQ : Q = H.drop (i + 1) := (List.cons.inj hQ).2
    obtain ⟨H', h1, h2, h3, _⟩ := h.scan hlt eQ n (Nat.le_refl _)
    rw [← ea] at h1 h2
    rw [bfs]
    refine bfs_inv f h1.pop (by omega) h2 ?_
    have h0 := h.lo i hlt
    rw [scan_open (by omega) n (by rw [h.len]; exact Nat.le_refl _)]
    unfold open2 at hf ⊢
    simp only [List.length_cons] at hf
    omega
theorem come_inv (R : List (List Int)) {n : Nat} (hn : 0 < n) : ∃ H, Bi R n (come R n) H H.length 0 := by
  refine bfs_inv n (H := [0]) (i := 0) ⟨start_len n, by simp, rfl, fun j hj => ?_, fun j l hj hl hne => ?_, by simp [start, hn], fun b hb => ?_, fun j h0 hj => ?_, fun l hl => absurd hl (Nat.not_lt_zero _), fun b hb => absurd hb (Nat.not_lt_zero _)⟩ (by simp) rfl (by rw [start_open hn]; exact Nat.le_refl _)
  · simp at hj; subst hj; simp; omega
  · simp at hj hl; omega
  · unfold start
    by_cases e : b = 0
    · subst e
      refine ⟨fun _ => ⟨0, by simp, rfl⟩, fun _ => ?_⟩
      rw [set_self (by simpa using hn)]; omega
    · rw [set_else e]
      refine ⟨fun h => absurd (by simp [hb]) h, fun ⟨j, hj, ej⟩ => ?_⟩
      simp at hj; subst hj; simp at ej; omega
  · simp at hj; omega
/-- From hall at back to hall 0, put ahead of out. -/
def back (M : List Int) : Nat → Int → List Int → List Int
  | 0, _, out => out
  | f + 1, p, out => if p < 0 then out else back M f (M.getD p.toNat 0) (p :: out)
def wayM (M : List Int) (n : Nat) : List Int := if M.getD (n - 1) 0 = -2 then [] else back M (n + 1) ((n : Int) - 1) []
structure Pth (R : List (List Int)) (n : Nat) (M H : List Int) (j : Nat) (P : List Int) : Prop where
  back : ∀ f out, j + 2 ≤ f → Nt.back M f (H.getD j 0) out = P ++ out
  len : 0 < P.length
  first : P.getD 0 0 = 0
  last : P.getD (P.length - 1) 0 = H.getD j 0
  mem : ∀ t, t < P.length → ∃ l, l ≤ j ∧ P.getD t 0 = H.getD l 0
  ne : ∀ t s, t < P.length → s < P.length → t ≠ s → P.getD t 0 ≠ P.getD s 0
  room : ∀ t, t + 1 < P.length → 0 < at2 R (P.getD t 0).toNat (P.getD (t + 1) 0).toNat
theorem path {R : List (List Int)} {n : Nat} {M H : List Int} (h : Bi R n M H H.length 0) : ∀ m j, j < m → j < H.length → ∃ P, Pth R n M H j P
  | 0, j, hj, _ => absurd hj (Nat.not_lt_zero _)
  | m + 1, j, hj, hl => by
    have hp := h.lo j hl
    by_cases e : j = 0
    · subst e
      refine ⟨[0], fun f out hf => ?_, by simp, rfl, h.h0.symm, fun t ht => ⟨0, Nat.le_refl _, by simp at ht; subst ht; exact h.h0.symm⟩, fun t s ht hs hne => by simp at ht hs; omega, fun t ht => by simp at ht⟩
      obtain ⟨f, rfl⟩ : ∃ g, f = g + 2 := ⟨f - 2, by omega⟩
      rw [h.h0, Nt.back, if_neg (by omega), Nt.back, if_pos (by rw [show (0 : Int).toNat = 0 from rfl, h.m0]; omega)]
      rfl
    · obtain ⟨l, hlj, e1, e2⟩ := h.par j (by omega) hl
      obtain ⟨P, hP⟩ := path h m l (by omega) (by omega)
      refine ⟨P ++ [H.getD j 0], fun f out hf => ?_, by simp, by rw [snoc_lt hP.len]; exact hP.first, by simp, fun t ht => ?_, fun t s ht hs hne => ?_, fun t ht => ?_⟩
      · obtain ⟨f, rfl⟩ : ∃ g, f = g + 1 := ⟨f - 1, by omega⟩
        rw [Nt.back, if_neg (by omega), e1, hP.back f _ (by omega)]
        simp
      · simp only [List.length_append, List.length_cons, List.length_nil] at ht
        by_cases e3 : t = P.length
        · subst e3; exact ⟨j, Nat.le_refl _, snoc_end⟩
        · obtain ⟨q, hq, eq⟩ := hP.mem t (by omega)
          exact ⟨q, by omega, by rw [snoc_lt (by omega)]; exact eq⟩
      · have off : ∀ t, t < P.length → P.getD t 0 ≠ H.getD j 0 := fun t ht => by
          obtain ⟨q, hq, eq⟩ := hP.mem t ht
          rw [eq]; exact h.nd q j (by omega) hl (by omega)
        simp only [List.length_append, List.length_cons, List.length_nil] at ht hs
        by_cases e3 : t = P.length
        · subst e3
          rw [snoc_end, snoc_lt (by omega)]
          exact Ne.symm (off s (by omega))
        · by_cases e4 : s = P.length
          · subst e4
            rw [snoc_end, snoc_lt (by omega)]; exact off t (by omega)
          · rw [snoc_lt (by omega), snoc_lt (by omega)]; exact hP.ne t s (by omega) (by omega) hne
      · simp only [List.length_append, List.length_cons, List.length_nil] at ht
        rw [snoc_lt (by omega)]
        by_cases e3 : t + 1 = P.length
        · rw [e3, snoc_end, show t = P.length - 1 by omega, hP.last]; exact e2
        · rw [snoc_lt (by omega)]; exact hP.room t (by omega)
/-- The way that is found is one. -/
theorem way_is {R : List (List Int)} {n : Nat} (hn : 2 ≤ n) (h : (come R n).getD (n - 1) 0 ≠ -2) : Way R n (wayM (come R n) n) := by
  obtain ⟨H, hb⟩ := come_inv R (n := n) (by omega)
  obtain ⟨j, hj, ej⟩ := (hb.mem (n - 1) (by omega)).1 h
  obtain ⟨P, hP⟩ := path hb (j + 1) j (by omega) hj
  have hfew : H.length ≤ n := few hb.lo hb.nd
  have e : wayM (come R n) n = P := by
    rw [wayM, if_neg h, show ((n : Int) - 1) = H.getD j 0 by rw [ej]; omega, hP.back (n + 1) [] (by omega), List.append_nil]
  rw [e]
  have hlast : P.getD (P.length - 1) 0 = (n : Int) - 1 := by rw [hP.last, ej]; omega
  have hl2 : 2 ≤ P.length := by
    have h0 := hP.len
    by_cases h1 : P.length = 1
    · rw [h1, hP.first] at hlast; omega
    · omega
  refine ⟨hl2, hP.first, hlast, fun i hi => ?_, hP.ne, hP.room⟩
  obtain ⟨l, hl, el⟩ := hP.mem i hi
  rw [el]; exact hb.lo l (by omega)
theorem way_no {M : List Int} {n : Nat} (h : M.getD (n - 1) 0 = -2) : wayM M n = [] := by rw [wayM, if_pos h]
/-- The way through the rooms of a flow, none where there is none. -/
def wayOf (W F : List (List Int)) : List Int := wayM (come (rooms W F) W.length) W.length
theorem wayOf_nil {W F : List (List Int)} (hn : 2 ≤ W.length) : wayOf W F = [] ↔ (come (rooms W F) W.length).getD (W.length - 1) 0 = -2 := by
  refine ⟨fun h => Classical.byContradiction fun hc => ?_, fun h => way_no h⟩
  have := (way_is hn hc).len
  rw [show wayM (come (rooms W F) W.length) W.length = [] from h] at this
  simp at this
theorem wayOf_is {W F : List (List Int)} (hn : 2 ≤ W.length) (h : wayOf W F ≠ []) : Way (rooms W F) W.length (wayOf W F) := way_is hn fun e => h ((wayOf_nil hn).2 e)
/-- The least of a list. -/
def lstTo (r : List Int) : Nat → Int
  | 0 => r.getD 0 0
  | k + 1 => min (lstTo r k) (r.getD k 0)
def lst (r : List Int) : Int := lstTo r r.length
theorem lstTo_le (r : List Int) : ∀ k i, i < k → lstTo r k ≤ r.getD i 0
  | 0, i, h => absurd h (Nat.not_lt_zero _)
  | k + 1, i, h => by
    rw [lstTo]
    by_cases e : i = k
    · subst e; omega
    · have := lstTo_le r k i (by omega); omega
theorem lstTo_is (r : List Int) : ∀ k, k ≤ r.length → 0 < r.length → ∃ i, i < r.length ∧ lstTo r k = r.getD i 0
  | 0, _, h => ⟨0, h, rfl⟩
  | k + 1, hk, h => by
    obtain ⟨i, hi, e⟩ := lstTo_is r k (by omega) h
    rw [lstTo]
    by_cases hc : lstTo r k ≤ r.getD k 0
    · exact ⟨i, hi, by rw [Int.min_eq_left hc]; exact e⟩
    · exact ⟨k, by omega, by rw [Int.min_eq_right (by omega)]⟩
/-- How much goes along a way. -/
def byI (W F : List (List Int)) (P : List Int) : Int := lst (along (rooms W F) P)
theorem by_facts {W F : List (List Int)} {P : List Int} (hf : NF W F) (hw : Way (rooms W F) W.length P) : 1 ≤ byI W F P ∧ byI W F P ≤ 100 ∧ ∀ i, i + 1 < P.length → byI W F P ≤ roomAt W F (P.getD i 0).toNat (P.getD (i + 1) 0).toNat := by
  have h2 := hw.len
  have hal := along_len (rooms W F) P
  obtain ⟨i, hi, e⟩ := lstTo_is (along (rooms W F) P) (along (rooms W F) P).length (Nat.le_refl _) (by omega)
  have ei := along_at (rooms W F) P (i := i) (by omega)
  have hr := hw.room i (by omega)
  have l1 := hw.lo i (by omega)
  have l2 := hw.lo (i + 1) (by omega)
  have hb := hf.room_bd (i := (P.getD i 0).toNat) (k := (P.getD (i + 1) 0).toNat) (by omega) (by omega)
  rw [rooms_at W F (by omega) (by omega)] at hr ei
  have eb : byI W F P = roomAt W F (P.getD i 0).toNat (P.getD (i + 1) 0).toNat := by rw [byI, lst, e, ei]
  refine ⟨by omega, by omega, fun j hj => ?_⟩
  have := lstTo_le (along (rooms W F) P) (along (rooms W F) P).length j (by omega)
  rw [along_at _ _ hj] at this
  have m1 := hw.lo j (by omega)
  have m2 := hw.lo (j + 1) (by omega)
  rw [rooms_at W F (by omega) (by omega)] at this
  exact this
/-- Pushed as long as there is a way. -/
def mf (W : List (List Int)) : Nat → List (List Int) → List (List Int)
  | 0, F => F
  | f + 1, F => if wayOf W F = [] then F else mf W f (pushL (byI W F (wayOf W F)) F (wayOf W F))
def mostL (W : List (List Int)) : List (List Int) := mf W 401 (zeros W.length)
theorem value_bd {W F : List (List Int)} (h : NF W F) : outI F 0 ≤ 400 := by
  have hl := rowsB_len h.rows
  rw [outI, Fl.ex]
  have := sumTo_bd (f := fun k => at2 F 0 k - at2 F k 0) (lo := -50) (hi := 50) F.length fun i hi => by
    have h1 := rowsB_bd h.rows (i := 0) (k := i) (by omega) hi
    have h2 := rowsB_bd h.rows (i := i) (k := 0) hi (by omega)
    show -50 ≤ at2 F 0 i - at2 F i 0 ∧ at2 F 0 i - at2 F i 0 ≤ 50
    omega
  omega
theorem next_nf {W F : List (List Int)} (h : NF W F) (hw : wayOf W F ≠ []) : NF W (pushL (byI W F (wayOf W F)) F (wayOf W F)) ∧ outI F 0 + 1 ≤ outI (pushL (byI W F (wayOf W F)) F (wayOf W F)) 0 := by
  have h2 := (rowsB_len (netB_rows h.net)).1
  have hw' := wayOf_is h2 hw
  obtain ⟨b1, _, b3⟩ := by_facts h hw'
  obtain ⟨p1, p2⟩ := push_nf h hw' (by omega) b3
  exact ⟨p1, by rw [p2]; omega⟩
theorem mf_inv {W : List (List Int)} : ∀ (f : Nat) {F : List (List Int)}, NF W F → 400 - outI F 0 < f → NF W (mf W f F) ∧ wayOf W (mf W f F) = []
  | 0, F, h, hf => by have := value_bd h; omega
  | f + 1, F, h, hf => by
    rw [mf]
    split
    · next e => exact ⟨h, e⟩
    · next e =>
      obtain ⟨n1, n2⟩ := next_nf h e
      exact mf_inv f n1 (by omega)
theorem zeros_out (n : Nat) : outI (zeros n) 0 = 0 := by rw [outI]; exact ex_zero (fun a b => zeros_at _ a b) 0
theorem most_inv {W : List (List Int)} (h : netB W = true) : NF W (mostL W) ∧ wayOf W (mostL W) = [] := mf_inv 401 (zeros_nf h) (by rw [zeros_out]; omega)
/-- The halls come to. -/
def sideL (M : List Int) : List Int := ((List.range M.length).filter fun b => M.getD b 0 != -2).map fun (b : Nat) => (b : Int)
def sideTo (M : List Int) (k : Nat) : List Int := ((List.range k).filter fun b => M.getD b 0 != -2).map fun (b : Nat) => (b : Int)
theorem sideTo_succ (M : List Int) (k : Nat) : sideTo M (k + 1) = if M.getD k 0 = -2 then sideTo M k else sideTo M k ++ [(k : Int)] := by
  unfold sideTo
  rw [List.range_succ, List.filter_append, List.map_append]
  by_cases h : M.getD k 0 = -2
  · rw [if_pos h, List.filter_cons_of_neg (by rw [h]; decide)]; simp
  · rw [if_neg h, List.filter_cons_of_pos (by simpa using h)]; simp
end Go.Proofs.Ytdpjkblondoimab.Nt
namespace Go.Proofs.Ytdpjkblondoimab
open Go.RowKit

theorem arow_behind {w : World} {b o : Nat} {xs : List Int} (h : ARow w (some ⟨b, o, none⟩) xs) {i : Nat} (hi : i + 1 < xs.length) : w.cell? ⟨b, o + 1 + i, none⟩ = some (.int .i64 (xs.getD (i + 1) 0)) := by
  obtain ⟨b', o', e, r⟩ := h.at (i := i + 1) hi
  cases e
  rw [show o + 1 + i = o + (i + 1) by omega]; exact r
/-- What a push asks of its flow and its way. -/
structure Pok (n m : Nat) (F : List (List Int)) (y : Int) (P : List Int) : Prop where
  len : F.length = n
  n8 : n ≤ 8
  row : ∀ i, i < n → (F.getD i []).length = n
  pl : P.length = m
  m1 : 2 ≤ m
  m9 : m ≤ 1000
  lo : ∀ i, i < m → 0 ≤ P.getD i 0 ∧ P.getD i 0 < (n : Int)
  ne : ∀ i, i + 1 < m → P.getD i 0 ≠ P.getD (i + 1) 0
  y0 : 0 ≤ y
  y1 : y ≤ 100
  bd : ∀ k, k < m → ∀ i j, i < n → j < n → 0 ≤ Nt.at2 (Nt.pushTo y F P k) i j ∧ Nt.at2 (Nt.pushTo y F P k) i j ≤ 50
/-- One step of a push, in memory: the two stores. -/
structure St13 (W : World) (base G n cap p q : Nat) (y : Int) (us : List Value) (F : List (List Int)) (gb cb ga ca : Nat) (x1 x2 : Int) : Prop where
  c1 : W.cell? ⟨G, q, none⟩ = some (.slice (some ⟨gb, 0, none⟩) n cb)
  r1 : W.cell? ⟨gb, p, none⟩ = some (.int .i64 x1)
  f1 : W.frozen? ⟨gb, p, none⟩ = false
  c2 : (W.setCell ⟨gb, p, none⟩ (.int .i64 (x1 - min y x1))).cell? ⟨G, p, none⟩ = some (.slice (some ⟨ga, 0, none⟩) n ca)
  r2 : (W.setCell ⟨gb, p, none⟩ (.int .i64 (x1 - min y x1))).cell? ⟨ga, q, none⟩ = some (.int .i64 x2)
  f2 : (W.setCell ⟨gb, p, none⟩ (.int .i64 (x1 - min y x1))).frozen? ⟨ga, q, none⟩ = false
  ll : LL ((W.setCell ⟨gb, p, none⟩ (.int .i64 (x1 - min y x1))).setCell ⟨ga, q, none⟩ (.int .i64 (x2 + (y - min y x1)))) base 24 3 1 ints (.slice (some ⟨G, 0, none⟩) n cap) us (Nt.stL F y p q)
  b1 : base ≤ gb
  b2 : base ≤ ga
  u1 : us.getD q nilS = .slice (some ⟨gb, 0, none⟩) n cb
  u2 : us.getD p nilS = .slice (some ⟨ga, 0, none⟩) n ca
theorem LL.step13 {W : World} {base G n cap p q : Nat} {y : Int} {us : List Value} {F : List (List Int)} (h : LL W base 24 3 1 ints (.slice (some ⟨G, 0, none⟩) n cap) us F) (hn : F.length = n) (hr : ∀ i, i < n → (F.getD i []).length = n) (hp : p < n) (hq : q < n) (hne : p ≠ q) :
    ∃ gb cb ga ca, St13 W base G n cap p q y us F gb cb ga ca (Nt.at2 F q p) (Nt.at2 F p q) := by
  obtain ⟨gb, cb, e1, r1, f1, b1, _, L1⟩ := h.write (i := q) (k := p) (x := Nt.at2 F q p - min y (Nt.at2 F q p)) (by omega) (by rw [hr q hq]; exact hp)
  have L1' : LL (W.setCell ⟨gb, p, none⟩ (.int .i64 (Nt.at2 F q p - min y (Nt.at2 F q p)))) base 24 3 1 ints (.slice (some ⟨G, 0, none⟩) n cap) us (Nt.setM F q p (Nt.at2 F q p - min y (Nt.at2 F q p))) := L1
  have hl1 : (Nt.setM F q p (Nt.at2 F q p - min y (Nt.at2 F q p))).length = n := by rw [Nt.setM_len, hn]
  have hx2 : Nt.at2 (Nt.setM F q p (Nt.at2 F q p - min y (Nt.at2 F q p))) p q = Nt.at2 F p q := by
    rw [Nt.setM_at (by omega) (by rw [hr q hq]; exact hp), if_neg (fun e => hne e.1)]
  obtain ⟨ga, ca, e2, r2, f2, b2, _, L2⟩ := L1'.write (i := p) (k := q) (x := Nt.at2 F p q + (y - min y (Nt.at2 F q p))) (by omega) (by rw [Nt.setM_row, hr p hp]; exact hq)
  rw [hr q hq] at e1
  rw [Nt.setM_row, hr p hp] at e2
  have h' := h
  rw [← hn] at h'
  have c1 := h'.cell (i := q) (by omega)
  rw [e1] at c1
  have L1c := L1'
  rw [← hl1] at L1c
  have c2 := L1c.cell (i := p) (by omega)
  rw [e2] at c2
  refine ⟨gb, cb, ga, ca, c1, r1, f1, c2, ?_, f2, ?_, b1, b2, e1, e2⟩
  · rw [r2]; exact congrArg (fun z => some (Value.int .i64 z)) hx2
  · have := L2
    rw [Nt.stL, hx2]
    exact this
theorem pok_of {W F : List (List Int)} {P : List Int} {n m : Nat} (hf : Nt.NF W F) (hw : Nt.Way (Nt.rooms W F) W.length P) (hn : W.length = n) (hm : P.length = m) : Pok n m F (Nt.byI W F P) P := by
  subst hn hm
  obtain ⟨b1, b2, b3⟩ := Nt.by_facts hf hw
  have hW := Nt.rowsB_len (Nt.netB_rows hf.net)
  have hfew := hw.few
  refine ⟨hf.len, hW.2, fun i hi => by rw [Nt.rowsB_row hf.rows (by rw [hf.len]; exact hi), hf.len], rfl, hw.len, by omega, hw.lo, fun i hi => hw.ne i (i + 1) (by omega) hi (by omega), by omega, b2, fun k hk i j hi hj => ?_⟩
  have hp := Nt.push_to hf hw (by omega) b3 k hk
  have h1 := hp.cap.lo i j hi hj
  have h2 := hp.cap.hi i j hi hj
  have h3 := Nt.rowsB_bd (Nt.netB_rows hf.net) hi hj
  omega
/-- A number of a list of lists, read out of memory. -/
def rd2 (w : World) (v : Value) (i k : Nat) : Int := match v with
  | .slice (some a) _ _ => (match w.cell? ⟨a.block, i, none⟩ with
    | some (.slice (some b) _ _) => (match w.cell? ⟨b.block, k, none⟩ with
      | some (.int _ x) => x
      | _ => 0)
    | _ => 0)
  | _ => 0
theorem LL.rd2 {W : World} {base T n c G i k : Nat} {us : List Value} {R : List (List Int)} (h : LL W base T 3 1 ints (.slice (some ⟨G, 0, none⟩) n c) us R) (hn : R.length = n) (hi : i < n) (hk : k < (R.getD i []).length) : rd2 W (.slice (some ⟨G, 0, none⟩) n c) i k = Nt.at2 R i k := by
  obtain ⟨g, d, c1, _, c2⟩ := h.at2 hn hi hk
  unfold Proofs.Ytdpjkblondoimab.rd2
  simp only [c1, c2]
  rfl
def msf (n : Nat) (v : Value) (w : World) : Nat := (401 - Bx.sumTo (fun k => rd2 w v 0 k - rd2 w v k 0) n).toNat
theorem LL.msf {W : World} {base T n c G : Nat} {us : List Value} {F : List (List Int)} (h : LL W base T 3 1 ints (.slice (some ⟨G, 0, none⟩) n c) us F) (hn : F.length = n) (hr : Nt.rowsB F = true) : msf n (.slice (some ⟨G, 0, none⟩) n c) W = (401 - Nt.outI F 0).toNat := by
  have hl := Nt.rowsB_len hr
  unfold Proofs.Ytdpjkblondoimab.msf
  rw [Nt.outI, Fl.ex, hn]
  congr 2
  refine Bx.sum_eq n fun k hk => ?_
  rw [h.rd2 hn (by omega) (by rw [Nt.rowsB_row hr (by omega)]; omega), h.rd2 hn hk (by rw [Nt.rowsB_row hr (by omega)]; omega)]
end Go.Proofs.Ytdpjkblondoimab
namespace Go.Proofs
open Go.Shelf
def Try.lays212_ren : Go.Shelf.Ren := ⟨fun | 212 => 59 | 263 => 62 | 264 => 63 | n => n, fun | 46 => 64 | 51 => 68 | 146 => 69 | 53 => 71 | 148 => 72 | n => n, fun | n => n⟩
theorem Try.lays212 : Go.Proofs.Lays.n212 Try.prog Try.lays212_ren := {
  mixed := by kernel_rfl
  f212 := Try.func59.trans (congrArg some (by kernel_rfl))
  f263 := Try.func62.trans (congrArg some (by kernel_rfl))
  f264 := Try.func63.trans (congrArg some (by kernel_rfl))
  t46 := Try.underlying64
  a46 := Try.isAgg64
  z46 := Try.sizeOf64
  v46 := Try.zeroValue64
  t51 := Try.underlying68
  a51 := Try.isAgg68
  z51 := Try.sizeOf68
  v51 := Try.zeroValue68
  t53 := Try.underlying71
  a53 := Try.isAgg71
  z53 := Try.sizeOf71
  v53 := Try.zeroValue71
  t146 := Try.underlying69
  a146 := Try.isAgg69
  z146 := Try.sizeOf69
  v146 := Try.zeroValue69
  t148 := Try.underlying72
  a148 := Try.isAgg72
  z148 := Try.sizeOf72
  v148 := Try.zeroValue72 }
open Go.RowKit Go.Lib in
theorem Try.bits_Mul (x y : Nat) (hx : x < 18446744073709551616) (hy : y < 18446744073709551616) (w : World) :
    Calls Try.prog 59 #[.int .u64 x, .int .u64 y] w fun e w' => e = .returned (.tuple #[.int .u64 ((x * y / 18446744073709551616 : Nat) : Int), .int .u64 ((x * y % 18446744073709551616 : Nat) : Int)]) ∧ w' = w := Any.bits_Mul Try.lays212 x y hx hy w
def Try.laysNm215_ren : Go.Shelf.Ren := ⟨fun | 15 => 44 | n => n, fun | 22 => 24 | 3 => 3 | 4 => 4 | n => n, fun | n => n⟩
theorem Try.laysNm215 : Go.Proofs.Lays2.n15 Try.prog Try.laysNm215_ren := {
  mixed := by kernel_rfl
  f15 := Try.func44.trans (congrArg some (by kernel_rfl))
  t3 := Try.underlying3
  a3 := Try.isAgg3
  z3 := Try.sizeOf3
  v3 := Try.zeroValue3
  t4 := Try.underlying4
  a4 := Try.isAgg4
  z4 := Try.sizeOf4
  v4 := Try.zeroValue4
  t22 := Try.underlying24
  a22 := Try.isAgg24
  z22 := Try.sizeOf24
  v22 := Try.zeroValue24
  i3 := by kernel_rfl }
open Go.RowKit Go.Lib in
theorem Try.slices_Clone_int (b off n c : Nat) (zs : List Int) (w : World) (hz : n ≤ zs.length) (hbig : n * 8 ≤ 140737488355328) (hc : ∀ j, j < zs.length → w.cell? ⟨b, off + j, none⟩ = some (.int .i64 (zs.getD j 0))) :
    Calls Try.prog 44 #[.slice (some ⟨b, off, none⟩) n c] w fun e w' => ∃ v', e = .returned v' ∧ w'.ownsRow w.heap.size 3 1 v' n ((zs.take n).map (Value.int .i64)) ∧ v' ≠ .slice none 0 0 ∧ Below w.heap.size w w' := Any.slices_Clone_int Try.laysNm215 b off n c zs w hz hbig hc
def Try.lays2n21_ren : Go.Shelf.Ren := ⟨fun | 21 => 40 | 27 => 53 | 28 => 54 | 35 => 60 | 39 => 64 | n => n, fun | 22 => 24 | 3 => 3 | 4 => 4 | 0 => 0 | n => n, fun | n => n⟩
theorem Try.lays2n21 : Go.Proofs.Lays2.n21 Try.prog Try.lays2n21_ren := {
  mixed := by kernel_rfl
  f21 := Try.func40.trans (congrArg some (by kernel_rfl))
  f27 := Try.func53.trans (congrArg some (by kernel_rfl))
  f28 := Try.func54.trans (congrArg some (by kernel_rfl))
  f35 := Try.func60.trans (congrArg some (by kernel_rfl))
  f39 := Try.func64.trans (congrArg some (by kernel_rfl))
  t0 := Try.underlying0
  a0 := Try.isAgg0
  z0 := Try.sizeOf0
  v0 := Try.zeroValue0
  t3 := Try.underlying3
  a3 := Try.isAgg3
  z3 := Try.sizeOf3
  v3 := Try.zeroValue3
  t4 := Try.underlying4
  a4 := Try.isAgg4
  z4 := Try.sizeOf4
  v4 := Try.zeroValue4
  t22 := Try.underlying24
  a22 := Try.isAgg24
  z22 := Try.sizeOf24
  v22 := Try.zeroValue24
  i3 := by kernel_rfl }
end Go.Proofs
