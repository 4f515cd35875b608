/-
  In one: Ha, Hb, Hc, Jc0, Jc, Jd, Mb10, Shelf, It10, Hv, Mi10, Mj10, C, E, F, Hl10, Pm, Pn, Jm10, Sk, Mm10, Mc10, Me10, Ml10, Nd10, Ne10.
-/
import Derived.Test.YtbhgdkkclefpnaaY1
import Derived.Deep.RegionHeld3
import Derived.BigQuiet
import Derived.Test.YtbhgdkkclefpnaaChecked
import Derived.Shelf.Small.Bits
import Derived.Shelf.Small.Wraps
import Derived.Shelf.Strconv.Itoa0
import Derived.Shelf.Sort.Plain
import Derived.Shelf.Slices.Turned
import Derived.Shelf.Slices.Equal
import Derived.Shelf.Slices.Clone
import Derived.Shelf.Slices.SearchI
import Derived.Shelf.Slices.In.SortNone
import Derived.Shelf.Slices.Empties2
import Derived.Shelf.SlicesE.Clone
import Derived.RangeFuncBox
import Derived.RangeFuncLeaves
import Derived.Shelf.Abstract
import Derived.WalkKit
import Derived.OwnWalkIn
import Derived.TacticsInMore
import Derived.LoopNIn
import Derived.LoopIn
import Derived.Maps.AppendAt
import Derived.Lib.AppendZeros
import Derived.Laws.AppendOwn
import Derived.Laws.OwnMore
import Derived.Sort.WalkA
import Derived.Sort.OwnSortedInts
import Derived.OwnWalk
import Derived.Deep.DeepCutAuto
import Derived.Deep.LoopGhost
namespace Go.Proofs.Ytbhgdkkclefpnaa.Od

def waysB (us ws : List Int) : Bool := decide (us.length = ws.length) && (decide (us.length ≤ 10) && (Pf.allB us 0 1000 && Pf.allB ws 0 1000))
theorem waysB_yes {us ws : List Int} (h : waysB us ws = true) : us.length = ws.length ∧ us.length ≤ 10 ∧ Pf.allB us 0 1000 = true ∧ Pf.allB ws 0 1000 = true := by
  simpa [waysB] using h
theorem waysB_ne {us ws : List Int} (h : us.length ≠ ws.length) : waysB us ws = false := by simp [waysB, h]
theorem waysB_many {us ws : List Int} (h : 10 < us.length) : waysB us ws = false := by simp [waysB, show ¬ us.length ≤ 10 by omega]

/-- The number at i is one of 0 up to n - 1, and none ahead of it is the same. -/
def okAt (xs : List Int) (n i : Nat) : Bool := Pf.inB (xs.getD i 0) 0 ((n : Int) - 1) && !(xs.take i).contains (xs.getD i 0)
def ordB (xs : List Int) (n : Nat) : Bool := decide (xs.length = n) && (List.range n).all (okAt xs n)
theorem ordB_len {xs : List Int} {n : Nat} (h : ordB xs n = true) : xs.length = n := by
  simp only [ordB, Bool.and_eq_true, decide_eq_true_eq] at h; exact h.1
theorem ordB_at {xs : List Int} {n i : Nat} (h : ordB xs n = true) (hi : i < n) : okAt xs n i = true := by
  simp only [ordB, Bool.and_eq_true, List.all_eq_true, List.mem_range] at h; exact h.2 i hi
theorem ordB_of {xs : List Int} {n : Nat} (h1 : xs.length = n) (h : ∀ i, i < n → okAt xs n i = true) : ordB xs n = true := by
  simp only [ordB, Bool.and_eq_true, decide_eq_true_eq, List.all_eq_true, List.mem_range]; exact ⟨h1, h⟩
theorem ordB_ne {xs : List Int} {n : Nat} (h : xs.length ≠ n) : ordB xs n = false := by simp [ordB, h]
theorem ordB_not {xs : List Int} {n i : Nat} (hi : i < n) (h : okAt xs n i = false) : ordB xs n = false := by
  cases e : ordB xs n
  · rfl
  · rw [ordB_at e hi] at h; cases h
theorem ordB_in {xs : List Int} {n i : Nat} (h : ordB xs n = true) (hi : i < n) : 0 ≤ xs.getD i 0 ∧ xs.getD i 0 < n := by
  have := ordB_at h hi
  simp only [okAt, Bool.and_eq_true] at this
  have := Pf.inB_yes this.1
  omega
/-- The number at i as a natural one. -/
def nth (xs : List Int) (i : Nat) : Nat := (xs.getD i 0).toNat
theorem nth_cast {xs : List Int} {n i : Nat} (h : ordB xs n = true) (hi : i < n) : xs.getD i 0 = (nth xs i : Int) := by
  have := ordB_in h hi; unfold nth; omega
theorem nth_lt {xs : List Int} {n i : Nat} (h : ordB xs n = true) (hi : i < n) : nth xs i < n := by
  have := ordB_in h hi; unfold nth; omega

/-- Whether j is among the first k. -/
def seen (xs : List Int) (k n : Nat) : List Bool := (List.range n).map fun (j : Nat) => (xs.take k).contains (j : Int)
theorem seen_len (xs : List Int) (k n : Nat) : (seen xs k n).length = n := by simp [seen]
theorem seen_zero (xs : List Int) (n : Nat) : seen xs 0 n = List.replicate n false := by
  apply List.ext_getElem
  · simp [seen]
  · intro i h1 h2; simp [seen]
theorem seen_get (xs : List Int) (k n j : Nat) (h : j < n) : (seen xs k n).getD j false = (xs.take k).contains (j : Int) := by simp [seen, h]
theorem seen_step (xs : List Int) (k n j : Nat) (hk : k < xs.length) (h : xs.getD k 0 = (j : Int)) : (seen xs k n).set j true = seen xs (k + 1) n := by
  apply List.ext_getElem
  · simp [seen]
  · intro i h1 h2
    have hi : i < n := by simpa [seen] using h2
    have e : xs[k] = (j : Int) := by rw [Pf.getD_lt xs 0 hk] at h; exact h
    simp only [seen, List.getElem_map, List.getElem_range, List.getElem_set]
    rw [List.take_add_one]
    by_cases hij : j = i
    · subst hij; simp [hk, e]
    · have : ¬ (i : Int) = (j : Int) := by omega
      simp [hij, hk, e, this]

/-- The sum of use times way over the first k. -/
def pairTo (us ws : List Int) : Nat → Int
  | 0 => 0
  | k + 1 => pairTo us ws k + us.getD k 0 * ws.getD k 0
def pair (us ws : List Int) : Int := pairTo us ws us.length
/-- What an order costs over the first k places. -/
def costTo (us ws os : List Int) : Nat → Int
  | 0 => 0
  | k + 1 => costTo us ws os k + us.getD (nth os k) 0 * ws.getD k 0
def cost (us ws os : List Int) : Int := costTo us ws os os.length
theorem term_bd {x y : Int} (hx : 0 ≤ x ∧ x ≤ 1000) (hy : 0 ≤ y ∧ y ≤ 1000) : 0 ≤ x * y ∧ x * y ≤ 1000000 := by
  refine ⟨Int.mul_nonneg hx.1 hy.1, ?_⟩
  exact Int.le_trans (Int.mul_le_mul_of_nonneg_right hx.2 hy.1) (Int.le_trans (Int.mul_le_mul_of_nonneg_left hy.2 (show (0 : Int) ≤ 1000 by omega)) (by omega))
theorem pairTo_bd {us ws : List Int} (hu : Pf.allB us 0 1000 = true) (hw : Pf.allB ws 0 1000 = true) : ∀ k, k ≤ us.length → k ≤ ws.length → 0 ≤ pairTo us ws k ∧ pairTo us ws k ≤ 1000000 * (k : Int)
  | 0, _, _ => by simp [pairTo]
  | k + 1, h1, h2 => by
    have := pairTo_bd hu hw k (by omega) (by omega)
    have := term_bd (Pf.inB_yes (Pf.allB_get hu (show k < us.length by omega))) (Pf.inB_yes (Pf.allB_get hw (show k < ws.length by omega)))
    simp only [pairTo]; omega
theorem costTo_bd {us ws os : List Int} (hu : Pf.allB us 0 1000 = true) (hw : Pf.allB ws 0 1000 = true) (hl : us.length = ws.length) (ho : ordB os us.length = true) : ∀ k, k ≤ us.length → 0 ≤ costTo us ws os k ∧ costTo us ws os k ≤ 1000000 * (k : Int)
  | 0, _ => by simp [costTo]
  | k + 1, h1 => by
    have := costTo_bd hu hw hl ho k (by omega)
    have := term_bd (Pf.inB_yes (Pf.allB_get hu (nth_lt ho (show k < us.length by omega)))) (Pf.inB_yes (Pf.allB_get hw (show k < ws.length by omega)))
    simp only [costTo]; omega
/-- The uses as they stand in an order. -/
def placed (us os : List Int) : List Int := os.map fun o => us.getD o.toNat 0
theorem placed_len (us os : List Int) : (placed us os).length = os.length := by simp [placed]
theorem placed_get (us os : List Int) {k : Nat} (h : k < os.length) : (placed us os).getD k 0 = us.getD (nth os k) 0 := by simp [placed, nth, h]
theorem placed_pair (us ws os : List Int) : ∀ k, k ≤ os.length → pairTo (placed us os) ws k = costTo us ws os k
  | 0, _ => rfl
  | k + 1, h => by simp only [pairTo, costTo]; rw [placed_pair us ws os k (by omega), placed_get us os (by omega)]
theorem placed_cost (us ws os : List Int) : pair (placed us os) ws = cost us ws os := by
  unfold pair cost; rw [placed_len]; exact placed_pair us ws os _ (Nat.le_refl _)
theorem placed_all {us os : List Int} (hu : Pf.allB us 0 1000 = true) (ho : ordB os us.length = true) : Pf.allB (placed us os) 0 1000 = true := by
  refine Pf.allB_of fun i hi => ?_
  rw [placed_len] at hi
  have hl := ordB_len ho
  rw [placed_get us os hi]
  exact Pf.allB_get hu (nth_lt ho (by omega))
theorem placed_step (us os ys : List Int) (k : Nat) (hy : ys.length = os.length) (hk : k < os.length) (h : ys.take k = (placed us os).take k) : (ys.set k (us.getD (nth os k) 0)).take (k + 1) = (placed us os).take (k + 1) := by
  rw [List.take_add_one, List.take_add_one, List.take_set_of_le (Nat.le_refl _), h]
  congr 1
  simp [hk, hy, placed, nth]

/-- The goods of two places changed. -/
def swap (os : List Int) (a b : Nat) : List Int := (os.set a (os.getD b 0)).set b (os.getD a 0)
theorem swap_len (os : List Int) (a b : Nat) : (swap os a b).length = os.length := by simp [swap]
theorem swap_get (os : List Int) {a b i : Nat} (ha : a < os.length) (hb : b < os.length) (hi : i < os.length) : (swap os a b).getD i 0 = if i = b then os.getD a 0 else if i = a then os.getD b 0 else os.getD i 0 := by
  simp only [swap, List.getD_eq_getElem?_getD, List.getElem?_set, List.length_set]
  by_cases h1 : b = i
  · subst h1; simp [hb]
  · rw [if_neg h1, if_neg (show ¬ i = b by omega)]
    by_cases h2 : a = i
    · subst h2; simp [ha]
    · rw [if_neg h2, if_neg (show ¬ i = a by omega)]
theorem okAt_iff {xs : List Int} {n i : Nat} (hl : xs.length = n) (hi : i < n) : okAt xs n i = true ↔ (0 ≤ xs.getD i 0 ∧ xs.getD i 0 < n) ∧ ∀ j, j < i → xs.getD j 0 ≠ xs.getD i 0 := by
  simp only [okAt, Bool.and_eq_true, Bool.not_eq_true', List.contains_eq_mem, decide_eq_false_iff_not]
  constructor
  · rintro ⟨h1, h2⟩
    have := Pf.inB_yes h1
    refine ⟨by omega, fun j hj e => h2 ?_⟩
    rw [← e]
    have hj' : j < xs.length := by omega
    rw [Pf.getD_lt xs 0 hj']
    exact List.mem_take_iff_getElem.2 ⟨j, by omega, rfl⟩
  · rintro ⟨h1, h2⟩
    refine ⟨Pf.inB_of h1.1 (by omega), fun hm => ?_⟩
    obtain ⟨j, hj, e⟩ := List.mem_take_iff_getElem.1 hm
    have hj' : j < xs.length := by omega
    exact h2 j (by omega) (by rw [Pf.getD_lt xs 0 hj']; exact e)
/-- An order: its numbers are 0 up to n - 1, no two alike. -/
theorem ordB_iff {xs : List Int} {n : Nat} : ordB xs n = true ↔ xs.length = n ∧ (∀ i, i < n → 0 ≤ xs.getD i 0 ∧ xs.getD i 0 < n) ∧ ∀ i j, i < n → j < n → xs.getD i 0 = xs.getD j 0 → i = j := by
  constructor
  · intro h
    have hl := ordB_len h
    refine ⟨hl, fun i hi => ordB_in h hi, fun i j hi hj e => ?_⟩
    rcases Nat.lt_trichotomy i j with c | c | c
    · exact absurd e (((okAt_iff hl hj).1 (ordB_at h hj)).2 i c)
    · exact c
    · exact absurd e.symm (((okAt_iff hl hi).1 (ordB_at h hi)).2 j c)
  · rintro ⟨hl, h1, h2⟩
    refine ordB_of hl fun i hi => (okAt_iff hl hi).2 ⟨h1 i hi, fun j hj e => ?_⟩
    have := h2 j i (by omega) hi e
    omega
theorem swap_ord {os : List Int} {n a b : Nat} (h : ordB os n = true) (ha : a < n) (hb : b < n) : ordB (swap os a b) n = true := by
  obtain ⟨hl, h1, h2⟩ := ordB_iff.1 h
  subst hl
  refine ordB_iff.2 ⟨swap_len _ _ _, fun i hi => ?_, fun i j hi hj => ?_⟩
  · rw [swap_get os ha hb hi]; split
    · exact h1 a ha
    · split
      · exact h1 b hb
      · exact h1 i hi
  · rw [swap_get os ha hb hi, swap_get os ha hb hj]
    intro e
    by_cases i1 : i = b
    · rw [if_pos i1] at e
      by_cases j1 : j = b
      · omega
      · rw [if_neg j1] at e
        by_cases j2 : j = a
        · rw [if_pos j2] at e
          have := h2 a b ha hb e; omega
        · rw [if_neg j2] at e
          have := h2 a j ha hj e; omega
    · rw [if_neg i1] at e
      by_cases i2 : i = a
      · rw [if_pos i2] at e
        by_cases j1 : j = b
        · rw [if_pos j1] at e; have := h2 b a hb ha e; omega
        · rw [if_neg j1] at e
          by_cases j2 : j = a
          · omega
          · rw [if_neg j2] at e
            have := h2 b j hb hj e; omega
      · rw [if_neg i2] at e
        by_cases j1 : j = b
        · rw [if_pos j1] at e; have := h2 i a hi ha e; omega
        · rw [if_neg j1] at e
          by_cases j2 : j = a
          · rw [if_pos j2] at e; have := h2 i b hi hb e; omega
          · rw [if_neg j2] at e; exact h2 i j hi hj e

theorem count_set {l : List Bool} {k : Nat} (h : l.getD k true = false) : l.count false = (l.set k true).count false + 1 := by
  have hk : k < l.length := by
    by_cases hk : k < l.length
    · exact hk
    · simp [hk] at h
  have e : l[k] = false := by simpa [hk] using h
  have h1 := List.take_append_drop k l
  have h2 : l.drop k = l[k] :: l.drop (k + 1) := List.drop_eq_getElem_cons hk
  have h3 : l.set k true = l.take k ++ true :: l.drop (k + 1) := by rw [List.set_eq_take_append_cons_drop, if_pos hk]
  rw [h3]
  conv => lhs; rw [← h1, h2, e]
  simp [List.count_append]; omega
/-- From k on along the order, until one is met that was gone to. -/
def gone (xs : List Int) (l : List Bool) (k : Nat) : List Bool :=
  if _h : l.getD k true = false then gone xs (l.set k true) (nth xs k) else l
termination_by l.count false
decreasing_by
  have := count_set _h
  omega
theorem gone_stop {xs : List Int} {l : List Bool} {k : Nat} (h : l.getD k true = true) : gone xs l k = l := by
  rw [gone, dif_neg (by rw [h]; decide)]
theorem gone_step {xs : List Int} {l : List Bool} {k : Nat} (h : l.getD k true = false) : gone xs l k = gone xs (l.set k true) (nth xs k) := by
  rw [gone, dif_pos h]
/-- What was gone to, and how many rings there are, behind the first i. -/
def ringsTo (xs : List Int) (n : Nat) : Nat → List Bool × Nat
  | 0 => (List.replicate n false, 0)
  | i + 1 => let s := ringsTo xs n i; (gone xs s.1 i, if s.1.getD i true = false then s.2 + 1 else s.2)
def rings (xs : List Int) : Nat := (ringsTo xs xs.length xs.length).2
theorem gone_len (xs : List Int) : ∀ (m : Nat) (l : List Bool) (k : Nat), l.count false = m → (gone xs l k).length = l.length
  | m, l, k, hm => by
    cases h : l.getD k true
    · have := count_set h
      rw [gone_step h]
      cases m with
      | zero => omega
      | succ m => rw [gone_len xs m _ _ (by omega)]; simp
    · rw [gone_stop h]
theorem ringsTo_len (xs : List Int) (n : Nat) : ∀ i, (ringsTo xs n i).1.length = n
  | 0 => by simp [ringsTo]
  | i + 1 => by simp only [ringsTo]; rw [gone_len xs _ _ _ rfl, ringsTo_len xs n i]
theorem ringsTo_le (xs : List Int) (n : Nat) : ∀ i, (ringsTo xs n i).2 ≤ i
  | 0 => by simp [ringsTo]
  | i + 1 => by have := ringsTo_le xs n i; simp only [ringsTo]; split <;> omega
end Go.Proofs.Ytbhgdkkclefpnaa.Od
namespace Go.Proofs.Ytbhgdkkclefpnaa
open Go.RowKit

def bls (bs : List Bool) : List Value := bs.map fun b => .bool b
theorem bls_len (bs : List Bool) : (bls bs).length = bs.length := by simp [bls]
theorem bls_get (bs : List Bool) (j : Nat) (h : j < bs.length) (d : Bool) : (bls bs)[j]? = some (.bool (bs.getD j d)) := by simp [bls, h]
theorem bls_set (bs : List Bool) (j : Nat) (x : Bool) : (bls bs).set j (.bool x) = bls (bs.set j x) := by simp [bls, List.map_set]
theorem makeB_run (n : Nat) (hn : n ≤ 1048576) (w : World) : (Instr.makeSlice 77 (.int .i64 (n : Int)) (.int .i64 (n : Int))).run Try.prog w = .ok (.slice (some ⟨w.heap.size, 0, none⟩) n n) (w.alloc (.cells (madeCells #[.bool false] n) 4)) := by
  have h : (Try.prog.info? 4).map (fun i => (i.zero, i.size, i.bytes)) = some (some (.bool false), 1, 1) := by kernel_rfl
  obtain ⟨i, hi, hzz⟩ := Option.map_eq_some_iff.1 h
  simp only [Prod.mk.injEq] at hzz
  obtain ⟨hz, hs, hb⟩ := hzz
  have := run_make (P := Try.prog) w 77 4 i _ Try.underlying77 hi hz .i64 .i64 (n : Int) (n : Int) (by omega) (by omega) (by rw [hb]; omega) (by omega)
  simpa [hs, Value.cells] using this
theorem madeB_own (w : World) (n : Nat) (hn : n ≤ 1048576) : (w.alloc (.cells (madeCells #[.bool false] n) 4)).ownsRow w.heap.size 4 1 (.slice (some ⟨w.heap.size, 0, none⟩) n n) n (bls (List.replicate n false)) := by
  have h := World.ownsRow_lit (base := w.heap.size) (e := 4) (size := 1) w (madeCells #[.bool false] n) n (Nat.le_refl _) (by unfold maxLen; omega) (by simp [madeCells])
  rw [toList_madeCells_one] at h
  simpa [bls] using h

end Go.Proofs.Ytbhgdkkclefpnaa
namespace Go.Proofs.Ytbhgdkkclefpnaa
open Go.RowKit


theorem has_step {xs : List Int} {k : Nat} {x : Int} (hk : k < xs.length) (h : (xs.take k).contains x = false) (hne : (xs.getD k 0 == x) = false) : (xs.take (k + 1)).contains x = false := by
  rw [List.take_add_one]
  have e : xs[k]? = some (xs.getD k 0) := by simp [hk]
  simp only [e, Option.toList_some, List.contains_eq_mem, List.mem_append, List.mem_singleton, decide_eq_false_iff_not] at h ⊢
  simp only [beq_eq_false_iff_ne] at hne
  exact fun c => c.elim h (fun c => hne c.symm)
theorem has_yes {xs : List Int} {k : Nat} {x : Int} (hk : k < xs.length) (h : (xs.getD k 0 == x) = true) : xs.contains x = true := by
  have : xs.getD k 0 = x := by simpa using h
  rw [← this, Pf.getD_lt xs 0 hk]
  simp
set_option maxRecDepth 100000 in
set_option maxHeartbeats 1000000 in
theorem has7_any {a : Option Addr} {n c : Nat} {xs : List Int} {x : Int} {w : World} (hx : xs.length = n) (hn : n ≤ 1000) (ha : ARow w a xs) :
    Calls Try.prog 37 #[.slice a n c, .int .i64 x] w fun e w' => e = .returned (.bool (xs.contains x)) ∧ w' = w := by
  have HA := hide ha
  have HX := hide hx
  clear ha hx
  go_enter Try.func37, Try.ntmps37
  go_wp2_with fail
  go_loop [4, 6, 9] (fun s4 _ s => ∃ (k : Nat), s4 = .bool false ∧ s = .int .i64 k ∧ k ≤ n ∧ Hid ((xs.take k).contains x = false)) (fun _ _ s => n - (intOf s).toNat)
  case atStart => exact ⟨0, rfl, rfl, Nat.zero_le _, hide (by simp)⟩
  case round =>
    obtain ⟨k, rfl, rfl, hk, HK⟩ := hrel
    by_cases hlt : k < n
    · obtain ⟨b, off, rfl, r1⟩ := HA.out.at (i := k) (by rw [HX.out]; exact hlt)
      have i0 : (0 : Int) ≤ (k : Int) := by omega
      have i1 : (k : Int) < (n : Int) := by omega
      have HS := hide (has_step (x := x) (by rw [HX.out]; exact hlt) HK.out)
      have HY := hide (has_yes (x := x) (k := k) (xs := xs) (by rw [HX.out]; exact hlt))
      generalize xs.getD k 0 = y at *
      cases hb : (y == x)
      · have H1 := hide (HS.out hb)
        go_wp2_with fail
        go_round
        case rel => exact ⟨k + 1, rfl, by go_num, by omega, H1⟩
        case measure => simp only [intOf]; omega
      · have H1 := hide (HY.out hb)
        go_wp2_with fail
        go_ret
        exact ⟨ret_bool (H1.out.symm.trans (List.contains_eq_mem ..)), rfl⟩
    · have hke : k = n := by omega
      subst hke
      have H1 := hide (show xs.contains x = false by have := HK.out; rwa [← HX.out, List.take_length] at this)
      go_wp2_with fail
      go_ret
      exact ⟨ret_bool (H1.out.symm.trans (List.contains_eq_mem ..)), rfl⟩
theorem has7_eq {a : Option Addr} {n c : Nat} {xs : List Int} {x : Int} {w : World} {r : Bool} (hx : Hid (xs.length = n)) (hn : n ≤ 1000) (ha : Hid (ARow w a xs)) (h : Hid (xs.contains x = r)) :
    Calls Try.prog 37 #[.slice a n c, .int .i64 x] w fun e w' => e = .returned (.bool r) ∧ w' = w := h.out ▸ has7_any hx.out hn ha.out
theorem ARow.take {w : World} {a : Option Addr} {xs : List Int} (h : ARow w a xs) (k : Nat) : ARow w a (xs.take k) := by
  rcases h with h | ⟨b, off, ha, hb, hc⟩
  · exact Or.inl (by rw [h]; simp)
  · refine Or.inr ⟨b, off, ha, hb, fun i hi => ?_⟩
    rw [List.length_take] at hi
    rw [hc i (by omega)]
    simp [show i < k by omega]
end Go.Proofs.Ytbhgdkkclefpnaa
namespace Go.Proofs.Ytbhgdkkclefpnaa
open Go.RowKit

theorem g_own {w w' : World} {base e s n : Nat} {v : Value} {xs : List Value} (h : w.ownsRow base e s v n xs) (hb : Below w.heap.size w w') : w'.ownsRow base e s v n xs := by
  refine ⟨h.1, ?_⟩
  rcases h.2 with h0 | ⟨g, cap, cur, hv, hbg, hg, r⟩
  · exact Or.inl h0
  · exact Or.inr ⟨g, cap, cur, hv, hbg, (hb.block g (Array.getElem?_eq_some_iff.1 hg).1).trans hg, r⟩
/-- Nothing is turned but blocks from lo on and below hi. -/
def Rng (lo hi : Nat) (w w' : World) : Prop := w'.os = w.os ∧ w'.tape = w.tape ∧ w'.output = w.output ∧ w.heap.size ≤ w'.heap.size ∧ ∀ b, b < w.heap.size → (b < lo ∨ hi ≤ b) → w'.heap[b]? = w.heap[b]?
theorem Rng.refl (lo hi : Nat) (w : World) : Rng lo hi w w := ⟨rfl, rfl, rfl, Nat.le_refl _, fun _ _ _ => rfl⟩
theorem Rng.below {lo hi k : Nat} {w w' : World} (h : Rng lo hi w w') (hk : k ≤ lo) (hs : k ≤ w.heap.size) : Below k w w' := ⟨h.1, h.2.1, h.2.2.1, h.2.2.2.1, fun b hb => h.2.2.2.2 b (by omega) (Or.inl (by omega))⟩
theorem Rng.grown {lo hi g : Nat} {w w1 w2 : World} (h : Rng lo hi w w1) (hg : w1.grownBy w2 (some g)) (h1 : lo ≤ g) (h2 : g < hi) : Rng lo hi w w2 :=
  ⟨hg.os.trans h.1, hg.tape.trans h.2.1, hg.output.trans h.2.2.1, Nat.le_trans h.2.2.2.1 hg.size, fun b hb hh => (hg.block b (Nat.lt_of_lt_of_le hb h.2.2.2.1) (by simp; omega)).trans (h.2.2.2.2 b hb hh)⟩
theorem two_call8 {w w1 w2 : World} {b c o p : Nat} {v0 v1 : Value} (hb : b < w.heap.size) (hc : c < w.heap.size)
    (s : w1.cell? ⟨b, o, none⟩ = some v0 ∧ w1.cell? ⟨c, p, none⟩ = some v1 ∧ Below w.heap.size w w1 ∧ w.heap.size ≤ w1.heap.size) (hb2 : Below w1.heap.size w1 w2) :
    w2.cell? ⟨b, o, none⟩ = some v0 ∧ w2.cell? ⟨c, p, none⟩ = some v1 ∧ Below w.heap.size w w2 ∧ w.heap.size ≤ w2.heap.size := by
  obtain ⟨s0, s1, s4, s5⟩ := s
  exact ⟨(hb2.cell (p := ⟨b, o, none⟩) (Nat.lt_of_lt_of_le hb s5)).trans s0, (hb2.cell (p := ⟨c, p, none⟩) (Nat.lt_of_lt_of_le hc s5)).trans s1, s4.trans (hb2.mono s5), Nat.le_trans s5 hb2.size⟩
theorem lt_of_pw8 {gs : List Nat} (h : gs.Pairwise (· < ·)) {i t : Nat} (hi : i < t) (ht : t < gs.length) : gs.getD i 0 < gs.getD t 0 := by
  rw [Pf.getD_lt _ _ (show i < gs.length by omega), Pf.getD_lt _ _ ht]
  exact List.pairwise_iff_getElem.1 h i t (by omega) ht hi
end Go.Proofs.Ytbhgdkkclefpnaa
namespace Go.Proofs.Ytbhgdkkclefpnaa
open Go.RowKit

/-- A slice of yes and no, wherever it lies. -/
def BRow (w : World) (a : Option Addr) (xs : List Bool) : Prop := xs = [] ∨ ∃ b off, a = some ⟨b, off, none⟩ ∧ b < w.heap.size ∧ ∀ i, i < xs.length → w.cell? ⟨b, off + i, none⟩ = some (.bool (xs.getD i false))
theorem BRow.below {w w' : World} {a : Option Addr} {xs : List Bool} (h : BRow w a xs) (hB : Below w.heap.size w w') : BRow w' a xs := by
  rcases h with h | ⟨b, off, ha, hb, hc⟩
  · exact Or.inl h
  · exact Or.inr ⟨b, off, ha, Nat.lt_of_lt_of_le hb hB.size, fun i hi => (hB.cell (p := ⟨b, off + i, none⟩) hb).trans (hc i hi)⟩
theorem BRow.at {w : World} {a : Option Addr} {xs : List Bool} (h : BRow w a xs) {i : Nat} (hi : i < xs.length) : ∃ b off, a = some ⟨b, off, none⟩ ∧ b < w.heap.size ∧ w.cell? ⟨b, off + i, none⟩ = some (.bool (xs.getD i false)) := by
  rcases h with h | ⟨b, off, ha, hb, hc⟩
  · rw [h] at hi; simp at hi
  · exact ⟨b, off, ha, hb, hc i hi⟩
theorem brow_owns {w : World} {base e g n cap : Nat} {xs : List Bool} (hn : n = xs.length) (h : w.ownsRow base e 1 (.slice (some ⟨g, 0, none⟩) n cap) n (bls xs)) : BRow w (some ⟨g, 0, none⟩) xs := by
  subst hn
  refine Or.inr ⟨g, 0, rfl, (h.lt g rfl).2, fun i hi => ?_⟩
  rw [Nat.zero_add, h.cellAt i (by simpa using hi), bls_get xs i hi false]
/-- Fits, to be read: a list of lists. -/
def GRow (w : World) (a : Option Addr) (F : List (List Bool)) : Prop :=
  F = [] ∨ ∃ b off, a = some ⟨b, off, none⟩ ∧ b < w.heap.size ∧ ∀ i, i < F.length → ∃ ai ci, w.cell? ⟨b, off + i, none⟩ = some (.slice ai (F.getD i []).length ci) ∧ BRow w ai (F.getD i [])
theorem GRow.below {w w' : World} {a : Option Addr} {F : List (List Bool)} (h : GRow w a F) (hb : Below w.heap.size w w') : GRow w' a F := by
  rcases h with h | ⟨b, off, ha, hl, hc⟩
  · exact Or.inl h
  · refine Or.inr ⟨b, off, ha, Nat.lt_of_lt_of_le hl hb.size, fun i hi => ?_⟩
    obtain ⟨ai, ci, h1, h2⟩ := hc i hi
    exact ⟨ai, ci, (hb.cell (p := ⟨b, off + i, none⟩) hl).trans h1, h2.below hb⟩
theorem GRow.at {w : World} {a : Option Addr} {F : List (List Bool)} (h : GRow w a F) {i : Nat} (hi : i < F.length) : ∃ b off ai ci, a = some ⟨b, off, none⟩ ∧ b < w.heap.size ∧ w.cell? ⟨b, off + i, none⟩ = some (.slice ai (F.getD i []).length ci) ∧ BRow w ai (F.getD i []) := by
  rcases h with h | ⟨b, off, ha, hl, hc⟩
  · rw [h] at hi; simp at hi
  · obtain ⟨ai, ci, h1, h2⟩ := hc i hi
    exact ⟨b, off, ai, ci, ha, hl, h1, h2⟩
def GFits (F : List (List Bool)) : Prop := ∀ i, (F.getD i []).length ≤ maxLen
def gv (gs : List Nat) (F : List (List Bool)) (i : Nat) : Value := .slice (some ⟨gs.getD i 0, 0, none⟩) (F.getD i []).length (F.getD i []).length
def gvals (gs : List Nat) (F : List (List Bool)) (k m : Nat) : List Value := (List.range m).map fun i => if i < k then gv gs F i else .slice none 0 0
/-- The first k of m rows, each in a block of its own, all of them owned. -/
def GSo (w : World) (base B : Nat) (gs : List Nat) (F : List (List Bool)) (k m : Nat) : Prop :=
  gs.length = k ∧ w.ownsRow base 77 1 (.slice (some ⟨B, 0, none⟩) m m) m (gvals gs F k m) ∧ (∀ i, i < k → w.ownsRow base 4 1 (gv gs F i) (F.getD i []).length (bls (F.getD i []))) ∧ gs.Pairwise (· < ·) ∧ ∀ g ∈ gs, B < g
theorem GSo.below {w w' : World} {base B k m : Nat} {gs : List Nat} {F : List (List Bool)} (h : GSo w base B gs F k m) (hb : Below w.heap.size w w') : GSo w' base B gs F k m :=
  ⟨h.1, g_own h.2.1 hb, fun i hi => g_own (h.2.2.1 i hi) hb, h.2.2.2⟩
theorem GSo.at_mem {w : World} {base B k m : Nat} {gs : List Nat} {F : List (List Bool)} (h : GSo w base B gs F k m) {i : Nat} (hi : i < k) : gs.getD i 0 ∈ gs := by
  have hi' : i < gs.length := by rw [h.1]; exact hi
  rw [Pf.getD_lt _ _ hi']; exact List.getElem_mem _
theorem GSo.lt {w : World} {base B k m : Nat} {gs : List Nat} {F : List (List Bool)} (h : GSo w base B gs F k m) {g : Nat} (hg : g ∈ gs) : base ≤ g ∧ g < w.heap.size := by
  obtain ⟨i, hi, rfl⟩ := List.getElem_of_mem hg
  have := h.2.2.1 i (by rw [← h.1]; exact hi)
  have := this.lt (gs.getD i 0) rfl
  rwa [Pf.getD_lt _ _ hi] at this
theorem gvals_snoc {gs : List Nat} {F : List (List Bool)} {k m g n : Nat} (hk : gs.length = k) (hn : (F.getD k []).length = n) : (gvals gs F k m).set k (.slice (some ⟨g, 0, none⟩) n n) = gvals (gs ++ [g]) F (k + 1) m := by
  apply List.ext_getElem
  · simp [gvals]
  · intro i h1 h2
    simp only [gvals, List.length_map, List.length_range] at h2
    rw [List.getElem_set]
    by_cases e : k = i
    · subst e
      simp [gvals, gv, ← hn, ← hk]
    · simp only [e, if_false, gvals, List.getElem_map, List.getElem_range]
      by_cases hi : i < k
      · simp [hi, show i < k + 1 by omega, gv, hk]
      · simp [hi, show ¬ i < k + 1 by omega]
theorem GSo.step {w w2 : World} {base B k m g n : Nat} {gs : List Nat} {F : List (List Bool)} (h : GSo w base B gs F k m) (hb : Below w.heap.size w w2) (hbase : base ≤ w.heap.size)
    (own : w2.ownsRow w.heap.size 4 1 (.slice (some ⟨g, 0, none⟩) n n) n (bls (F.getD k []))) (hn : (F.getD k []).length = n) :
    GSo (w2.setCell ⟨B, k, none⟩ (.slice (some ⟨g, 0, none⟩) n n)) base B (gs ++ [g]) F (k + 1) m := by
  obtain ⟨hB0, hB1⟩ := h.2.1.lt B rfl
  obtain ⟨hg0, hg1⟩ := own.lt g rfl
  obtain ⟨st1, st2⟩ := (g_own h.2.1 hb).stored k (.slice (some ⟨g, 0, none⟩) n n)
  rw [gvals_snoc h.1 hn] at st1
  refine ⟨by simp [h.1], st1, fun i hi => ?_, ?_, ?_⟩
  · by_cases e : i = k
    · subst e
      have e1 : gv (gs ++ [g]) F i = .slice (some ⟨g, 0, none⟩) n n := by simp [gv, ← h.1, ← hn]
      rw [e1, hn]
      exact (owns_low own hbase).kept st2 (Or.inr (by simp [Value.ownBlock]; omega))
    · have hi' : i < k := by omega
      have e1 : gv (gs ++ [g]) F i = gv gs F i := by simp [gv, List.getElem?_append, h.1, hi']
      rw [e1]
      have hm := h.2.2.2.2 _ (h.at_mem hi')
      exact (g_own (h.2.2.1 i hi') hb).kept st2 (Or.inr (by simp only [gv, Value.ownBlock, ne_eq, Option.some.injEq]; omega))
  · rw [List.pairwise_append]
    refine ⟨h.2.2.2.1, by simp, fun a ha b hb' => ?_⟩
    simp at hb'
    have := (h.lt ha).2
    omega
  · intro x hx
    rcases List.mem_append.1 hx with hx | hx
    · exact h.2.2.2.2 x hx
    · simp at hx; omega
/-- Fits of one's own, all of them below hi. -/
def GOw (w : World) (B hi : Nat) (F : List (List Bool)) : Prop := hi ≤ w.heap.size ∧ B < hi ∧ ∃ gs, (∀ g ∈ gs, g < hi) ∧ GSo w B B gs F F.length F.length
theorem GOw.below {w w' : World} {B hi : Nat} {F : List (List Bool)} (h : GOw w B hi F) (hb : Below w.heap.size w w') : GOw w' B hi F := by
  obtain ⟨h1, h2, gs, h3, h4⟩ := h
  exact ⟨Nat.le_trans h1 hb.size, h2, gs, h3, h4.below hb⟩
theorem GOw.row {w : World} {B hi : Nat} {F : List (List Bool)} (h : GOw w B hi F) : GRow w (some ⟨B, 0, none⟩) F := by
  obtain ⟨h1, h2, gs, h3, h⟩ := h
  refine Or.inr ⟨B, 0, rfl, (h.2.1.lt B rfl).2, fun i hi => ⟨_, (F.getD i []).length, ?_, brow_owns rfl (h.2.2.1 i hi)⟩⟩
  rw [Nat.zero_add, h.2.1.cellAt i (by omega)]
  simp [gvals, hi, gv]
end Go.Proofs.Ytbhgdkkclefpnaa
namespace Go.Proofs.Ytbhgdkkclefpnaa
open Go.RowKit

set_option maxRecDepth 100000 in
set_option maxHeartbeats 1000000 in
theorem ix_any {a : Option Addr} {n c : Nat} {xs : List Int} {x : Int} {w : World} (hx : xs.length = n) (hn : n ≤ 1048576) (ha : ARow w a xs) :
    Calls Try.prog 52 #[.slice a n c, .int .i64 x] w fun e w' => e = .returned (.int .i64 (Ma.idx xs x)) ∧ w' = w := by
  have HA := hide ha
  have HX := hide hx
  clear ha hx
  go_enter Try.func52, Try.ntmps52
  go_wp2_with fail
  go_loop [4, 5, 8] (fun s4 _ s => ∃ (k : Nat), s4 = .int .i64 0 ∧ s = .int .i64 k ∧ k ≤ n ∧ Hid (∀ j, j < k → (xs.getD j 0 == x) = false)) (fun _ _ s => n - (intOf s).toNat)
  case atStart => exact ⟨0, rfl, rfl, Nat.zero_le _, hide fun i hi => absurd hi (Nat.not_lt_zero _)⟩
  case round =>
    obtain ⟨k, rfl, rfl, hk, HK⟩ := hrel
    by_cases hlt : k < n
    · obtain ⟨b, off, rfl, r1⟩ := HA.out.at (i := k) (by rw [HX.out]; exact hlt)
      have i0 : (0 : Int) ≤ (k : Int) := by omega
      have i1 : (k : Int) < (n : Int) := by omega
      have HY := hide fun (h : (xs.getD k 0 == x) = true) => Ma.idx_at (show k < xs.length by rw [HX.out]; exact hlt) h HK.out
      generalize hy : xs.getD k 0 = y at *
      cases hb : (y == x)
      · have hb' : (x == y) = false := by rw [beq_eq_false_iff_ne] at hb ⊢; exact fun e => hb e.symm
        have H1 : Hid (∀ j, j < k + 1 → (xs.getD j 0 == x) = false) := hide fun j hj => by
          by_cases e : j = k
          · subst e; rw [hy]; exact hb
          · exact HK.out j (by omega)
        clear hy
        go_wp2_with fail
        go_round
        case rel => exact ⟨k + 1, rfl, by go_num, by omega, H1⟩
        case measure => simp only [intOf]; omega
      · have hb' : (x == y) = true := by rw [beq_iff_eq] at hb ⊢; exact hb.symm
        have H1 := hide (HY.out hb)
        clear hy
        go_wp2_with fail
        go_ret
        exact ⟨ret_int H1.out.symm, rfl⟩
    · have hke : k = n := by omega
      subst hke
      have H1 := hide (Ma.idx_none (xs := xs) (x := x) (by rw [HX.out]; exact HK.out))
      go_wp2_with fail
      go_ret
      exact ⟨ret_int H1.out.symm, rfl⟩
set_option maxRecDepth 100000 in
set_option maxHeartbeats 1000000 in
theorem con_any {a : Option Addr} {n c : Nat} {xs : List Int} {x : Int} {w : World} (hx : xs.length = n) (hn : n ≤ 1048576) (ha : ARow w a xs) :
    Calls Try.prog 34 #[.slice a n c, .int .i64 x] w fun e w' => e = .returned (.bool (xs.contains x)) ∧ w' = w := by
  have HC := hide (ix_any (c := c) (x := x) hx hn ha)
  have HE := hide (Ma.idx_has xs x)
  generalize Ma.idx xs x = q at *
  clear ha hx
  go_enter Try.func34, Try.ntmps34
  go_wp2_with fail
  refine HC.out.mono ?_
  rintro e w1 ⟨rfl, rfl⟩
  go_wp2_with fail
  go_ret
  exact ⟨ret_bool HE.out, rfl⟩
theorem con_eq {a : Option Addr} {n c : Nat} {xs : List Int} {x : Int} {w : World} {r : Bool} (hx : Hid (xs.length = n)) (hn : n ≤ 1048576) (ha : Hid (ARow w a xs)) (h : Hid (xs.contains x = r)) :
    Calls Try.prog 34 #[.slice a n c, .int .i64 x] w fun e w' => e = .returned (.bool r) ∧ w' = w := h.out ▸ con_any hx.out hn ha.out
theorem hasn_eq {F : List (List Bool)} {n : Nat} (h : F.length = n) (h0 : n = 0) : Ma.bins F = 0 := by
  have : F = [] := List.length_eq_zero_iff.1 (h.trans h0)
  subst this; rfl
theorem GRow.zero {w : World} {a : Option Addr} {F : List (List Bool)} (h : GRow w a F) (h0 : 0 < F.length) : ∃ b off a0 c0, a = some ⟨b, off, none⟩ ∧ b < w.heap.size ∧ w.cell? ⟨b, off, none⟩ = some (.slice a0 (Ma.bins F) c0) := by
  obtain ⟨b, off, ai, ci, h1, h2, h3, _⟩ := h.at h0
  exact ⟨b, off, ai, ci, h1, h2, h3⟩
end Go.Proofs.Ytbhgdkkclefpnaa
namespace Go.Proofs.Ytbhgdkkclefpnaa
open Go.RowKit

theorem all_10 {a : Option Addr} {n c : Nat} {xs : List Int} {lo hi : Int} {w : World} {r : Bool} (h : Hid (ARow w a xs)) (hn : Hid (xs.length = n)) (hl : n ≤ 1000) (hr : Hid (Pf.allB xs lo hi = r)) :
    Calls Try.prog 38 #[.slice a n c, .int .i64 lo, .int .i64 hi] w fun e w' => e = .returned (.bool r) ∧ w' = w := by
  have := hn.out
  subst this
  exact all_eq h.out (by omega) hr.out
set_option maxRecDepth 100000 in
set_option maxHeartbeats 2000000 in
theorem tw_any {a : Option Addr} {n c : Nat} {xs : List Int} {w : World} (hx : xs.length = n) (hn : n ≤ 1000) (hc : n ≤ c) (ha : ARow w a xs) :
    Calls Try.prog 35 #[.slice a n c] w fun e w' => e = .returned (.bool (Mx.twiceB xs)) ∧ w' = w := by
  have HA := hide ha
  have HX := hide hx
  clear ha hx
  go_enter Try.func35, Try.ntmps35
  go_wp2_with fail
  go_loop [2, 3, 4, 7] (fun s2 _ _ s => ∃ (k : Nat), s2 = .bool false ∧ s = .int .i64 k ∧ k ≤ n ∧ Hid (∀ i, i < k → Mx.twiceAt xs i = false)) (fun _ _ _ s => n - (intOf s).toNat)
  case atStart => exact ⟨0, rfl, rfl, Nat.zero_le _, hide fun i hi => absurd hi (Nat.not_lt_zero _)⟩
  case round =>
    obtain ⟨k, rfl, rfl, hk, HK⟩ := hrel
    by_cases hlt : k < n
    · obtain ⟨b, off, rfl, r1⟩ := HA.out.at (i := k) (by rw [HX.out]; exact hlt)
      have i0 : (0 : Int) ≤ (k : Int) := by omega
      have i1 : (k : Int) < (n : Int) := by omega
      have i2 : (k : Int) ≤ (c : Int) := by omega
      have HTL := hide (show (xs.take k).length = k by rw [List.length_take, HX.out]; omega)
      have HTR := hide (HA.out.take k)
      have HNX : Hid (Mx.twiceAt xs k = false → ∀ i, i < k + 1 → Mx.twiceAt xs i = false) := hide fun h i hi => by
        by_cases e : i = k
        · subst e; exact h
        · exact HK.out i (by omega)
      generalize hx : xs.getD k 0 = x at r1
      have HT : Hid (Mx.twiceAt xs k = ((x != 0) && (xs.take k).contains x)) := hide (by unfold Mx.twiceAt; rw [hx])
      have HY := hide fun (h : Mx.twiceAt xs k = true) => Mx.twice_yes (show k < xs.length by rw [HX.out]; exact hlt) h
      clear hx
      cases hb : (x != 0)
      · have H1 := hide (HNX.out (by rw [HT.out, hb]; rfl))
        go_wp2_with fail
        go_round
        case rel => exact ⟨k + 1, rfl, by go_num, by omega, H1⟩
        case measure => simp only [intOf]; omega
      · cases hs : (xs.take k).contains x
        · have H1 := hide (HNX.out (by rw [HT.out, hb, hs]; rfl))
          have HS := hide hs
          clear hs
          go_wp2_with fail
          refine (con_eq HTL (by omega) HTR HS).mono ?_
          rintro e w1 ⟨rfl, rfl⟩
          go_wp2_with fail
          go_round
          case rel => exact ⟨k + 1, rfl, by go_num, by omega, H1⟩
          case measure => simp only [intOf]; omega
        · have H1 := hide (HY.out (by rw [HT.out, hb, hs]; rfl))
          have HS := hide hs
          clear hs
          go_wp2_with fail
          refine (con_eq HTL (by omega) HTR HS).mono ?_
          rintro e w1 ⟨rfl, rfl⟩
          go_wp2_with fail
          go_ret
          exact ⟨ret_bool H1.out.symm, rfl⟩
    · have hke : k = n := by omega
      subst hke
      have H1 := hide (Mx.twice_no (xs := xs) (by rw [HX.out]; exact HK.out))
      go_wp2_with fail
      go_ret
      exact ⟨ret_bool H1.out.symm, rfl⟩
theorem tw_eq {a : Option Addr} {n c : Nat} {xs : List Int} {w : World} {r : Bool} (hx : Hid (xs.length = n)) (hn : n ≤ 1000) (hc : n ≤ c) (ha : Hid (ARow w a xs)) (h : Hid (Mx.twiceB xs = r)) :
    Calls Try.prog 35 #[.slice a n c] w fun e w' => e = .returned (.bool r) ∧ w' = w := h.out ▸ tw_any hx.out hn hc ha.out
theorem goodS_eq {xs : List Int} {n : Nat} (hx : xs.length = n) : Mx.goodB xs = ((decide (2 ≤ n) && decide (n ≤ 9)) && (Pf.allB xs 0 20 && (xs.contains 0 && !Mx.twiceB xs))) := by subst hx; rfl
set_option maxRecDepth 100000 in
set_option maxHeartbeats 2000000 in
theorem gs_any {a : Option Addr} {n c : Nat} {xs : List Int} {w : World} (hx : xs.length = n) (hc : n ≤ c) (ha : ARow w a xs) :
    Calls Try.prog 10 #[.slice a n c] w fun e w' => e = .returned (.bool (Mx.goodB xs)) ∧ w' = w := by
  have HA := hide ha
  have HX := hide hx
  have HE := hide (goodS_eq hx)
  generalize Mx.goodB xs = R at *
  clear ha hx
  by_cases hl : 2 ≤ n ∧ n ≤ 9
  · have hb : Pf.inB (n : Int) 2 9 = true := Pf.inB_of (by omega) (by omega)
    have e0 : (decide (2 ≤ n) && decide (n ≤ 9)) = true := by simp [hl.1, hl.2]
    cases h1 : Pf.allB xs 0 20
    · have HR : Hid (R = false) := hide (by rw [HE.out, e0, h1]; rfl)
      have H1 := hide h1
      clear h1 HE
      go_enter Try.func10, Try.ntmps10
      go_wp2_with fail
      refine (between_eq hb).mono ?_
      rintro e w1 ⟨rfl, rfl⟩
      go_wp2_with fail
      refine (areb_eqn HA HX (by omega) H1).mono ?_
      rintro e w1 ⟨rfl, rfl⟩
      go_wp2_with fail
      go_ret
      exact ⟨ret_bool HR.out.symm, rfl⟩
    · cases h2 : xs.contains 0
      · have HR : Hid (R = false) := hide (by rw [HE.out, e0, h1, h2]; rfl)
        have H1 := hide h1
        have H2 := hide h2
        clear h1 h2 HE
        go_enter Try.func10, Try.ntmps10
        go_wp2_with fail
        refine (between_eq hb).mono ?_
        rintro e w1 ⟨rfl, rfl⟩
        go_wp2_with fail
        refine (areb_eqn HA HX (by omega) H1).mono ?_
        rintro e w1 ⟨rfl, rfl⟩
        go_wp2_with fail
        refine (con_eq HX (by omega) HA H2).mono ?_
        rintro e w1 ⟨rfl, rfl⟩
        go_wp2_with fail
        go_ret
        exact ⟨ret_bool HR.out.symm, rfl⟩
      · have HR : Hid (R = !Mx.twiceB xs) := hide (by rw [HE.out, e0, h1, h2]; rfl)
        have H1 := hide h1
        have H2 := hide h2
        have H3 : Hid (Mx.twiceB xs = !R) := hide (by rw [HR.out]; simp)
        clear h1 h2 HE HR
        go_enter Try.func10, Try.ntmps10
        go_wp2_with fail
        refine (between_eq hb).mono ?_
        rintro e w1 ⟨rfl, rfl⟩
        go_wp2_with fail
        refine (areb_eqn HA HX (by omega) H1).mono ?_
        rintro e w1 ⟨rfl, rfl⟩
        go_wp2_with fail
        refine (con_eq HX (by omega) HA H2).mono ?_
        rintro e w1 ⟨rfl, rfl⟩
        cases R
        · go_wp2_with fail
          refine (tw_eq HX (by omega) hc HA H3).mono ?_
          rintro e w1 ⟨rfl, rfl⟩
          go_wp2_with fail
          go_ret
          exact ⟨rfl, rfl⟩
        · go_wp2_with fail
          refine (tw_eq HX (by omega) hc HA H3).mono ?_
          rintro e w1 ⟨rfl, rfl⟩
          go_wp2_with fail
          go_ret
          exact ⟨rfl, rfl⟩
  · have hb : Pf.inB (n : Int) 2 9 = false := by
      cases e : Pf.inB (n : Int) 2 9
      · rfl
      · have := Pf.inB_yes e; omega
    have e0 : (decide (2 ≤ n) && decide (n ≤ 9)) = false := by
      cases e : (decide (2 ≤ n) && decide (n ≤ 9))
      · rfl
      · simp only [Bool.and_eq_true, decide_eq_true_eq] at e; exact absurd e hl
    have HR : Hid (R = false) := hide (by rw [HE.out, e0]; rfl)
    clear HE e0
    go_enter Try.func10, Try.ntmps10
    go_wp2_with fail
    refine (between_eq hb).mono ?_
    rintro e w1 ⟨rfl, rfl⟩
    go_wp2_with fail
    go_ret
    exact ⟨ret_bool HR.out.symm, rfl⟩
theorem gs_eq {a : Option Addr} {n c : Nat} {xs : List Int} {w : World} {r : Bool} (hx : Hid (xs.length = n)) (hc : n ≤ c) (ha : Hid (ARow w a xs)) (h : Hid (Mx.goodB xs = r)) :
    Calls Try.prog 10 #[.slice a n c] w fun e w' => e = .returned (.bool r) ∧ w' = w := h.out ▸ gs_any hx.out hc ha.out
set_option maxRecDepth 100000 in
set_option maxHeartbeats 2000000 in
theorem sgs_yes {a : Option Addr} {n c : Nat} {xs : List Int} {w : World} (hx : xs.length = n) (hl : 2 ≤ n ∧ n ≤ 9) (hc : n ≤ c) (h1 : Pf.allB xs 0 20 = true) (h2 : xs.contains 0 = true) (ha : ARow w a xs) :
    Calls Try.prog 11 #[.slice a n c] w fun e w' => e = .returned (.bool (!Mx.twiceB xs)) ∧ w' = w := by
  have hb : Pf.inB (n : Int) 2 9 = true := Pf.inB_of (by omega) (by omega)
  have HA := hide ha
  have HX := hide hx
  have H1 := hide h1
  have H2 := hide h2
  have n9 := hl.2
  clear ha hx h1 h2 hl
  go_enter Try.func11, Try.ntmps11
  go_wp2_with fail
  refine (in_eq hb).mono ?_
  rintro e w1 ⟨rfl, rfl⟩
  go_wp2_with fail
  refine (has7_eq HX (by omega) HA H2).mono ?_
  rintro e w1 ⟨rfl, rfl⟩
  go_wp2_with fail
  refine (all_10 HA HX (by omega) H1).mono ?_
  rintro e w1 ⟨rfl, rfl⟩
  go_wp2_with fail
  go_loop [2, 3, 4, 21] (fun s2 _ _ s => ∃ (k : Nat), s2 = .bool false ∧ s = .int .i64 k ∧ k ≤ n ∧ Hid (∀ i, i < k → Mx.twiceAt xs i = false)) (fun _ _ _ s => n - (intOf s).toNat)
  case atStart => exact ⟨0, rfl, rfl, Nat.zero_le _, hide fun i hi => absurd hi (Nat.not_lt_zero _)⟩
  case round =>
    obtain ⟨k, rfl, rfl, hk, HK⟩ := hrel
    by_cases hlt : k < n
    · obtain ⟨b, off, rfl, r1⟩ := HA.out.at (i := k) (by rw [HX.out]; exact hlt)
      have i0 : (0 : Int) ≤ (k : Int) := by omega
      have i1 : (k : Int) < (n : Int) := by omega
      have i2 : (k : Int) ≤ (c : Int) := by omega
      have HTL := hide (show (xs.take k).length = k by rw [List.length_take, HX.out]; omega)
      have HTR := hide (HA.out.take k)
      have HNX : Hid (Mx.twiceAt xs k = false → ∀ i, i < k + 1 → Mx.twiceAt xs i = false) := hide fun h i hi => by
        by_cases e : i = k
        · subst e; exact h
        · exact HK.out i (by omega)
      have bx := Pf.inB_yes (Pf.allB_get H1.out (show k < xs.length by rw [HX.out]; exact hlt))
      generalize hx : xs.getD k 0 = x at r1 bx
      have HT : Hid (Mx.twiceAt xs k = ((x != 0) && (xs.take k).contains x)) := hide (by unfold Mx.twiceAt; rw [hx])
      have HY := hide fun (h : Mx.twiceAt xs k = true) => Mx.twice_yes (show k < xs.length by rw [HX.out]; exact hlt) h
      clear hx
      by_cases hg : 0 < x
      · have hb : (x != 0) = true := by simp; omega
        cases hs : (xs.take k).contains x
        · have H3 := hide (HNX.out (by rw [HT.out, hb, hs]; rfl))
          have HS := hide hs
          clear hs hb
          go_wp2_with fail
          refine (has7_eq HTL (by omega) HTR HS).mono ?_
          rintro e w1 ⟨rfl, rfl⟩
          go_wp2_with fail
          go_round
          case rel => exact ⟨k + 1, rfl, by go_num, by omega, H3⟩
          case measure => simp only [intOf]; omega
        · have H3 := hide (HY.out (by rw [HT.out, hb, hs]; rfl))
          have HS := hide hs
          clear hs hb
          go_wp2_with fail
          refine (has7_eq HTL (by omega) HTR HS).mono ?_
          rintro e w1 ⟨rfl, rfl⟩
          go_wp2_with fail
          go_ret
          exact ⟨ret_bool (by rw [H3.out]; rfl), rfl⟩
      · have hb : (x != 0) = false := by simp; omega
        have H3 := hide (HNX.out (by rw [HT.out, hb]; rfl))
        clear hb
        go_wp2_with fail
        go_round
        case rel => exact ⟨k + 1, rfl, by go_num, by omega, H3⟩
        case measure => simp only [intOf]; omega
    · have hke : k = n := by omega
      subst hke
      have H3 := hide (Mx.twice_no (xs := xs) (by rw [HX.out]; exact HK.out))
      go_wp2_with fail
      go_ret
      exact ⟨ret_bool (by rw [H3.out]; rfl), rfl⟩
set_option maxRecDepth 100000 in
set_option maxHeartbeats 2000000 in
theorem sgs_any {a : Option Addr} {n c : Nat} {xs : List Int} {w : World} (hx : xs.length = n) (hc : n ≤ c) (ha : ARow w a xs) :
    Calls Try.prog 11 #[.slice a n c] w fun e w' => e = .returned (.bool (Mx.goodB xs)) ∧ w' = w := by
  by_cases hl : 2 ≤ n ∧ n ≤ 9
  · have hb : Pf.inB (n : Int) 2 9 = true := Pf.inB_of (by omega) (by omega)
    have e0 : (decide (2 ≤ n) && decide (n ≤ 9)) = true := by simp [hl.1, hl.2]
    have HE := goodS_eq hx
    have HA := hide ha
    have HX := hide hx
    have n9 := hl.2
    cases h2 : xs.contains 0
    · have HR : Hid (Mx.goodB xs = false) := hide (by rw [HE, e0, h2]; simp)
      have H2 := hide h2
      generalize Mx.goodB xs = R at *
      clear h2 HE ha hx hl e0
      go_enter Try.func11, Try.ntmps11
      go_wp2_with fail
      refine (in_eq hb).mono ?_
      rintro e w1 ⟨rfl, rfl⟩
      go_wp2_with fail
      refine (has7_eq HX (by omega) HA H2).mono ?_
      rintro e w1 ⟨rfl, rfl⟩
      go_wp2_with fail
      go_ret
      exact ⟨ret_bool HR.out.symm, rfl⟩
    · cases h1 : Pf.allB xs 0 20
      · have HR : Hid (Mx.goodB xs = false) := hide (by rw [HE, e0, h1]; rfl)
        have H2 := hide h2
        have H1 := hide h1
        generalize Mx.goodB xs = R at *
        clear h1 h2 HE ha hx hl e0
        go_enter Try.func11, Try.ntmps11
        go_wp2_with fail
        refine (in_eq hb).mono ?_
        rintro e w1 ⟨rfl, rfl⟩
        go_wp2_with fail
        refine (has7_eq HX (by omega) HA H2).mono ?_
        rintro e w1 ⟨rfl, rfl⟩
        go_wp2_with fail
        refine (all_10 HA HX (by omega) H1).mono ?_
        rintro e w1 ⟨rfl, rfl⟩
        go_wp2_with fail
        go_ret
        exact ⟨ret_bool HR.out.symm, rfl⟩
      · have e1 : Mx.goodB xs = !Mx.twiceB xs := by rw [HE, e0, h1, h2]; rfl
        rw [e1]
        exact sgs_yes hx hl hc h1 h2 ha
  · have hb : Pf.inB (n : Int) 2 9 = false := by
      cases e : Pf.inB (n : Int) 2 9
      · rfl
      · have := Pf.inB_yes e; omega
    have HR : Hid (Mx.goodB xs = false) := hide (Mx.good_few (by rw [hx]; exact hl))
    generalize Mx.goodB xs = R at *
    clear ha hx hl
    go_enter Try.func11, Try.ntmps11
    go_wp2_with fail
    refine (in_eq hb).mono ?_
    rintro e w1 ⟨rfl, rfl⟩
    go_wp2_with fail
    go_ret
    exact ⟨ret_bool HR.out.symm, rfl⟩
theorem sgs_eq {a : Option Addr} {n c : Nat} {xs : List Int} {w : World} {r : Bool} (hx : Hid (xs.length = n)) (hc : n ≤ c) (ha : Hid (ARow w a xs)) (h : Hid (Mx.goodB xs = r)) :
    Calls Try.prog 11 #[.slice a n c] w fun e w' => e = .returned (.bool r) ∧ w' = w := h.out ▸ sgs_any hx.out hc ha.out
end Go.Proofs.Ytbhgdkkclefpnaa
namespace Go.Proofs
open Go.Shelf
def Try.lays189_ren : Go.Shelf.Ren := ⟨fun | 189 => 55 | 125 => 59 | 257 => 58 | 128 => 69 | 129 => 70 | 294 => 60 | 295 => 61 | 296 => 62 | 297 => 63 | 298 => 64 | 299 => 65 | 216 => 66 | 300 => 67 | 301 => 68 | 328 => 71 | 329 => 72 | 330 => 73 | 331 => 74 | 332 => 75 | 215 => 76 | 343 => 77 | n => n, fun | 28 => 23 | 3 => 3 | 46 => 80 | 0 => 0 | 51 => 92 | 53 => 47 | 4 => 4 | 183 => 86 | 182 => 85 | 131 => 29 | 5 => 5 | 9 => 9 | 218 => 94 | 222 => 98 | 228 => 100 | 229 => 61 | n => n, fun | n => n⟩
theorem Try.lays189 : Go.Proofs.Lays.n189 Try.prog Try.lays189_ren := {
  mixed := by kernel_rfl
  f125 := Try.func59.trans (congrArg some (by kernel_rfl))
  f128 := Try.func69.trans (congrArg some (by kernel_rfl))
  f129 := Try.func70.trans (congrArg some (by kernel_rfl))
  f189 := Try.func55.trans (congrArg some (by kernel_rfl))
  f215 := Try.func76.trans (congrArg some (by kernel_rfl))
  f216 := Try.func66.trans (congrArg some (by kernel_rfl))
  f257 := Try.func58.trans (congrArg some (by kernel_rfl))
  f294 := Try.func60.trans (congrArg some (by kernel_rfl))
  f295 := Try.func61.trans (congrArg some (by kernel_rfl))
  f296 := Try.func62.trans (congrArg some (by kernel_rfl))
  f297 := Try.func63.trans (congrArg some (by kernel_rfl))
  f298 := Try.func64.trans (congrArg some (by kernel_rfl))
  f299 := Try.func65.trans (congrArg some (by kernel_rfl))
  f300 := Try.func67.trans (congrArg some (by kernel_rfl))
  f301 := Try.func68.trans (congrArg some (by kernel_rfl))
  f328 := Try.func71.trans (congrArg some (by kernel_rfl))
  f329 := Try.func72.trans (congrArg some (by kernel_rfl))
  f330 := Try.func73.trans (congrArg some (by kernel_rfl))
  f331 := Try.func74.trans (congrArg some (by kernel_rfl))
  f332 := Try.func75.trans (congrArg some (by kernel_rfl))
  f343 := Try.func77.trans (congrArg some (by kernel_rfl))
  t0 := Try.underlying0
  a0 := Try.isAgg0
  z0 := Try.sizeOf0
  v0 := Try.zeroValue0
  t3 := Try.underlying3
  a3 := Try.isAgg3
  z3 := Try.sizeOf3
  v3 := Try.zeroValue3
  t4 := Try.underlying4
  a4 := Try.isAgg4
  z4 := Try.sizeOf4
  v4 := Try.zeroValue4
  t5 := Try.underlying5
  a5 := Try.isAgg5
  z5 := Try.sizeOf5
  v5 := Try.zeroValue5
  t9 := Try.underlying9
  a9 := Try.isAgg9
  z9 := Try.sizeOf9
  v9 := Try.zeroValue9
  t28 := Try.underlying23
  a28 := Try.isAgg23
  z28 := Try.sizeOf23
  v28 := Try.zeroValue23
  t46 := Try.underlying80
  a46 := Try.isAgg80
  z46 := Try.sizeOf80
  v46 := Try.zeroValue80
  t51 := Try.underlying92
  a51 := Try.isAgg92
  z51 := Try.sizeOf92
  v51 := Try.zeroValue92
  t53 := Try.underlying47
  a53 := Try.isAgg47
  z53 := Try.sizeOf47
  v53 := Try.zeroValue47
  t131 := Try.underlying29
  a131 := Try.isAgg29
  z131 := Try.sizeOf29
  v131 := Try.zeroValue29
  t182 := Try.underlying85
  a182 := Try.isAgg85
  z182 := Try.sizeOf85
  v182 := Try.zeroValue85
  t183 := Try.underlying86
  a183 := Try.isAgg86
  z183 := Try.sizeOf86
  v183 := Try.zeroValue86
  t218 := Try.underlying94
  a218 := Try.isAgg94
  z218 := Try.sizeOf94
  v218 := Try.zeroValue94
  t222 := Try.underlying98
  a222 := Try.isAgg98
  z222 := Try.sizeOf98
  v222 := Try.zeroValue98
  t228 := Try.underlying100
  a228 := Try.isAgg100
  z228 := Try.sizeOf100
  v228 := Try.zeroValue100
  t229 := Try.underlying61
  a229 := Try.isAgg61
  z229 := Try.sizeOf61
  v229 := Try.zeroValue61 }
open Go.Sort Go.RowKit in
theorem Try.slices_Sort_int (blk off cap : Nat) (zs : List Int) (w : World) (hH : Holds (Value.int .i64) w blk off zs.toArray) (hblk : blk < w.heap.size) (hsz : zs.length < 4611686018427387904) :
    Calls Try.prog 55 #[.slice (some ⟨blk, off, none⟩) zs.length cap] w fun e w' =>
      e = .returned (.tuple #[]) ∧ ∃ n os, w' = grow (putRow (Value.int .i64) (Sort.ahead w n) blk off (zs.mergeSort fun x y => decide (x ≤ y)).toArray) os := Any.slices_Sort_int Try.lays189 blk off cap zs w hH hblk hsz
def Try.lays111_ren : Go.Shelf.Ren := ⟨fun | 111 => 45 | n => n, fun | 28 => 23 | 3 => 3 | 4 => 4 | 0 => 0 | n => n, fun | n => n⟩
theorem Try.lays111 : Go.Proofs.Lays.n111 Try.prog Try.lays111_ren := {
  mixed := by kernel_rfl
  f111 := Try.func45.trans (congrArg some (by kernel_rfl))
  t0 := Try.underlying0
  a0 := Try.isAgg0
  z0 := Try.sizeOf0
  v0 := Try.zeroValue0
  t3 := Try.underlying3
  a3 := Try.isAgg3
  z3 := Try.sizeOf3
  v3 := Try.zeroValue3
  t4 := Try.underlying4
  a4 := Try.isAgg4
  z4 := Try.sizeOf4
  v4 := Try.zeroValue4
  t28 := Try.underlying23
  a28 := Try.isAgg23
  z28 := Try.sizeOf23
  v28 := Try.zeroValue23 }
open Go.RowKit Go.Lib in
theorem Try.slices_Equal_int (b1 o1 n c b2 o2 m d : Nat) (xs ys : List Int) (w : World) (hx : n ≤ xs.length) (hy : m ≤ ys.length) (hbig : n ≤ 9223372036854775807) (hbig2 : m ≤ 9223372036854775807) (hc1 : ∀ j, j < xs.length → w.cell? ⟨b1, o1 + j, none⟩ = some (.int .i64 (xs.getD j 0))) (hc2 : ∀ j, j < ys.length → w.cell? ⟨b2, o2 + j, none⟩ = some (.int .i64 (ys.getD j 0))) :
    Calls Try.prog 45 #[.slice (some ⟨b1, o1, none⟩) n c, .slice (some ⟨b2, o2, none⟩) m d] w fun e w' => e = .returned (.bool (xs.take n == ys.take m)) ∧ ∃ q, w' = w.drewN q := Any.slices_Equal_int Try.lays111 b1 o1 n c b2 o2 m d xs ys w hx hy hbig hbig2 hc1 hc2
def Try.laysNm215_ren : Go.Shelf.Ren := ⟨fun | 15 => 24 | n => n, fun | 22 => 23 | 3 => 3 | 4 => 4 | n => n, fun | n => n⟩
theorem Try.laysNm215 : Go.Proofs.Lays2.n15 Try.prog Try.laysNm215_ren := {
  mixed := by kernel_rfl
  f15 := Try.func24.trans (congrArg some (by kernel_rfl))
  t3 := Try.underlying3
  a3 := Try.isAgg3
  z3 := Try.sizeOf3
  v3 := Try.zeroValue3
  t4 := Try.underlying4
  a4 := Try.isAgg4
  z4 := Try.sizeOf4
  v4 := Try.zeroValue4
  t22 := Try.underlying23
  a22 := Try.isAgg23
  z22 := Try.sizeOf23
  v22 := Try.zeroValue23
  i3 := by kernel_rfl }
open Go.RowKit Go.Lib in
theorem Try.slices_Clone_int (b off n c : Nat) (zs : List Int) (w : World) (hz : n ≤ zs.length) (hbig : n * 8 ≤ 140737488355328) (hc : ∀ j, j < zs.length → w.cell? ⟨b, off + j, none⟩ = some (.int .i64 (zs.getD j 0))) :
    Calls Try.prog 24 #[.slice (some ⟨b, off, none⟩) n c] w fun e w' => ∃ v', e = .returned v' ∧ w'.ownsRow w.heap.size 3 1 v' n ((zs.take n).map (Value.int .i64)) ∧ v' ≠ .slice none 0 0 ∧ Below w.heap.size w w' := Any.slices_Clone_int Try.laysNm215 b off n c zs w hz hbig hc
open Go.RowKit Go.Sort in
theorem Try.slices_Sort_int_none (p : Option Addr) (cap : Nat) (w : World) :
    Calls Try.prog 55 #[.slice p 0 cap] w fun e w' => e = .returned (.tuple #[]) ∧ w' = w := Any.slices_Sort_int_none Try.lays189 p cap w
end Go.Proofs
namespace Go.Proofs.Ytbhgdkkclefpnaa
open Go.RowKit Go.Shelf

attribute [local go_sem] Oper.semAt_some

/-- The first k of some numbers. -/
def fst10 (zs : List Int) (k : Nat) : List Int := (List.range k).map fun j => zs[j]?.getD 0
theorem fst10_succ (zs : List Int) (k : Nat) : fst10 zs (k + 1) = fst10 zs k ++ [zs[k]?.getD 0] := by simp [fst10, List.range_succ]
theorem fst10_len (zs : List Int) (k : Nat) : (fst10 zs k).length = k := by simp [fst10]
theorem fst10_all (zs : List Int) : fst10 zs zs.length = zs := by
  apply List.ext_getElem
  · simp [fst10]
  · intro i h1 h2
    simp [fst10, h2]
set_option maxRecDepth 100000 in
set_option maxHeartbeats 2000000 in
theorem vals1_in (F : Fence) (n : Nat) (h7 : F.fn 56) (hro : F.round = none) (hn : 1 ≤ n) (l Bs n₀ b off len cap : Nat) (zs : List Int) (hreach : len * 8 ≤ 140737488351232) (hb : b < n₀) (J Jx : List Int → World → Prop)
    (hY : ∀ pre x W, J pre W → pre.length < len → YieldAt F (n - 1) Try.prog l #[.int .i64 x] W fun e W' =>
      (e = .returned (.bool true) ∧ J (pre ++ [x]) W' ∧ Below n₀ W W') ∨ (e = .returned (.bool false) ∧ Jx (pre ++ [x]) W'))
    (W : World) (hBs : W.cell? ⟨Bs, 0, none⟩ = some (.slice (some ⟨b, off, none⟩) len cap)) (hc : ∀ j, j < len → W.cell? ⟨b, off + j, none⟩ = some (.int .i64 (zs[j]?.getD 0))) (h0 : J [] W) :
    CallsIn F n Try.prog 56 #[.func (.yield l) #[] #[], .pointer (some ⟨Bs, 0, none⟩)] W fun e W' => (∃ v, e = .returned v) ∧
      ((∃ ys, ys = fst10 zs len ∧ J ys W') ∨ (∃ pre, (∃ k, k ≤ len ∧ pre = fst10 zs k) ∧ Jx pre W')) := by
  refine callsIn_of_wp Try.func56 rfl h7 ?_ hro
  simp only [Try.ntmps56, List.size_toArray, List.length_cons, List.length_nil, Nat.reduceAdd, Nat.reduceSub, Array.replicate_succ, Array.replicate_zero, List.push_toArray, List.append_toArray, List.nil_append, List.cons_append]
  gi_wp2
  gi_loopw [7] (fun i wr => ∃ k : Nat, k ≤ len ∧ i = .int .i64 k ∧ J (fst10 zs k) wr ∧ Below n₀ W wr)
    (fun i _ => len - (intOf i).toNat)
  case atStart => exact ⟨0, Nat.zero_le _, rfl, h0, Below.refl _ _⟩
  case round =>
    obtain ⟨k, hk, rfl, hJs, hnx⟩ := hrel
    have hcx : k < len → wr.cell? ⟨b, off + k, none⟩ = some (.int .i64 (zs[k]?.getD 0)) := fun h => (hnx.cell (p := ⟨b, off + k, none⟩) hb).trans (hc k h)
    by_cases hlt : k < len
    · obtain ⟨fn, tmps, assign, body, hy, hR⟩ := hY _ (zs[k]?.getD 0) wr hJs (by rw [fst10_len]; exact hlt)
      have hcx' := hcx hlt
      gi_wp2
      refine hR.mono ?_
      rintro e W3 (⟨rfl, hJ3, hk3⟩ | ⟨rfl, hJx3⟩)
      · gi_wp2
        go_roundw
        case rel => exact ⟨k + 1, by omega, by simp, by rw [fst10_succ]; exact hJ3, hnx.trans hk3⟩
        case measure => simp [intOf]; omega
      · gi_wp2
        refine bodyPost_ret (results_none rfl _ _ _) rfl ?_
        exact ⟨⟨_, rfl⟩, .inr ⟨_, ⟨k + 1, by omega, (fst10_succ _ _).symm⟩, hJx3⟩⟩
    · obtain rfl : k = len := by omega
      gi_wp2
      go_end0
      exact ⟨⟨_, rfl⟩, .inl ⟨_, rfl, hJs⟩⟩
theorem vals_stops (F : Fence) (n : Nat) (h7 : F.fn 56) (hro : F.round = none) (hn : 1 ≤ n) (Bs n₀ b off cap : Nat) (zs : List Int) (hreach : zs.length * 8 ≤ 140737488351232) (w : World) (hBs : Bs < w.heap.size) (hn₀ : n₀ ≤ w.heap.size) (hb : b < n₀)
    (hc : w.cell? ⟨Bs, 0, none⟩ = some (.slice (some ⟨b, off, none⟩) zs.length cap)) (hI : ∀ j, j < zs.length → w.cell? ⟨b, off + j, none⟩ = some (.int .i64 (zs[j]?.getD 0))) :
    SeqStopsK F n Try.prog 56 #[.pointer (some ⟨Bs, 0, none⟩)] (fun x : Int => #[Value.int .i64 x]) (Below n₀) (fun ys => ys = zs) (fun _ => True) zs.length w := fun l J Jx W hW _ _ hY h0 => by
  have hc' := (hW.cell (p := ⟨Bs, 0, none⟩) hBs).trans hc
  refine (vals1_in F n h7 hro hn l Bs n₀ b off zs.length cap zs hreach hb J Jx hY W hc' (fun j hj => (hW.cell (p := ⟨b, off + j, none⟩) (Nat.lt_of_lt_of_le hb hn₀)).trans (hI j hj)) h0).mono ?_
  rintro e W' ⟨he, ⟨ys, rfl, hj⟩ | ⟨pre, _, hj⟩⟩
  · exact ⟨he, .inl ⟨_, fst10_all zs, hj⟩⟩
  · exact ⟨he, .inr ⟨_, trivial, hj⟩⟩
theorem infoI10 : (Try.prog.info? 3).map (fun i => (i.zero, i.size, i.bytes)) = some (some (.int .i64 0), 1, 8) := by kernel_rfl
set_option maxRecDepth 100000 in
set_option maxHeartbeats 2000000 in
theorem seq_in (F : Fence) (n : Nat) (h3 : F.fn 57) (h5 : F.fn 56) (hro : F.round = none) (hn : 3 ≤ n) (Bs b off cap : Nat) (xs : List Int) (hlen : xs.length ≤ 1000) (w : World) (hBs : Bs < w.heap.size) (hb : b < w.heap.size)
    (hc : w.cell? ⟨Bs, 0, none⟩ = some (.slice (some ⟨b, off, none⟩) xs.length cap)) (hI : ∀ j, j < xs.length → w.cell? ⟨b, off + j, none⟩ = some (.int .i64 (xs[j]?.getD 0))) :
    CallsIn F n Try.prog 57 #[.slice none 0 0, .func (.func 56) #[] #[.pointer (some ⟨Bs, 0, none⟩)]] w fun e W' => ∃ v, e = .returned v ∧ W'.ownsRow w.heap.size 3 1 v xs.length (xs.map (Value.int .i64)) ∧ Below w.heap.size w W' := by
  have h1 : 1 ≤ n := by omega
  obtain ⟨i0, hi, hz0, hz1, hz2⟩ := info_parts infoI10
  refine callsIn_of_wp_marks Try.func57 rfl h3 ?_ hro
  simp only [Try.ntmps57, List.size_toArray, List.length_cons, List.length_nil, Nat.reduceAdd, Nat.reduceSub, Array.replicate_succ, Array.replicate_zero, List.push_toArray, List.append_toArray, List.nil_append, List.cons_append]
  gi_wp2
  have bO := Boxed.new w 23 (.slice none 0 0)
  have hB0 : Below w.heap.size w (w.alloc (.cells #[.slice none 0 0] 23)) := (Below.refl _ w).alloc (Nat.le_refl _) _
  refine wpIn_rangeFunc_ownG hro h1 (gf := 56) (lb := #[.pointer (some ⟨Bs, 0, none⟩)]) rfl h5 (enters_of Try.func56 (by kernel_rfl) rfl)
    (vals_stops F (n - 1) h5 hro (by omega) Bs w.heap.size b off cap xs (by omega) (w.alloc (.cells #[.slice none 0 0] 23)) (by simp; omega) (by simp) hb ((hB0.cell (p := ⟨Bs, 0, none⟩) hBs).trans hc) (fun j hj => (hB0.cell (p := ⟨b, off + j, none⟩) hb).trans (hI j hj))) belowK_t (belowK_b (by simp)) (Below.refl _ _) (fun _ => rfl)
    (fun pre W => (∃ v, Boxed W w.heap.size 23 v ∧ W.ownsRow w.heap.size 3 1 v pre.length (pre.map (Value.int .i64)) ∧ True) ∧ Below w.heap.size w W)
    (fun _ _ _ => False)
    (OwnFrom.and (Own.from (holdsRow_own w.heap.size w.heap.size 23 3 1 (fun pre => pre.length) (fun pre : List Int => pre.map (Value.int .i64)) (fun _ _ => True)) _) (ownFrom_below (Nat.le_refl _) (by simp)))
    (fun _ _ _ _ _ hs _ _ => hs)
    ⟨⟨_, bO, World.ownsRow_nil _ _ _ _, trivial⟩, hB0⟩
    (fun x => { tmps := #[.slice none 0 0, .func (.func 56) #[] #[.pointer (some ⟨Bs, 0, none⟩)], .pointer (some ⟨w.heap.size, 0, none⟩), undef, .slice none 0 0, .int .i64 x, .func (.func 56) #[] #[.pointer (some ⟨Bs, 0, none⟩)], .int .i64 x, undef, undef, undef, undef, undef], defers := [] }) ?assign ?body ?done ?stop
  case assign =>
    intro l x W K hK
    gi_wp2
    exact hK
  case body =>
    rintro l pre x W ⟨⟨v, hv, hrow, _⟩, hB⟩ hlt
    have hc := hv.cell
    gi_wp2_with (gi_at_builtin; refine wpListIn_append_own _ rfl _ _ 23 rfl w.heap.size 3 i0 (.int .i64 0) 1 8 Try.underlying23 hi hz0 hz1 hz2 rfl (by decide) _ _ _ rfl (hrow.alloc _) ⟨W.heap.size, 0, none⟩ 1 1 [.int .i64 x] rfl rfl (cell_one_new _ _ _) (by simp [Value.oneCell']) (by unfold maxLen; omega) (by omega) (by have := hB.size; simp; omega) ?_; intro v' w1 hown' hgrow _; obtain ⟨g', cap', rfl⟩ := ownsRow_succ hown'; obtain ⟨hv1, hv2, hr2, hk2, hb2⟩ := hv.appended (by decide) hrow hB.size (Nat.le_refl _) hown' hgrow; have hc1 := hv1.cell; have hf1 := hv1.frozen)
    exact ⟨hk2.from _, hb2, ⟨_, hv2, by simpa using hr2, trivial⟩, hB.trans hb2⟩
  case done =>
    rintro D ys W hD rfl ⟨⟨v, hv, hrow, _⟩, hB⟩ hK
    have hc := hv.cell
    gi_wp2
    refine ⟨by simp, .inl ⟨_, _, rfl, run_takeDeferred hK, ?_⟩⟩
    exact ⟨_, results_tmp rfl _ _ _, v, rfl, ownsRow_putObj hrow _ hK rfl, hB.trans (belowK_b (w := w) (Nat.le_refl _) W D _ _ (by simp at hD; omega) hK rfl rfl)⟩
  case stop =>
    rintro D c pre W _ _ h _
    exact h.elim
end Go.Proofs.Ytbhgdkkclefpnaa
namespace Go.Proofs.Ytbhgdkkclefpnaa
open Go.RowKit

theorem infoI : ∃ i, Try.prog.info? 3 = some i ∧ i.zero = some (.int .i64 0) ∧ i.size = 1 ∧ i.bytes = 8 := by
  have h : (Try.prog.info? 3).map (fun i => (i.zero, i.size, i.bytes)) = some (some (.int .i64 0), 1, 8) := by kernel_rfl
  obtain ⟨i, hi, hzz⟩ := Option.map_eq_some_iff.1 h
  simp only [Prod.mk.injEq] at hzz
  exact ⟨i, hi, hzz.1, hzz.2.1, hzz.2.2⟩
/-- A slice of values of one cell each. -/
def VRow (w : World) (a : Option Addr) (vs : List Value) : Prop := vs = [] ∨ ∃ b off, a = some ⟨b, off, none⟩ ∧ b < w.heap.size ∧ ∀ j u, vs[j]? = some u → w.cell? ⟨b, off + j, none⟩ = some u
theorem VRow.below {w w' : World} {a : Option Addr} {vs : List Value} (h : VRow w a vs) (hb : Below w.heap.size w w') : VRow w' a vs := by
  rcases h with h | ⟨b, off, ha, hl, hc⟩
  · exact Or.inl h
  · exact Or.inr ⟨b, off, ha, Nat.lt_of_lt_of_le hl hb.size, fun j u hj => (hb.cell (p := ⟨b, off + j, none⟩) hl).trans (hc j u hj)⟩
theorem ARow.vrow {w : World} {a : Option Addr} {xs : List Int} (h : ARow w a xs) : VRow w a (ints xs) := by
  rcases h with h | ⟨b, off, ha, hl, hc⟩
  · exact Or.inl (by rw [h]; rfl)
  · refine Or.inr ⟨b, off, ha, hl, fun j u hj => ?_⟩
    have hjl : j < xs.length := by
      have := (List.getElem?_eq_some_iff.1 hj).1
      simpa [ints] using this
    rw [hc j hjl]
    rw [ints_get xs j hjl] at hj
    exact hj
theorem c_ints (xs : List Int) : ∀ u ∈ ints xs, u.oneCell' = true := by
  intro u hu
  simp only [ints, List.mem_map] at hu
  obtain ⟨x, _, rfl⟩ := hu; rfl
theorem add_plain' (b o j : Nat) : (⟨b, o, none⟩ : Addr).add j = ⟨b, o + j, none⟩ := by unfold Addr.add; split <;> simp_all
/-- Append of whatever list of values, onto an owned one. -/
theorem run_append_v {P : Program} (w : World) (base : Nat) (t ty e : TypeId) (i : TypeInfo) (z : Value) (bytes : Nat) (ht : P.underlying t = some (.slice e)) (hi : P.info? e = some i) (hz : i.zero = some z)
    (hsize : i.size = 1) (hby : i.bytes = bytes) (hzs : z.cells.size = 1) (v : Value) (n : Nat) (xs : List Value) (hown : w.ownsRow base e 1 v n xs)
    (a : Option Addr) (m c : Nat) (news : List Value) (hm : news.length = m) (hv : VRow w a news) (h1 : ∀ u ∈ news, u.oneCell' = true) (h63 : n + m ≤ maxLen) (hbytes : (n + m) * bytes ≤ 140737488355328) (hbase : base ≤ w.heap.size) :
    ∃ v' w', (Builtin.append_ #[t, t] ty #[v, .slice a m c]).run P w = .ok v' w' ∧ w'.ownsRow base e 1 v' (n + m) (xs ++ news) ∧ w.grownBy w' v.ownBlock := by
  cases a with
  | none =>
    have hn : news = [] := by
      rcases hv with h | ⟨b, off, h, _⟩
      · exact h
      · cases h
    subst hn
    have : m = 0 := by simpa using hm.symm
    subst this
    refine ⟨v, w, ?_, by simpa using hown, World.grownBy.refl _ _⟩
    rcases hown.2 with ⟨rfl, rfl⟩ | ⟨g, cap, cur, rfl, _, _, hnc, _⟩
    · simp [Builtin.append_, run_underlying ht, sizeOf, typeInfo, hi, Builtin.lenOf, Builtin.firstCells]
    · simp [Builtin.append_, run_underlying ht, sizeOf, typeInfo, hi, Builtin.lenOf, Builtin.firstCells, hnc, storeCells]
  | some ad =>
    obtain ⟨v', w', hr, h2, h3, _⟩ := run_append_own (P := P) w base t ty e i z 1 bytes ht hi hz hsize hby hzs (by decide) v n xs hown ad m c news (by omega) (fun j u hj => by
      rcases hv with h | ⟨b, off, h, _, hc⟩
      · rw [h] at hj; simp at hj
      · cases h; rw [add_plain']; exact hc j u hj) h1 h63 hbytes hbase
    exact ⟨v', w', hr, h2, h3⟩
theorem grown_under' {w w' : World} {base e s n k : Nat} {v : Value} {xs : List Value} (hg : w.grownBy w' v.ownBlock) (h : w.ownsRow base e s v n xs) (hk : k ≤ base) (hs : k ≤ w.heap.size) : Below k w w' :=
  ⟨hg.os, hg.tape, hg.output, hg.size, fun b hb => hg.block b (by omega) (fun he => by have := h.lt b he.symm; omega)⟩
theorem vrow_new (w : World) (u : Value) (e : TypeId) : VRow (w.alloc (.cells #[u] e)) (some ⟨w.heap.size, 0, none⟩) [u] := by
  refine Or.inr ⟨w.heap.size, 0, rfl, by simp, fun j x hj => ?_⟩
  have : j = 0 := by
    have := (List.getElem?_eq_some_iff.1 hj).1
    simpa using this
  subst this
  have : x = u := by simpa using hj.symm
  subst this
  simp
/-- One value more behind an owned list of ints. -/
theorem push_int {w : World} {base n : Nat} {v : Value} {xs : List Value} {x : Int} (hown : w.ownsRow base 3 1 v n xs) (hn : n ≤ 100000) (hb : base ≤ w.heap.size) :
    ∃ v' w', (∀ ty, (Builtin.append_ #[23, 23] ty #[v, .slice (some ⟨w.heap.size, 0, none⟩) 1 1]).run Try.prog (w.alloc (.cells #[.int .i64 x] 3)) = .ok v' w') ∧ w'.ownsRow base 3 1 v' (n + 1) (xs ++ [.int .i64 x]) ∧ w.grownBy w' v.ownBlock := by
  obtain ⟨i0, hi, hz0, hz1, hz2⟩ := infoI
  obtain ⟨v', w', h1, h2, h3⟩ := run_append_v (P := Try.prog) (w.alloc (.cells #[.int .i64 x] 3)) base 23 0 3 i0 _ 8 Try.underlying23 hi hz0 hz1 hz2 rfl v n xs (hown.alloc _) (some ⟨w.heap.size, 0, none⟩) 1 1 [.int .i64 x] rfl (vrow_new w _ 3) (fun u hu => by simp at hu; subst hu; rfl) (by unfold maxLen; omega) (by omega) (by simp; omega)
  refine ⟨v', w', fun _ => h1, h2, ?_⟩
  have hg := World.grownBy_alloc w (.cells #[.int .i64 x] 3) v.ownBlock
  exact ⟨h3.os.trans hg.os, h3.tape.trans hg.tape, h3.output.trans hg.output, Nat.le_trans hg.size h3.size, fun b hb hne => (h3.block b (Nat.lt_of_lt_of_le hb hg.size) hne).trans (hg.block b hb hne)⟩
/-- An owned list is nothing, or lies somewhere. -/
theorem own_form {w : World} {base e s n : Nat} {v : Value} {xs : List Value} (h : w.ownsRow base e s v n xs) : ∃ a c, v = .slice a n c := by
  rcases h.2 with ⟨rfl, rfl⟩ | ⟨g, cap, cur, rfl, _⟩
  · exact ⟨none, 0, rfl⟩
  · exact ⟨_, _, rfl⟩
end Go.Proofs.Ytbhgdkkclefpnaa
namespace Go.Proofs.Ytbhgdkkclefpnaa
open Go.RowKit Go.Sort

theorem so10 {w : World} {base n : Nat} {v : Value} {L X : List Int} (hn : L.length = n) (hl : n ≤ 1000) (own : w.ownsRow base 3 1 v n (ints L)) (hs : (L.mergeSort fun x y => decide (x ≤ y)) = X) :
    Calls Try.prog 55 #[v] w fun e w' => e = .returned (.tuple #[]) ∧ w'.ownsRow base 3 1 v X.length (ints X) ∧ w.grownBy w' v.ownBlock := by
  subst hn
  have hl2 : (L.mergeSort fun x y => decide (x ≤ y)).length = L.length := List.length_mergeSort L
  rcases own.2 with ⟨rfl, h0⟩ | ⟨g, cap, cur, rfl, hb, hg, h1, h2, h3, h4⟩
  · have hL : L = [] := List.length_eq_zero_iff.1 h0
    subst hL
    have hX : X = [] := by rw [← hs]; simp
    subst hX
    refine (Try.slices_Sort_int_none none 0 w).mono ?_
    rintro e w' ⟨rfl, rfl⟩
    exact ⟨rfl, World.ownsRow_nil _ _ _ _, World.grownBy.refl _ _⟩
  · have hH : Holds (Value.int .i64) w g 0 L.toArray := holds_of_blockI hg (by rw [Nat.mul_one] at h4; exact h4)
    have hgl : g < w.heap.size := (Array.getElem?_eq_some_iff.1 hg).1
    refine (Try.slices_Sort_int g 0 cap L w hH hgl (by omega)).mono ?_
    rintro e w' ⟨rfl, q, os, rfl⟩
    have hro := ownsRow_sortedI (n := q) (os := os) (ts := L.mergeSort fun x y => decide (x ≤ y)) hl2 hb hg h1 h2 h3
    refine ⟨rfl, ?_, grownBy_sortedI _⟩
    have e1 : ints X = (L.mergeSort fun x y => decide (x ≤ y)).map (Value.int .i64) := by rw [hs]; rfl
    have e2 : X.length = L.length := by rw [← hs]; exact hl2
    rw [e1, e2]
    exact hro
set_option maxRecDepth 100000 in
set_option maxHeartbeats 1000000 in
theorem val_any (a : Option Addr) (n c : Nat) (w : World) :
    Calls Try.prog 47 #[.slice a n c] w fun e w' => e = .returned (.func (.func 56) #[] #[.pointer (some ⟨w.heap.size, 0, none⟩)]) ∧ w' = w.alloc (.cells #[.slice a n c] 23) := by
  go_enter Try.func47, Try.ntmps47
  go_wp2_with fail
  go_ret
  exact ⟨rfl, rfl⟩
/-- What a seq of a box gives. -/
def Bx10 (w : World) (B : Nat) (xs : List Int) : Prop := B < w.heap.size ∧ ∃ b off cap, b < w.heap.size ∧ w.cell? ⟨B, 0, none⟩ = some (.slice (some ⟨b, off, none⟩) xs.length cap) ∧ ∀ j, j < xs.length → w.cell? ⟨b, off + j, none⟩ = some (.int .i64 (xs.getD j 0))
set_option maxRecDepth 100000 in
set_option maxHeartbeats 1000000 in
theorem col_any {B : Nat} {xs : List Int} {w : World} (hn : xs.length ≤ 1000) (h : Bx10 w B xs) :
    Calls Try.prog 54 #[.func (.func 56) #[] #[.pointer (some ⟨B, 0, none⟩)]] w fun e w' => ∃ v, e = .returned v ∧ w'.ownsRow w.heap.size 3 1 v xs.length (ints xs) ∧ Below w.heap.size w w' := by
  obtain ⟨hB, b, off, cap, hb, hc, hx⟩ := h
  have HC := hide (callsIn_wide.1 (seq_in Fence.wide 3 trivial trivial rfl (Nat.le_refl _) B b off cap xs hn w hB hb hc (fun j hj => by have := hx j hj; rwa [List.getD_eq_getElem?_getD] at this)))
  clear hc hx
  go_enter Try.func54, Try.ntmps54
  go_wp2_with fail
  refine HC.out.mono ?_
  rintro e w1 ⟨v, rfl, own, hb⟩
  have HO := hide own
  have HB := hide hb
  clear own hb
  go_wp2_with fail
  go_ret
  exact ⟨_, rfl, HO.out, HB.out⟩
set_option maxRecDepth 100000 in
set_option maxHeartbeats 1000000 in
theorem srt_any {B : Nat} {xs : List Int} {w : World} (hn : xs.length ≤ 1000) (h : Bx10 w B xs) :
    Calls Try.prog 46 #[.func (.func 56) #[] #[.pointer (some ⟨B, 0, none⟩)]] w fun e w' => ∃ v, e = .returned v ∧ w'.ownsRow w.heap.size 3 1 v xs.length (ints (Mx.msort xs)) ∧ Below w.heap.size w w' := by
  have HC := hide (col_any hn h)
  have HL := hide (Mx.msort_len xs)
  have HS := hide fun (W : World) (base : Nat) (v : Value) (own : W.ownsRow base 3 1 v xs.length (ints xs)) => so10 (X := Mx.msort xs) rfl hn own rfl
  clear h
  go_enter Try.func46, Try.ntmps46
  go_wp2_with fail
  refine HC.out.mono ?_
  rintro e w1 ⟨v, rfl, own, hb⟩
  have HSW := hide (HS.out _ _ _ own)
  have HO := hide own
  have HB := hide hb
  clear own hb HS HC
  go_wp2_with fail
  refine HSW.out.mono ?_
  rintro e w2 ⟨rfl, own2, hg2⟩
  have HO2 := hide own2
  rw [HL.out] at HO2
  have HB2 := hide (HB.out.trans (grown_under' hg2 HO.out (Nat.le_refl _) HB.out.size))
  clear own2 hg2 HSW
  go_wp2_with fail
  go_ret
  exact ⟨_, rfl, HO2.out, HB2.out⟩
theorem eq10 {v u : Value} {b1 b2 n m : Nat} {xs ys : List Int} {w : World} (hx : xs.length = n) (hy : ys.length = m) (hn : n ≤ 1000) (hm : m ≤ 1000) (h1 : 1 ≤ n) (h2 : 1 ≤ m) (o1 : w.ownsRow b1 3 1 v n (ints xs)) (o2 : w.ownsRow b2 3 1 u m (ints ys)) :
    Calls Try.prog 45 #[v, u] w fun e w' => e = .returned (.bool (xs == ys)) ∧ Below w.heap.size w w' := by
  rcases o1.2 with ⟨_, h0⟩ | ⟨g, cap, cur, rfl, _⟩
  · omega
  rcases o2.2 with ⟨_, h0⟩ | ⟨g', cap', cur', rfl, _⟩
  · omega
  refine (Try.slices_Equal_int g 0 n cap g' 0 m cap' xs ys w (by omega) (by omega) (by omega) (by omega) (fun j hj => by rw [Nat.zero_add, o1.cellAt j (by omega), ints_get xs j hj]) (fun j hj => by rw [Nat.zero_add, o2.cellAt j (by omega), ints_get ys j hj])).mono ?_
  rintro e w' ⟨rfl, q, rfl⟩
  rw [← hx, ← hy, List.take_length, List.take_length]
  exact ⟨rfl, below_drewN (Below.refl _ _) q⟩
theorem bx_new {w : World} {a : Option Addr} {n c : Nat} {xs : List Int} (hx : xs.length = n) (hn : 1 ≤ n) (ha : ARow w a xs) : Bx10 (w.alloc (.cells #[.slice a n c] 23)) w.heap.size xs := by
  subst hx
  have hb := below_new w (.cells #[.slice a xs.length c] 23)
  obtain ⟨b, off, rfl, h1, h2⟩ := ha.resolve_left (fun e => by rw [e] at hn; simp at hn)
  exact ⟨by simp, b, off, c, by simp; omega, by simp, fun j hj => (hb.cell (p := ⟨b, off + j, none⟩) h1).trans (h2 j hj)⟩
set_option maxRecDepth 100000 in
set_option maxHeartbeats 2000000 in
theorem asg_any {a b : Option Addr} {n m c d : Nat} {xs ys : List Int} {w : World} (hx : xs.length = n) (hy : ys.length = m) (hc : n ≤ c) (hd : m ≤ d) (ha : ARow w a xs) (hb : ARow w b ys) :
    Calls Try.prog 23 #[.slice a n c, .slice b m d] w fun e w' => e = .returned (.bool (Mx.sameB xs ys)) ∧ Below w.heap.size w w' := by
  have HX := hide hx
  have HY := hide hy
  have HA := hide ha
  have HB := hide hb
  cases h1 : Mx.goodB xs
  · have hR : Mx.sameB xs ys = false := by unfold Mx.sameB; rw [h1]; rfl
    rw [hR]
    have H1 := hide h1
    clear h1 hR ha hb hx hy
    go_enter Try.func23, Try.ntmps23
    go_wp2_with fail
    refine (gs_eq HX hc HA H1).mono ?_
    rintro e w1 ⟨rfl, hw1⟩
    obtain rfl : w = w1 := hw1.symm
    go_wp2_with fail
    go_ret
    exact ⟨rfl, Below.refl _ _⟩
  · cases h2 : Mx.goodB ys
    · have hR : Mx.sameB xs ys = false := by unfold Mx.sameB; rw [h1, h2]; rfl
      rw [hR]
      have H1 := hide h1
      have H2 := hide h2
      clear h1 h2 hR ha hb hx hy
      go_enter Try.func23, Try.ntmps23
      go_wp2_with fail
      refine (gs_eq HX hc HA H1).mono ?_
      rintro e w1 ⟨rfl, hw1⟩
      obtain rfl : w = w1 := hw1.symm
      go_wp2_with fail
      refine (gs_eq HY hd HB H2).mono ?_
      rintro e w1 ⟨rfl, hw1⟩
      obtain rfl : w = w1 := hw1.symm
      go_wp2_with fail
      go_ret
      exact ⟨rfl, Below.refl _ _⟩
    · have hR : Mx.sameB xs ys = (Mx.msort xs == Mx.msort ys) := by unfold Mx.sameB; rw [h1, h2]; rfl
      rw [hR]
      have lx := Mx.good_len h1
      have ly := Mx.good_len h2
      rw [hx] at lx
      rw [hy] at ly
      have H1 := hide h1
      have H2 := hide h2
      have hbx := bx_new (c := c) hx (by omega) ha
      have b1 := below_new w (.cells #[.slice a n c] 23)
      have HS1 := hide (srt_any (by omega) hbx)
      have HB1 := hide b1
      have HBB : Hid (∀ W, Below w.heap.size w W → ARow W b ys) := hide fun W h => hb.below h
      have LX := hide ((Mx.msort_len xs).trans hx)
      have LY := hide ((Mx.msort_len ys).trans hy)
      clear h1 h2 hR ha hb hbx b1
      generalize Mx.msort xs = MX at *
      rw [hx] at HS1
      have HBX2 := hide fun (W : World) (h : ARow W b ys) => srt_any (by omega) (bx_new (c := d) hy (by omega) h)
      generalize Mx.msort ys = MY at *
      rw [hy] at HBX2
      clear hx hy
      go_enter Try.func23, Try.ntmps23
      go_wp2_with fail
      refine (gs_eq HX hc HA H1).mono ?_
      rintro e w1 ⟨rfl, hw1⟩
      obtain rfl : w = w1 := hw1.symm
      go_wp2_with fail
      refine (gs_eq HY hd HB H2).mono ?_
      rintro e w1 ⟨rfl, hw1⟩
      obtain rfl : w = w1 := hw1.symm
      go_wp2_with fail
      refine (val_any a n c w).mono ?_
      rintro e w1 ⟨rfl, hw1⟩
      obtain rfl := hw1
      go_wp2_with fail
      refine HS1.out.mono ?_
      rintro e w2 ⟨v, rfl, own2, hb2⟩
      have HO2 := hide own2
      have HB2 := hide (HB1.out.trans (hb2.mono HB1.out.size))
      have HR2 := hide (HBX2.out _ (HBB.out _ HB2.out))
      clear own2 hb2 HS1
      go_wp2_with fail
      refine (val_any b m d w2).mono ?_
      rintro e w3 ⟨rfl, hw3⟩
      obtain rfl := hw3
      have b3 := below_new w2 (.cells #[.slice b m d] 23)
      have HO3 := hide (g_own HO2.out b3)
      have HB3 := hide (HB2.out.trans (b3.mono HB2.out.size))
      clear b3
      go_wp2_with fail
      refine HR2.out.mono ?_
      rintro e w4 ⟨u, rfl, own4, hb4⟩
      have HO4 := hide own4
      have HO3' := hide (g_own HO3.out hb4)
      have HB4 := hide (HB3.out.trans (hb4.mono HB3.out.size))
      clear own4 hb4 HR2
      go_wp2_with fail
      refine (eq10 LX.out LY.out (by omega) (by omega) (by omega) (by omega) HO3'.out HO4.out).mono ?_
      rintro e w5 ⟨rfl, hb5⟩
      have HB5 := hide (HB4.out.trans (hb5.mono HB4.out.size))
      clear hb5
      go_wp2_with fail
      go_ret
      exact ⟨rfl, HB5.out⟩
end Go.Proofs.Ytbhgdkkclefpnaa
namespace Go.Proofs.Ytbhgdkkclefpnaa
open Go.RowKit

theorem inB2_not {xs ys : List Int} {i : Nat} (hi : i < xs.length) (h : ys.contains (xs.getD i 0) = false) : Mx.inB2 xs ys = false := by
  cases e : Mx.inB2 xs ys
  · rfl
  · simp only [Mx.inB2, List.all_eq_true] at e
    have := e (xs.getD i 0) (by rw [List.getD_eq_getElem?_getD, List.getElem?_eq_getElem hi]; exact List.getElem_mem hi)
    rw [h] at this; cases this
theorem inB2_of {xs ys : List Int} {n : Nat} (hx : xs.length = n) (h : ∀ i, i < n → ys.contains (xs.getD i 0) = true) : Mx.inB2 xs ys = true := by
  simp only [Mx.inB2, List.all_eq_true]
  intro x hm
  obtain ⟨i, hi, rfl⟩ := List.getElem_of_mem hm
  have := h i (by omega)
  rwa [List.getD_eq_getElem?_getD, List.getElem?_eq_getElem hi] at this
set_option maxRecDepth 100000 in
set_option maxHeartbeats 4000000 in
theorem lb_yes {a b : Option Addr} {n c d : Nat} {xs ys : List Int} {w : World} (HX : Hid (xs.length = n)) (HY : Hid (ys.length = n)) (hn : n ≤ 9) (hc : n ≤ c) (hd : n ≤ d) (HA : Hid (ARow w a xs)) (HB : Hid (ARow w b ys)) (H1 : Hid (Mx.goodB xs = true)) (H2 : Hid (Mx.goodB ys = true)) :
    Calls Try.prog 27 #[.slice a n c, .slice b n d] w fun e w' => e = .returned (.bool (Mx.inB2 xs ys && Mx.inB2 ys xs)) ∧ w' = w := by
  have hnn : ((n : Int) != (n : Int)) = false := by simp
  have HN1 := hide fun (h : Mx.inB2 xs ys = false) => show (Mx.inB2 xs ys && Mx.inB2 ys xs) = false by rw [h]; rfl
  have HN2 := hide fun (h : Mx.inB2 ys xs = false) => show (Mx.inB2 xs ys && Mx.inB2 ys xs) = false by rw [h]; simp
  have HYS := hide fun (h : Mx.inB2 xs ys = true) (h' : Mx.inB2 ys xs = true) => show (Mx.inB2 xs ys && Mx.inB2 ys xs) = true by rw [h, h']; rfl
  generalize (Mx.inB2 xs ys && Mx.inB2 ys xs) = R at *
  go_enter Try.func27, Try.ntmps27
  go_wp2_with fail
  refine (sgs_eq HX hc HA H1).mono ?_
  rintro e w1 ⟨rfl, hw1⟩
  obtain rfl : w = w1 := hw1.symm
  go_wp2_with fail
  refine (sgs_eq HY hd HB H2).mono ?_
  rintro e w1 ⟨rfl, hw1⟩
  obtain rfl : w = w1 := hw1.symm
  go_wp2_with fail
  go_loop [4, 6, 26] (fun s4 _ s => ∃ i : Nat, s4 = .bool false ∧ s = .int .i64 i ∧ i ≤ n ∧ Hid (∀ j, j < i → ys.contains (xs.getD j 0) = true)) (fun _ _ s => n - (intOf s).toNat)
  case atStart => exact ⟨0, rfl, rfl, Nat.zero_le _, hide fun j hj => absurd hj (Nat.not_lt_zero _)⟩
  case round =>
    obtain ⟨i, rfl, rfl, hi, HI⟩ := hrel
    by_cases hlt : i < n
    · obtain ⟨b1, o1, rfl, r1⟩ := HA.out.at (i := i) (by rw [HX.out]; exact hlt)
      have i0 : (0 : Int) ≤ (i : Int) := by omega
      have i1 : (i : Int) < (n : Int) := by omega
      have HNX := hide fun (h : ys.contains (xs.getD i 0) = true) => show ∀ j, j < i + 1 → ys.contains (xs.getD j 0) = true from fun j hj => by
        by_cases e : j = i
        · subst e; exact h
        · exact HI.out j (by omega)
      have HNO := hide fun (h : ys.contains (xs.getD i 0) = false) => HN1.out (inB2_not (show i < xs.length by rw [HX.out]; exact hlt) h)
      generalize xs.getD i 0 = x at *
      cases hs : ys.contains x
      · obtain rfl := HNO.out hs
        have HS := hide hs
        clear hs
        go_wp2_with fail
        refine (has7_eq HY (by omega) HB HS).mono ?_
        rintro e w1 ⟨rfl, hw1⟩
        obtain rfl : w = w1 := hw1.symm
        go_wp2_with fail
        go_ret
        exact ⟨rfl, rfl⟩
      · have H3 := hide (HNX.out hs)
        have HS := hide hs
        clear hs
        go_wp2_with fail
        refine (has7_eq HY (by omega) HB HS).mono ?_
        rintro e w1 ⟨rfl, hw1⟩
        obtain rfl : w = w1 := hw1.symm
        go_wp2_with fail
        go_round
        case rel => exact ⟨i + 1, rfl, by go_num, by omega, H3⟩
        case measure => simp only [intOf]; omega
    · have hie : i = n := by omega
      subst hie
      have HF1 := hide (inB2_of HX.out HI.out)
      clear HI
      go_wp2_with fail
      go_loop [4, 8, 37] (fun s4 _ s => ∃ k : Nat, s4 = .bool false ∧ s = .int .i64 k ∧ k ≤ i ∧ Hid (∀ j, j < k → xs.contains (ys.getD j 0) = true)) (fun _ _ s => i - (intOf s).toNat)
      case atStart => exact ⟨0, rfl, rfl, Nat.zero_le _, hide fun j hj => absurd hj (Nat.not_lt_zero _)⟩
      case round =>
        obtain ⟨k, rfl, rfl, hk, HK⟩ := hrel
        by_cases hlk : k < i
        · obtain ⟨b1, o1, rfl, r1⟩ := HB.out.at (i := k) (by rw [HY.out]; exact hlk)
          have i0 : (0 : Int) ≤ (k : Int) := by omega
          have i1 : (k : Int) < (i : Int) := by omega
          have HNX := hide fun (h : xs.contains (ys.getD k 0) = true) => show ∀ j, j < k + 1 → xs.contains (ys.getD j 0) = true from fun j hj => by
            by_cases e : j = k
            · subst e; exact h
            · exact HK.out j (by omega)
          have HNO := hide fun (h : xs.contains (ys.getD k 0) = false) => HN2.out (inB2_not (show k < ys.length by rw [HY.out]; exact hlk) h)
          generalize ys.getD k 0 = x at *
          cases hs : xs.contains x
          · obtain rfl := HNO.out hs
            have HS := hide hs
            clear hs
            go_wp2_with fail
            refine (has7_eq HX (by omega) HA HS).mono ?_
            rintro e w1 ⟨rfl, hw1⟩
            obtain rfl : w = w1 := hw1.symm
            go_wp2_with fail
            go_ret
            exact ⟨rfl, rfl⟩
          · have H3 := hide (HNX.out hs)
            have HS := hide hs
            clear hs
            go_wp2_with fail
            refine (has7_eq HX (by omega) HA HS).mono ?_
            rintro e w1 ⟨rfl, hw1⟩
            obtain rfl : w = w1 := hw1.symm
            go_wp2_with fail
            go_round
            case rel => exact ⟨k + 1, rfl, by go_num, by omega, H3⟩
            case measure => simp only [intOf]; omega
        · have hke : k = i := by omega
          subst hke
          obtain rfl := HYS.out HF1.out (inB2_of HY.out HK.out)
          go_wp2_with fail
          go_ret
          exact ⟨rfl, rfl⟩
set_option maxRecDepth 100000 in
set_option maxHeartbeats 2000000 in
theorem lb_any {a b : Option Addr} {n m c d : Nat} {xs ys : List Int} {w : World} (hx : xs.length = n) (hy : ys.length = m) (hc : n ≤ c) (hd : m ≤ d) (ha : ARow w a xs) (hb : ARow w b ys) :
    Calls Try.prog 27 #[.slice a n c, .slice b m d] w fun e w' => e = .returned (.bool (Mx.sameB xs ys)) ∧ w' = w := by
  have HX := hide hx
  have HY := hide hy
  have HA := hide ha
  have HB := hide hb
  cases h1 : Mx.goodB xs
  · have hR : Mx.sameB xs ys = false := by unfold Mx.sameB; rw [h1]; rfl
    rw [hR]
    have H1 := hide h1
    clear h1 hR ha hb hx hy
    go_enter Try.func27, Try.ntmps27
    go_wp2_with fail
    refine (sgs_eq HX hc HA H1).mono ?_
    rintro e w1 ⟨rfl, hw1⟩
    obtain rfl : w = w1 := hw1.symm
    go_wp2_with fail
    go_ret
    exact ⟨rfl, rfl⟩
  · cases h2 : Mx.goodB ys
    · have hR : Mx.sameB xs ys = false := by unfold Mx.sameB; rw [h1, h2]; rfl
      rw [hR]
      have H1 := hide h1
      have H2 := hide h2
      clear h1 h2 hR ha hb hx hy
      go_enter Try.func27, Try.ntmps27
      go_wp2_with fail
      refine (sgs_eq HX hc HA H1).mono ?_
      rintro e w1 ⟨rfl, hw1⟩
      obtain rfl : w = w1 := hw1.symm
      go_wp2_with fail
      refine (sgs_eq HY hd HB H2).mono ?_
      rintro e w1 ⟨rfl, hw1⟩
      obtain rfl : w = w1 := hw1.symm
      go_wp2_with fail
      go_ret
      exact ⟨rfl, rfl⟩
    · have hR : Mx.sameB xs ys = (decide (xs.length = ys.length) && (Mx.inB2 xs ys && Mx.inB2 ys xs)) := by unfold Mx.sameB; rw [h1, h2, Mx.same_eq h1 h2]; rfl
      by_cases hnm : n = m
      · subst hnm
        rw [hR, show decide (xs.length = ys.length) = true by simp [hx, hy]]
        have := Mx.good_len h1
        exact lb_yes HX HY (by omega) hc hd HA HB (hide h1) (hide h2)
      · rw [hR, show decide (xs.length = ys.length) = false by simp [hx, hy, hnm]]
        have H1 := hide h1
        have H2 := hide h2
        have hne : ((n : Int) != (m : Int)) = true := by simp; omega
        clear h1 h2 hR ha hb hx hy hnm
        go_enter Try.func27, Try.ntmps27
        go_wp2_with fail
        refine (sgs_eq HX hc HA H1).mono ?_
        rintro e w1 ⟨rfl, hw1⟩
        obtain rfl : w = w1 := hw1.symm
        go_wp2_with fail
        refine (sgs_eq HY hd HB H2).mono ?_
        rintro e w1 ⟨rfl, hw1⟩
        obtain rfl : w = w1 := hw1.symm
        go_wp2_with fail
        go_ret
        exact ⟨rfl, rfl⟩
theorem lb_eq {a b : Option Addr} {n m c d : Nat} {xs ys : List Int} {w : World} {r : Bool} (hx : Hid (xs.length = n)) (hy : Hid (ys.length = m)) (hc : n ≤ c) (hd : m ≤ d) (ha : Hid (ARow w a xs)) (hb : Hid (ARow w b ys)) (h : Hid (Mx.sameB xs ys = r)) :
    Calls Try.prog 27 #[.slice a n c, .slice b m d] w fun e w' => e = .returned (.bool r) ∧ w' = w := h.out ▸ lb_any hx.out hy.out hc hd ha.out hb.out
theorem asg_eq {a b : Option Addr} {n m c d : Nat} {xs ys : List Int} {w : World} {r : Bool} (hx : Hid (xs.length = n)) (hy : Hid (ys.length = m)) (hc : n ≤ c) (hd : m ≤ d) (ha : Hid (ARow w a xs)) (hb : Hid (ARow w b ys)) (h : Hid (Mx.sameB xs ys = r)) :
    Calls Try.prog 23 #[.slice a n c, .slice b m d] w fun e w' => e = .returned (.bool r) ∧ Below w.heap.size w w' := h.out ▸ asg_any hx.out hy.out hc hd ha.out hb.out
set_option maxRecDepth 100000 in
set_option maxHeartbeats 1000000 in
theorem sp_any {a : Option Addr} {n c : Nat} {xs : List Int} {x : Int} {w : World} (hx : xs.length = n) (hn : n ≤ 1048576) (ha : ARow w a xs) :
    Calls Try.prog 43 #[.slice a n c, .int .i64 x] w fun e w' => e = .returned (.int .i64 (Ma.idx xs x)) ∧ w' = w := by
  have HA := hide ha
  have HX := hide hx
  clear ha hx
  go_enter Try.func43, Try.ntmps43
  go_wp2_with fail
  go_loop [4, 5, 6, 9] (fun s4 _ _ s => ∃ (k : Nat), s4 = .int .i64 0 ∧ s = .int .i64 k ∧ k ≤ n ∧ Hid (∀ j, j < k → (xs.getD j 0 == x) = false)) (fun _ _ _ s => n - (intOf s).toNat)
  case atStart => exact ⟨0, rfl, rfl, Nat.zero_le _, hide fun i hi => absurd hi (Nat.not_lt_zero _)⟩
  case round =>
    obtain ⟨k, rfl, rfl, hk, HK⟩ := hrel
    by_cases hlt : k < n
    · obtain ⟨b, off, rfl, r1⟩ := HA.out.at (i := k) (by rw [HX.out]; exact hlt)
      have i0 : (0 : Int) ≤ (k : Int) := by omega
      have i1 : (k : Int) < (n : Int) := by omega
      have HY := hide fun (h : (xs.getD k 0 == x) = true) => Ma.idx_at (show k < xs.length by rw [HX.out]; exact hlt) h HK.out
      generalize hy : xs.getD k 0 = y at *
      cases hb : (y == x)
      · have H1 : Hid (∀ j, j < k + 1 → (xs.getD j 0 == x) = false) := hide fun j hj => by
          by_cases e : j = k
          · subst e; rw [hy]; exact hb
          · exact HK.out j (by omega)
        clear hy
        go_wp2_with fail
        go_round
        case rel => exact ⟨k + 1, rfl, by go_num, by omega, H1⟩
        case measure => simp only [intOf]; omega
      · have H1 := hide (HY.out hb)
        clear hy
        go_wp2_with fail
        go_ret
        exact ⟨ret_int H1.out.symm, rfl⟩
    · have hke : k = n := by omega
      subst hke
      have H1 := hide (Ma.idx_none (xs := xs) (x := x) (by rw [HX.out]; exact HK.out))
      go_wp2_with fail
      go_ret
      exact ⟨ret_int H1.out.symm, rfl⟩
end Go.Proofs.Ytbhgdkkclefpnaa
namespace Go.Proofs.Ytbhgdkkclefpnaa
open Go.RowKit

theorem lt3 {a b : Nat} (h : a + 1 + 1 < b) : a < b ∧ a + 1 < b := ⟨by omega, by omega⟩
theorem fracs_no (P : Program) (f : FuncId) (args : Array Value) (w : World) (a b : Int) (c : Bool) (ha : a = 0) (hb : b = 0) (hc : c = false)
    (h : Calls P f args w fun e w' => e = .returned (.tuple #[.agg #[.int .i64 0, .int .i64 0], .bool false]) ∧ Below w.heap.size w w') :
    Calls P f args w fun e w' => e = .returned (.tuple #[.agg #[.int .i64 a, .int .i64 b], .bool c]) ∧ Below w.heap.size w w' := by
  subst ha; subst hb; subst hc; exact h



end Go.Proofs.Ytbhgdkkclefpnaa
namespace Go.Proofs.Ytbhgdkkclefpnaa
open Go.RowKit

end Go.Proofs.Ytbhgdkkclefpnaa
namespace Go.Proofs.Ytbhgdkkclefpnaa
open Go.RowKit


theorem lt_of_some {W : World} {b o : Nat} (h : (W.cell? ⟨b, o, none⟩).isSome = true) : b < W.heap.size := by
  apply Nat.lt_of_not_le
  intro hle
  have : W.heap[b]? = none := by simp; omega
  simp [World.cell?, this] at h
theorem bsome {W w1 : World} (hb : Below W.heap.size W w1) : (∀ b o, (W.cell? ⟨b, o, none⟩).isSome = true → w1.cell? ⟨b, o, none⟩ = W.cell? ⟨b, o, none⟩) ∧ (∀ b o, (W.cell? ⟨b, o, none⟩).isSome = true → w1.frozen? ⟨b, o, none⟩ = W.frozen? ⟨b, o, none⟩) :=
  ⟨fun b o h => hb.cell (p := ⟨b, o, none⟩) (lt_of_some h), fun b o h => hb.frozen (p := ⟨b, o, none⟩) (lt_of_some h)⟩
theorem new_var {W w1 : World} (hb : Below W.heap.size W w1) (b : Nat) (v0 v1 : Value) (h0 : W.cell? ⟨b, 0, none⟩ = some v0) (h1 : W.cell? ⟨b, 1, none⟩ = some v1) (h2 : W.frozen? ⟨b, 0, none⟩ = false) (h3 : W.frozen? ⟨b, 1, none⟩ = false) :
    w1.cell? ⟨b, 0, none⟩ = some v0 ∧ w1.cell? ⟨b, 1, none⟩ = some v1 ∧ w1.frozen? ⟨b, 0, none⟩ = false ∧ w1.frozen? ⟨b, 1, none⟩ = false := by
  obtain ⟨hc, hf⟩ := bsome hb
  exact ⟨(hc _ _ (by rw [h0]; rfl)).trans h0, (hc _ _ (by rw [h1]; rfl)).trans h1, (hf _ _ (by rw [h0]; rfl)).trans h2, (hf _ _ (by rw [h1]; rfl)).trans h3⟩
theorem new_first {w w1 : World} {a b : Obj} {v0 v1 : Value} {t : TypeId} (hb : Below (((w.alloc a).alloc b).alloc (.cells #[v0, v1] t)).drew.heap.size (((w.alloc a).alloc b).alloc (.cells #[v0, v1] t)).drew w1) :
    w1.cell? ⟨w.heap.size + 1 + 1, 0, none⟩ = some v0 ∧ w1.cell? ⟨w.heap.size + 1 + 1, 1, none⟩ = some v1 ∧ w1.frozen? ⟨w.heap.size + 1 + 1, 0, none⟩ = false ∧ w1.frozen? ⟨w.heap.size + 1 + 1, 1, none⟩ = false :=
  new_var hb _ v0 v1 (by simp [go_sem]) (by simp [go_sem]) (by simp [go_sem]) (by simp [go_sem])
theorem last_cell {W w1 : World} (hb : Below W.heap.size W w1) (o : Nat) : (W.cell? ⟨W.heap.size - 1, o, none⟩).isSome = true → w1.cell? ⟨W.heap.size - 1, o, none⟩ = W.cell? ⟨W.heap.size - 1, o, none⟩ := (bsome hb).1 _ _
theorem last_frozen {W w1 : World} (hb : Below W.heap.size W w1) (o : Nat) : (W.cell? ⟨W.heap.size - 1, o, none⟩).isSome = true → w1.frozen? ⟨W.heap.size - 1, o, none⟩ = W.frozen? ⟨W.heap.size - 1, o, none⟩ := (bsome hb).2 _ _
theorem set1 {W : World} {b i : Nat} {x : Value} (h : (W.cell? ⟨b, i, none⟩).isSome = true) : (W.setCell ⟨b, i, none⟩ x).cell? ⟨b, i, none⟩ = some x := by
  obtain ⟨v, hv⟩ := Option.isSome_iff_exists.1 h
  exact World.cell?_setCell_same _ _ _ hv
theorem set2 {W : World} {b : Nat} {x y : Value} (h0 : (W.cell? ⟨b, 0, none⟩).isSome = true) (h1 : (W.cell? ⟨b, 1, none⟩).isSome = true) :
    ((W.setCell ⟨b, 0, none⟩ x).setCell ⟨b, 1, none⟩ y).cell? ⟨b, 0, none⟩ = some x ∧ ((W.setCell ⟨b, 0, none⟩ x).setCell ⟨b, 1, none⟩ y).cell? ⟨b, 1, none⟩ = some y ∧ b < ((W.setCell ⟨b, 0, none⟩ x).setCell ⟨b, 1, none⟩ y).heap.size := by
  refine ⟨?_, ?_, ?_⟩
  · rw [World.cell?_setCell_other _ _ _ _ (by simp)]; exact set1 h0
  · exact set1 (by rw [World.cell?_setCell_other _ _ _ _ (by simp)]; exact h1)
  · simpa using lt_of_some h0
theorem held_below {w w1 w2 : World} {n1 d1 n2 d2 : Int}
    (s : w1.cell? ⟨w.heap.size, 0, none⟩ = some (.int .i64 n1) ∧ w1.cell? ⟨w.heap.size, 1, none⟩ = some (.int .i64 d1) ∧ w1.cell? ⟨w.heap.size + 1, 0, none⟩ = some (.int .i64 n2) ∧ w1.cell? ⟨w.heap.size + 1, 1, none⟩ = some (.int .i64 d2) ∧ Below w.heap.size w w1 ∧ w.heap.size + 1 < w1.heap.size)
    (hb : Below w1.heap.size w1 w2) :
    w2.cell? ⟨w.heap.size, 0, none⟩ = some (.int .i64 n1) ∧ w2.cell? ⟨w.heap.size, 1, none⟩ = some (.int .i64 d1) ∧ w2.cell? ⟨w.heap.size + 1, 0, none⟩ = some (.int .i64 n2) ∧ w2.cell? ⟨w.heap.size + 1, 1, none⟩ = some (.int .i64 d2) ∧ Below w.heap.size w w2 ∧ w.heap.size + 1 < w2.heap.size := by
  obtain ⟨s0, s1, s2, s3, s4, s5⟩ := s
  obtain ⟨hc, _⟩ := bcell hb
  exact ⟨(hc _ _ (by omega)).trans s0, (hc _ _ (by omega)).trans s1, (hc _ _ s5).trans s2, (hc _ _ s5).trans s3, s4.trans (hb.mono (by omega)), Nat.lt_of_lt_of_le s5 hb.size⟩
theorem below_alloc_drew (w : World) (o : Obj) : Below w.drew.heap.size w.drew (w.alloc o).drew := (Below.refl _ w.drew).alloc (Nat.le_refl _) o
theorem below_alloc (w : World) (o : Obj) : Below w.heap.size w (w.alloc o) := (Below.refl _ _).alloc (Nat.le_refl _) o
theorem held_start (w : World) (n1 d1 n2 d2 : Int) (t : TypeId) :
    ((w.alloc (.cells #[.int .i64 n1, .int .i64 d1] t)).alloc (.cells #[.int .i64 n2, .int .i64 d2] t)).cell? ⟨w.heap.size, 0, none⟩ = some (.int .i64 n1) ∧ ((w.alloc (.cells #[.int .i64 n1, .int .i64 d1] t)).alloc (.cells #[.int .i64 n2, .int .i64 d2] t)).cell? ⟨w.heap.size, 1, none⟩ = some (.int .i64 d1) ∧ ((w.alloc (.cells #[.int .i64 n1, .int .i64 d1] t)).alloc (.cells #[.int .i64 n2, .int .i64 d2] t)).cell? ⟨w.heap.size + 1, 0, none⟩ = some (.int .i64 n2) ∧ ((w.alloc (.cells #[.int .i64 n1, .int .i64 d1] t)).alloc (.cells #[.int .i64 n2, .int .i64 d2] t)).cell? ⟨w.heap.size + 1, 1, none⟩ = some (.int .i64 d2) ∧ Below w.heap.size w ((w.alloc (.cells #[.int .i64 n1, .int .i64 d1] t)).alloc (.cells #[.int .i64 n2, .int .i64 d2] t)) ∧ w.heap.size + 1 < ((w.alloc (.cells #[.int .i64 n1, .int .i64 d1] t)).alloc (.cells #[.int .i64 n2, .int .i64 d2] t)).heap.size :=
  ⟨by simp, by simp, by simp, by simp, ((Below.refl _ _).alloc (Nat.le_refl _) _).alloc (by simp) _, by simp⟩
theorem held_alloc {w w1 : World} {n1 d1 n2 d2 : Int} {o : Obj}
    (s : w1.cell? ⟨w.heap.size, 0, none⟩ = some (.int .i64 n1) ∧ w1.cell? ⟨w.heap.size, 1, none⟩ = some (.int .i64 d1) ∧ w1.cell? ⟨w.heap.size + 1, 0, none⟩ = some (.int .i64 n2) ∧ w1.cell? ⟨w.heap.size + 1, 1, none⟩ = some (.int .i64 d2) ∧ Below w.heap.size w w1 ∧ w.heap.size + 1 < w1.heap.size) :
    (w1.alloc o).cell? ⟨w.heap.size, 0, none⟩ = some (.int .i64 n1) ∧ (w1.alloc o).cell? ⟨w.heap.size, 1, none⟩ = some (.int .i64 d1) ∧ (w1.alloc o).cell? ⟨w.heap.size + 1, 0, none⟩ = some (.int .i64 n2) ∧ (w1.alloc o).cell? ⟨w.heap.size + 1, 1, none⟩ = some (.int .i64 d2) ∧ Below w.heap.size w (w1.alloc o) ∧ w.heap.size + 1 < (w1.alloc o).heap.size := held_below s (below_alloc _ _)
theorem held_drew {w w1 : World} {n1 d1 n2 d2 : Int}
    (s : w1.cell? ⟨w.heap.size, 0, none⟩ = some (.int .i64 n1) ∧ w1.cell? ⟨w.heap.size, 1, none⟩ = some (.int .i64 d1) ∧ w1.cell? ⟨w.heap.size + 1, 0, none⟩ = some (.int .i64 n2) ∧ w1.cell? ⟨w.heap.size + 1, 1, none⟩ = some (.int .i64 d2) ∧ Below w.heap.size w w1 ∧ w.heap.size + 1 < w1.heap.size) :
    w1.drew.cell? ⟨w.heap.size, 0, none⟩ = some (.int .i64 n1) ∧ w1.drew.cell? ⟨w.heap.size, 1, none⟩ = some (.int .i64 d1) ∧ w1.drew.cell? ⟨w.heap.size + 1, 0, none⟩ = some (.int .i64 n2) ∧ w1.drew.cell? ⟨w.heap.size + 1, 1, none⟩ = some (.int .i64 d2) ∧ Below w.heap.size w w1.drew ∧ w.heap.size + 1 < w1.drew.heap.size := held_below s ((Below.refl _ _).drew)
theorem held_set {w w1 : World} {n1 d1 n2 d2 : Int} {b i : Nat} {v : Value}
    (s : w1.cell? ⟨w.heap.size, 0, none⟩ = some (.int .i64 n1) ∧ w1.cell? ⟨w.heap.size, 1, none⟩ = some (.int .i64 d1) ∧ w1.cell? ⟨w.heap.size + 1, 0, none⟩ = some (.int .i64 n2) ∧ w1.cell? ⟨w.heap.size + 1, 1, none⟩ = some (.int .i64 d2) ∧ Below w.heap.size w w1 ∧ w.heap.size + 1 < w1.heap.size)
    (hb : w.heap.size + 1 < b) :
    (w1.setCell ⟨b, i, none⟩ v).cell? ⟨w.heap.size, 0, none⟩ = some (.int .i64 n1) ∧ (w1.setCell ⟨b, i, none⟩ v).cell? ⟨w.heap.size, 1, none⟩ = some (.int .i64 d1) ∧ (w1.setCell ⟨b, i, none⟩ v).cell? ⟨w.heap.size + 1, 0, none⟩ = some (.int .i64 n2) ∧ (w1.setCell ⟨b, i, none⟩ v).cell? ⟨w.heap.size + 1, 1, none⟩ = some (.int .i64 d2) ∧ Below w.heap.size w (w1.setCell ⟨b, i, none⟩ v) ∧ w.heap.size + 1 < (w1.setCell ⟨b, i, none⟩ v).heap.size := by
  obtain ⟨s0, s1, s2, s3, s4, s5⟩ := s
  have hb' : Below b w1 (w1.setCell ⟨b, i, none⟩ v) := (Below.refl b w1).setCell (p := ⟨b, i, none⟩) (Nat.le_refl b) v
  exact ⟨(hb'.cell (p := ⟨_, _, none⟩) (by show w.heap.size < b; omega)).trans s0, (hb'.cell (p := ⟨_, _, none⟩) (by show w.heap.size < b; omega)).trans s1, (hb'.cell (p := ⟨_, _, none⟩) hb).trans s2, (hb'.cell (p := ⟨_, _, none⟩) hb).trans s3, s4.setCell (by show w.heap.size ≤ b; omega) v, by simpa using s5⟩
theorem held2_below {w wc w1 w2 : World} {n1 d1 n2 d2 RN RD : Int} {b : Nat}
    (s : w1.cell? ⟨w.heap.size, 0, none⟩ = some (.int .i64 n1) ∧ w1.cell? ⟨w.heap.size, 1, none⟩ = some (.int .i64 d1) ∧ w1.cell? ⟨w.heap.size + 1, 0, none⟩ = some (.int .i64 n2) ∧ w1.cell? ⟨w.heap.size + 1, 1, none⟩ = some (.int .i64 d2) ∧ w1.cell? ⟨b, 0, none⟩ = some (.int .i64 RN) ∧ w1.cell? ⟨b, 1, none⟩ = some (.int .i64 RD) ∧ Below w.heap.size w w1 ∧ w.heap.size + 1 < w1.heap.size ∧ wc.heap.size ≤ w1.heap.size ∧ b < wc.heap.size)
    (hb : Below w1.heap.size w1 w2) :
    w2.cell? ⟨w.heap.size, 0, none⟩ = some (.int .i64 n1) ∧ w2.cell? ⟨w.heap.size, 1, none⟩ = some (.int .i64 d1) ∧ w2.cell? ⟨w.heap.size + 1, 0, none⟩ = some (.int .i64 n2) ∧ w2.cell? ⟨w.heap.size + 1, 1, none⟩ = some (.int .i64 d2) ∧ w2.cell? ⟨b, 0, none⟩ = some (.int .i64 RN) ∧ w2.cell? ⟨b, 1, none⟩ = some (.int .i64 RD) ∧ Below w.heap.size w w2 ∧ w.heap.size + 1 < w2.heap.size ∧ wc.heap.size ≤ w2.heap.size ∧ b < wc.heap.size := by
  obtain ⟨s0, s1, s2, s3, s4, s5, s6, s7, s8, s9⟩ := s
  obtain ⟨hc, _⟩ := bcell hb
  exact ⟨(hc _ _ (by omega)).trans s0, (hc _ _ (by omega)).trans s1, (hc _ _ s7).trans s2, (hc _ _ s7).trans s3, (hc _ _ (by omega)).trans s4, (hc _ _ (by omega)).trans s5, s6.trans (hb.mono (by omega)), Nat.lt_of_lt_of_le s7 hb.size, Nat.le_trans s8 hb.size, s9⟩
theorem held2_set {w wc w1 : World} {n1 d1 n2 d2 RN RD : Int} {b c i : Nat} {v : Value}
    (s : w1.cell? ⟨w.heap.size, 0, none⟩ = some (.int .i64 n1) ∧ w1.cell? ⟨w.heap.size, 1, none⟩ = some (.int .i64 d1) ∧ w1.cell? ⟨w.heap.size + 1, 0, none⟩ = some (.int .i64 n2) ∧ w1.cell? ⟨w.heap.size + 1, 1, none⟩ = some (.int .i64 d2) ∧ w1.cell? ⟨b, 0, none⟩ = some (.int .i64 RN) ∧ w1.cell? ⟨b, 1, none⟩ = some (.int .i64 RD) ∧ Below w.heap.size w w1 ∧ w.heap.size + 1 < w1.heap.size ∧ wc.heap.size ≤ w1.heap.size ∧ b < wc.heap.size)
    (hx : w.heap.size + 1 < c) (hy : wc.heap.size ≤ c) :
    (w1.setCell ⟨c, i, none⟩ v).cell? ⟨w.heap.size, 0, none⟩ = some (.int .i64 n1) ∧ (w1.setCell ⟨c, i, none⟩ v).cell? ⟨w.heap.size, 1, none⟩ = some (.int .i64 d1) ∧ (w1.setCell ⟨c, i, none⟩ v).cell? ⟨w.heap.size + 1, 0, none⟩ = some (.int .i64 n2) ∧ (w1.setCell ⟨c, i, none⟩ v).cell? ⟨w.heap.size + 1, 1, none⟩ = some (.int .i64 d2) ∧ (w1.setCell ⟨c, i, none⟩ v).cell? ⟨b, 0, none⟩ = some (.int .i64 RN) ∧ (w1.setCell ⟨c, i, none⟩ v).cell? ⟨b, 1, none⟩ = some (.int .i64 RD) ∧ Below w.heap.size w (w1.setCell ⟨c, i, none⟩ v) ∧ w.heap.size + 1 < (w1.setCell ⟨c, i, none⟩ v).heap.size ∧ wc.heap.size ≤ (w1.setCell ⟨c, i, none⟩ v).heap.size ∧ b < wc.heap.size := by
  obtain ⟨s0, s1, s2, s3, s4, s5, s6, s7, s8, s9⟩ := s
  have hb' : Below c w1 (w1.setCell ⟨c, i, none⟩ v) := (Below.refl c w1).setCell (p := ⟨c, i, none⟩) (Nat.le_refl c) v
  have hc : ∀ x o, x < c → (w1.setCell ⟨c, i, none⟩ v).cell? ⟨x, o, none⟩ = w1.cell? ⟨x, o, none⟩ := fun x o h => hb'.cell (p := ⟨x, o, none⟩) h
  exact ⟨(hc _ _ (by omega)).trans s0, (hc _ _ (by omega)).trans s1, (hc _ _ (by omega)).trans s2, (hc _ _ (by omega)).trans s3, (hc _ _ (by omega)).trans s4, (hc _ _ (by omega)).trans s5, s6.setCell (by show w.heap.size ≤ c; omega) v, by simpa using s7, by simpa using s8, s9⟩
end Go.Proofs.Ytbhgdkkclefpnaa
namespace Go.Proofs.Ytbhgdkkclefpnaa
open Go.RowKit

def FRow (w : World) (a : Option Addr) (ls : List (Int × Int)) : Prop :=
  ls = [] ∨ ∃ b o, a = some ⟨b, o, none⟩ ∧ b < w.heap.size ∧ ∀ i, i < ls.length → w.cell? ⟨b, o + i * 2, none⟩ = some (.int .i64 (ls.getD i (0, 0)).1) ∧ w.cell? ⟨b, o + i * 2 + 1, none⟩ = some (.int .i64 (ls.getD i (0, 0)).2)
theorem FRow.below {w w' : World} {a : Option Addr} {ls : List (Int × Int)} (h : FRow w a ls) (hb : Below w.heap.size w w') : FRow w' a ls := by
  rcases h with h | ⟨b, o, rfl, hl, hc⟩
  · exact Or.inl h
  · exact Or.inr ⟨b, o, rfl, Nat.lt_of_lt_of_le hl hb.size, fun i hi => ⟨(hb.cell (p := ⟨b, o + i * 2, none⟩) hl).trans (hc i hi).1, (hb.cell (p := ⟨b, o + i * 2 + 1, none⟩) hl).trans (hc i hi).2⟩⟩
theorem FRow.at {w : World} {a : Option Addr} {ls : List (Int × Int)} (h : FRow w a ls) {i : Nat} (hi : i < ls.length) : ∃ b o, a = some ⟨b, o, none⟩ ∧ b < w.heap.size ∧ w.cell? ⟨b, o + i * 2, none⟩ = some (.int .i64 (ls.getD i (0, 0)).1) ∧ w.cell? ⟨b, o + i * 2 + 1, none⟩ = some (.int .i64 (ls.getD i (0, 0)).2) := by
  rcases h with rfl | ⟨b, o, rfl, hl, hc⟩
  · exact absurd hi (Nat.not_lt_zero _)
  · exact ⟨b, o, rfl, hl, (hc i hi).1, (hc i hi).2⟩

/-- Cells of a block that are there, and can be written. -/
def LooseF (w : World) (B m : Nat) : Prop := ∀ j, j < m → (w.cell? ⟨B, j, none⟩).isSome = true ∧ w.frozen? ⟨B, j, none⟩ = false
theorem LooseF.below {w w' : World} {B m : Nat} (h : LooseF w B m) (hb : Below w.heap.size w w') : LooseF w' B m := fun j hj => by
  obtain ⟨h1, h2⟩ := h j hj
  have hl : B < w.heap.size := by
    obtain ⟨v, hv⟩ := Option.isSome_iff_exists.1 h1
    exact World.block_lt_of_cell? w _ hv
  exact ⟨by rw [hb.cell (p := ⟨B, j, none⟩) hl]; exact h1, by rw [hb.frozen (p := ⟨B, j, none⟩) hl]; exact h2⟩
theorem LooseF.set {w : World} {B m i : Nat} {v : Value} (h : LooseF w B m) : LooseF (w.setCell ⟨B, i, none⟩ v) B m := fun j hj => by
  obtain ⟨h1, h2⟩ := h j hj
  refine ⟨?_, by rw [World.frozen?_setCell]; exact h2⟩
  by_cases e : j = i
  · subst e
    obtain ⟨u, hu⟩ := Option.isSome_iff_exists.1 h1
    rw [World.cell?_setCell_same _ _ _ hu]; rfl
  · rw [World.cell?_setCell_other _ _ _ _ (fun e' => e (by injection e' with _ e2; exact e2.symm))]; exact h1
theorem LooseF.lt {w : World} {B m : Nat} (h : LooseF w B m) (hm : 0 < m) : B < w.heap.size := by
  obtain ⟨v, hv⟩ := Option.isSome_iff_exists.1 (h 0 hm).1
  exact World.block_lt_of_cell? w _ hv
theorem grownF_set {a w : World} {B o : Nat} {v : Value} (h : a.grownBy w (some B)) : a.grownBy (w.setCell ⟨B, o, none⟩ v) (some B) :=
  ⟨h.os, h.tape, h.output, by simpa using h.size, fun k hk hne => (Below.heap_setCell _ _ _ k (by intro e; exact hne (by rw [e]))).trans (h.block k hk hne)⟩
theorem grownF_of {a w w' : World} {B : Nat} (h : a.grownBy w (some B)) (hb : Below w.heap.size w w') : a.grownBy w' (some B) :=
  ⟨hb.os.trans h.os, hb.tape.trans h.tape, hb.output.trans h.output, Nat.le_trans h.size hb.size, fun k hk hne => (hb.block k (Nat.lt_of_lt_of_le hk h.size)).trans (h.block k hk hne)⟩
def FAt (w : World) (b off : Nat) (xs : List (Int × Int)) : Prop :=
  ∀ i, i < xs.length → w.cell? ⟨b, off + i * 2, none⟩ = some (.int .i64 (xs.getD i (0, 0)).1) ∧ w.cell? ⟨b, off + i * 2 + 1, none⟩ = some (.int .i64 (xs.getD i (0, 0)).2)
theorem FAt.below {w w' : World} {B b off : Nat} {xs : List (Int × Int)} (h : FAt w b off xs) (hb : Below B w w') (hlt : b < B) : FAt w' b off xs :=
  fun i hi => ⟨(hb.cell (p := ⟨b, off + i * 2, none⟩) hlt).trans (h i hi).1, (hb.cell (p := ⟨b, off + i * 2 + 1, none⟩) hlt).trans (h i hi).2⟩
theorem FAt.row {w : World} {b off : Nat} {xs : List (Int × Int)} (h : FAt w b off xs) (hb : b < w.heap.size) : FRow w (some ⟨b, off, none⟩) xs := Or.inr ⟨b, off, rfl, hb, h⟩
theorem setF1 {W : World} {b i : Nat} {x : Value} (h : (W.cell? ⟨b, i, none⟩).isSome = true) : (W.setCell ⟨b, i, none⟩ x).cell? ⟨b, i, none⟩ = some x := by
  obtain ⟨v, hv⟩ := Option.isSome_iff_exists.1 h
  exact World.cell?_setCell_same _ _ _ hv
theorem makeF_run (n : Nat) (hn : n ≤ 1048576) (w : World) : (Instr.makeSlice 26 (.int .i64 (n : Int)) (.int .i64 (n : Int))).run Try.prog w = .ok (.slice (some ⟨w.heap.size, 0, none⟩) n n) (w.alloc (.cells (madeCells #[.int .i64 0, .int .i64 0] (n * 2)) 40)) := by
  have h : (Try.prog.info? 40).map (fun i => (i.zero, i.size, i.bytes)) = some (some (.agg #[.int .i64 0, .int .i64 0]), 2, 16) := by kernel_rfl
  obtain ⟨i, hi, hzz⟩ := Option.map_eq_some_iff.1 h
  simp only [Prod.mk.injEq] at hzz
  obtain ⟨hz, hs, hb⟩ := hzz
  have := run_make (P := Try.prog) w 26 40 i _ Try.underlying26 hi hz .i64 .i64 (n : Int) (n : Int) (by omega) (by omega) (by rw [hb]; omega) (by omega)
  simpa [hs, Value.cells] using this
theorem madeF_cell (w : World) (n j : Nat) (t : TypeId) (hj : j < n * 2) : (w.alloc (.cells (madeCells #[.int .i64 0, .int .i64 0] (n * 2)) t)).cell? ⟨w.heap.size, j, none⟩ = some (.int .i64 0) := by
  have h2 : j % 2 = 0 ∨ j % 2 = 1 := by omega
  have h3 : (madeCells #[.int .i64 0, .int .i64 0] (n * 2))[j]? = some (.int .i64 0) := by
    rcases h2 with h2 | h2 <;> simp [madeCells, hj, h2]
  simp only [World.cell?, (MapKept.heap_alloc w _).1]
  simpa using h3
theorem putF2 {W : World} {B i : Nat} {x y : Value} (h0 : (W.cell? ⟨B, i, none⟩).isSome = true) (h1 : (W.cell? ⟨B, i + 1, none⟩).isSome = true) :
    ((W.setCell ⟨B, i, none⟩ x).setCell ⟨B, i + 1, none⟩ y).cell? ⟨B, i, none⟩ = some x ∧ ((W.setCell ⟨B, i, none⟩ x).setCell ⟨B, i + 1, none⟩ y).cell? ⟨B, i + 1, none⟩ = some y ∧
    (∀ j, j ≠ i → j ≠ i + 1 → ((W.setCell ⟨B, i, none⟩ x).setCell ⟨B, i + 1, none⟩ y).cell? ⟨B, j, none⟩ = W.cell? ⟨B, j, none⟩) ∧ (∀ a, ((W.setCell ⟨B, i, none⟩ x).setCell ⟨B, i + 1, none⟩ y).frozen? a = W.frozen? a) := by
  refine ⟨?_, ?_, ?_, ?_⟩
  · rw [World.cell?_setCell_other _ _ _ _ (by simp)]; exact setF1 h0
  · exact setF1 (by rw [World.cell?_setCell_other _ _ _ _ (by simp)]; exact h1)
  · intro j hj hj'
    rw [World.cell?_setCell_other _ _ _ _ (fun e => hj' (by injection e with _ e2; exact e2.symm)), World.cell?_setCell_other _ _ _ _ (fun e => hj (by injection e with _ e2; exact e2.symm))]
  · intro a; rw [World.frozen?_setCell, World.frozen?_setCell]
theorem madeF_frozen (w : World) (c : Array Value) (j : Nat) (t : TypeId) : (w.alloc (.cells c t)).frozen? ⟨w.heap.size, j, none⟩ = false := by simp [go_sem]

theorem takeF_row {w : World} {b off : Nat} {xs : List (Int × Int)} {k : Nat} (h : FAt w b off (xs.take k)) (hk : k < xs.length) (x1 x2 : Int) (hx : xs.getD k (0, 0) = (x1, x2)) {w' : World}
    (hw : ∀ j, j < off + k * 2 → w'.cell? ⟨b, j, none⟩ = w.cell? ⟨b, j, none⟩) (h0 : w'.cell? ⟨b, off + k * 2, none⟩ = some (.int .i64 x1)) (h1 : w'.cell? ⟨b, off + k * 2 + 1, none⟩ = some (.int .i64 x2)) : FAt w' b off (xs.take (k + 1)) := by
  intro i hi
  simp only [List.length_take] at hi
  by_cases e : i < k
  · have hh := h i (by simp only [List.length_take]; omega)
    have eq : (xs.take (k + 1)).getD i (0, 0) = (xs.take k).getD i (0, 0) := by
      simp [e, show i < k + 1 by omega]
    rw [eq]
    exact ⟨(hw _ (by omega)).trans hh.1, (hw _ (by omega)).trans hh.2⟩
  · have e2 : i = k := by omega
    subst e2
    have eq : (xs.take (i + 1)).getD i (0, 0) = (x1, x2) := by
      rw [← hx]; simp
    rw [eq]
    exact ⟨h0, h1⟩


end Go.Proofs.Ytbhgdkkclefpnaa
namespace Go.Proofs.Ytbhgdkkclefpnaa
open Go.RowKit

/-- Nothing has turned but the blocks x and y; new blocks may be there. -/
structure Off2 (w w' : World) (x y : Nat) : Prop where
  os : w'.os = w.os
  tape : w'.tape = w.tape
  output : w'.output = w.output
  size : w.heap.size ≤ w'.heap.size
  block : ∀ b, b < w.heap.size → b ≠ x → b ≠ y → w'.heap[b]? = w.heap[b]?
theorem Off2.below {w w' : World} {x y k : Nat} (h : Off2 w w' x y) (hx : k ≤ x) (hy : k ≤ y) (hk : k ≤ w.heap.size) : Below k w w' :=
  ⟨h.os, h.tape, h.output, h.size, fun b hb => h.block b (by omega) (by omega) (by omega)⟩
theorem own_near {w : World} {base n g cap : Nat} {xs : List Value} (h : w.ownsRow base 3 1 (.slice (some ⟨g, 0, none⟩) n cap) n xs) : g < w.heap.size := by
  rcases h.2 with ⟨h0, _⟩ | ⟨g', cap', cur, hv, h2, h3, _⟩
  · cases h0
  · cases hv; exact (Array.getElem?_eq_some_iff.1 h3).1

end Go.Proofs.Ytbhgdkkclefpnaa
namespace Go.Proofs.Ytbhgdkkclefpnaa
open Go.RowKit

/-- The list that a value owns holds k, k + 1, .. -/
def HeldV (w : World) (v : Value) (n : Nat) (k : Int) : Prop :=
  (v = .slice none 0 0 ∧ n = 0) ∨ ∃ g cap, v = .slice (some ⟨g, 0, none⟩) n cap ∧ g < w.heap.size ∧ ∀ j : Nat, j < n → w.cell? ⟨g, j, none⟩ = some (.int .i64 (k + j))
theorem HeldV.keep {w w' : World} {v : Value} {n : Nat} {k : Int} (h : HeldV w v n k) (hs : w.heap.size ≤ w'.heap.size) (hb : ∀ g, v.ownBlock = some g → w'.heap[g]? = w.heap[g]?) : HeldV w' v n k := by
  rcases h with h | ⟨g, cap, rfl, hl, hc⟩
  · exact Or.inl h
  · exact Or.inr ⟨g, cap, rfl, Nat.lt_of_lt_of_le hl hs, fun j hj => (World.cell?_of_block (w := w) (a := ⟨g, j, none⟩) (hb g rfl)).trans (hc j hj)⟩
theorem HeldV.below {w w' : World} {v : Value} {n : Nat} {k : Int} (h : HeldV w v n k) (hb : Below w.heap.size w w') : HeldV w' v n k := by
  rcases h with h | ⟨g, cap, rfl, hl, hc⟩
  · exact Or.inl h
  · exact Or.inr ⟨g, cap, rfl, Nat.lt_of_lt_of_le hl hb.size, fun j hj => (hb.cell (p := ⟨g, j, none⟩) hl).trans (hc j hj)⟩
theorem own_keep {w w' : World} {base n : Nat} {v : Value} {xs : List Value} (h : w.ownsRow base 3 1 v n xs) (hb : ∀ g, v.ownBlock = some g → g < w.heap.size → w'.heap[g]? = w.heap[g]?) : w'.ownsRow base 3 1 v n xs := by
  rcases h with ⟨h0, h | ⟨g', cap, cur, rfl, h2, h3, h4⟩⟩
  · exact ⟨h0, Or.inl h⟩
  · exact ⟨h0, Or.inr ⟨g', cap, cur, rfl, h2, (hb g' rfl (Array.getElem?_eq_some_iff.1 h3).1).trans h3, h4⟩⟩
theorem own_below {w w' : World} {base n : Nat} {v : Value} {xs : List Value} (h : w.ownsRow base 3 1 v n xs) (hb : Below w.heap.size w w') : w'.ownsRow base 3 1 v n xs := own_keep h fun _ _ hl => hb.block _ hl
theorem own_row {w : World} {base n : Nat} {v : Value} {xs : List Int} (hx : xs.length = n) (h : w.ownsRow base 3 1 v n (ints xs)) : ∃ a cap, v = .slice a n cap ∧ ARow w a xs := by
  rcases h.2 with ⟨rfl, hn⟩ | ⟨g, cap, cur, rfl, _⟩
  · subst hn; exact ⟨none, 0, rfl, Or.inl (List.length_eq_zero_iff.1 hx)⟩
  · exact ⟨_, _, rfl, arow_owns hx.symm h⟩
theorem grown_under {w w' : World} {base n k : Nat} {v : Value} {xs : List Value} (hg : w.grownBy w' v.ownBlock) (h : w.ownsRow base 3 1 v n xs) (hk : k ≤ base) (hs : k ≤ w.heap.size) : Below k w w' :=
  ⟨hg.os, hg.tape, hg.output, hg.size, fun b hb => hg.block b (by omega) (fun he => by have := h.lt b he.symm; omega)⟩

end Go.Proofs.Ytbhgdkkclefpnaa
namespace Go.Proofs.Ytbhgdkkclefpnaa
open Go.RowKit

/-- A list that a call made, from lo on and below hi. -/
def AV (w : World) (lo hi : Nat) (v : Value) (n : Nat) (xs : List Int) : Prop := w.ownsRow lo 3 1 v n (ints xs) ∧ (∀ g, v.ownBlock = some g → g < hi) ∧ hi ≤ w.heap.size
theorem AV.new {w : World} {lo n : Nat} {v : Value} {xs : List Int} (h : w.ownsRow lo 3 1 v n (ints xs)) : AV w lo w.heap.size v n xs := ⟨h, fun g hg => (h.lt g hg).2, Nat.le_refl _⟩
theorem AV.below {w w' : World} {lo hi n : Nat} {v : Value} {xs : List Int} (h : AV w lo hi v n xs) (hb : Below w.heap.size w w') : AV w' lo hi v n xs := ⟨own_below h.1 hb, h.2.1, Nat.le_trans h.2.2 hb.size⟩
theorem AV.rng {w w' : World} {lo hi n a b : Nat} {v : Value} {xs : List Int} (h : AV w lo hi v n xs) (hr : Rng a b w w') (hd : hi ≤ a ∨ b ≤ lo) : AV w' lo hi v n xs :=
  ⟨own_keep h.1 fun g hg hl => hr.2.2.2.2 g hl (by have := h.1.lt g hg; have := h.2.1 g hg; omega), h.2.1, Nat.le_trans h.2.2 hr.2.2.2.1⟩
theorem AV.grown {w w' : World} {lo hi n lo' hi' n' : Nat} {v v' : Value} {xs ys : List Int} (h : AV w lo hi v n xs) (h' : AV w lo' hi' v' n' ys) (hg : w.grownBy w' v'.ownBlock) (hd : hi ≤ lo' ∨ v.ownBlock = none ∨ v.ownBlock ≠ v'.ownBlock) : AV w' lo hi v n xs := by
  refine ⟨own_keep h.1 fun g hv hl => hg.block g hl fun e => ?_, h.2.1, Nat.le_trans h.2.2 hg.size⟩
  have h1 := h'.1.lt g e.symm
  have h2 := h.2.1 g hv
  rcases hd with hd | hd | hd
  · omega
  · rw [hd] at hv; cases hv
  · exact hd (hv.trans e)
theorem AV.under {w w' : World} {lo hi n k : Nat} {v : Value} {xs : List Int} (h : AV w lo hi v n xs) (hg : w.grownBy w' v.ownBlock) (hk : k ≤ lo) (hs : k ≤ w.heap.size) : Below k w w' := grown_under hg h.1 hk hs
/-- What is held from k on, in a list that lies from lo on and below hi. -/
def HV (w : World) (v : Value) (n : Nat) (k : Int) : Prop := HeldV w v n k
theorem HV.below {w w' : World} {v : Value} {n : Nat} {k : Int} (h : HV w v n k) (hb : Below w.heap.size w w') : HV w' v n k := HeldV.below h hb
theorem HV.grown {w w' : World} {v v' : Value} {n : Nat} {k : Int} (h : HV w v n k) (hg : w.grownBy w' v'.ownBlock) (hd : v.ownBlock = none ∨ v.ownBlock ≠ v'.ownBlock) : HV w' v n k := by
  rcases h with h | ⟨g, cap, rfl, hl, hc⟩
  · exact Or.inl h
  · refine Or.inr ⟨g, cap, rfl, Nat.lt_of_lt_of_le hl hg.size, fun j hj => (World.cell?_of_block (w := w) (a := ⟨g, j, none⟩) (hg.block g hl fun e => ?_)).trans (hc j hj)⟩
    rcases hd with hd | hd
    · cases hd
    · exact hd e
end Go.Proofs.Ytbhgdkkclefpnaa
namespace Go.Proofs.Ytbhgdkkclefpnaa
open Go.RowKit

def Car (w0 w : World) (a b : Option Addr) (xs ys : List Int) : Prop := ARow w a xs ∧ ARow w b ys ∧ Below w0.heap.size w0 w
theorem Car.step {w0 w w' : World} {a b : Option Addr} {xs ys : List Int} (h : Car w0 w a b xs ys) (hb : Below w.heap.size w w') : Car w0 w' a b xs ys :=
  ⟨h.1.below hb, h.2.1.below hb, h.2.2.trans (hb.mono h.2.2.size)⟩
theorem Car.alloc {w0 w : World} {a b : Option Addr} {xs ys : List Int} (h : Car w0 w a b xs ys) (o : Obj) : Car w0 (w.alloc o) a b xs ys := h.step (below_alloc _ _)
end Go.Proofs.Ytbhgdkkclefpnaa
namespace Go.Proofs.Ytbhgdkkclefpnaa
open Go.RowKit

/-- A list of moves in a block from lo on and below hi, or none. -/
def MO (w : World) (lo hi : Nat) (v : Value) (n : Nat) (L : List (Int × Int)) : Prop :=
  hi ≤ w.heap.size ∧ L.length = n ∧ ((n = 0 ∧ ∃ a c, v = .slice a 0 c) ∨ ∃ g cap, v = .slice (some ⟨g, 0, none⟩) n cap ∧ lo ≤ g ∧ g < hi ∧ FAt w g 0 L ∧ LooseF w g (n * 2))
theorem MO.below {w w' : World} {lo hi n : Nat} {v : Value} {L : List (Int × Int)} (h : MO w lo hi v n L) (hb : Below w.heap.size w w') : MO w' lo hi v n L := by
  obtain ⟨h1, h2, h3⟩ := h
  refine ⟨Nat.le_trans h1 hb.size, h2, ?_⟩
  rcases h3 with h3 | ⟨g, cap, e, a1, a2, a3, a4⟩
  · exact Or.inl h3
  · exact Or.inr ⟨g, cap, e, a1, a2, a3.below hb (by omega), a4.below hb⟩
theorem FAt.keep {w w' : World} {b off : Nat} {xs : List (Int × Int)} (h : FAt w b off xs) (hb : w'.heap[b]? = w.heap[b]?) : FAt w' b off xs :=
  fun i hi => ⟨(World.cell?_of_block (w := w) (a := ⟨b, off + i * 2, none⟩) hb).trans (h i hi).1, (World.cell?_of_block (w := w) (a := ⟨b, off + i * 2 + 1, none⟩) hb).trans (h i hi).2⟩
theorem LooseF.keep {w w' : World} {B m : Nat} (h : LooseF w B m) (hb : w'.heap[B]? = w.heap[B]?) : LooseF w' B m := fun j hj =>
  ⟨by rw [World.cell?_of_block (w := w) (a := ⟨B, j, none⟩) hb]; exact (h j hj).1, (World.frozen?_of_block (w := w) (a := ⟨B, j, none⟩) hb).trans (h j hj).2⟩
/-- Another one's block has been written. -/
theorem MO.grown {w w' : World} {lo hi n : Nat} {v : Value} {L : List (Int × Int)} {q : Option Nat} (h : MO w lo hi v n L) (hg : w.grownBy w' q) (hq : ∀ b, q = some b → hi ≤ b ∨ b < lo) : MO w' lo hi v n L := by
  obtain ⟨h1, h2, h3⟩ := h
  refine ⟨Nat.le_trans h1 hg.size, h2, ?_⟩
  rcases h3 with h3 | ⟨g, cap, e, a1, a2, a3, a4⟩
  · exact Or.inl h3
  · have hb : w'.heap[g]? = w.heap[g]? := hg.block g (by omega) (fun e => by have := hq g e.symm; omega)
    exact Or.inr ⟨g, cap, e, a1, a2, a3.keep hb, a4.keep hb⟩
theorem MO.row {w : World} {lo hi n : Nat} {v : Value} {L : List (Int × Int)} (h : MO w lo hi v n L) : ∃ a c, v = .slice a n c ∧ FRow w a L := by
  obtain ⟨h1, h2, h3⟩ := h
  rcases h3 with ⟨h0, a, c, rfl⟩ | ⟨g, cap, rfl, a1, a2, a3, _⟩
  · subst h0; exact ⟨a, c, rfl, Or.inl (List.length_eq_zero_iff.1 h2)⟩
  · exact ⟨_, cap, rfl, a3.row (by omega)⟩
theorem AV.grownQ {w w' : World} {lo hi n : Nat} {v : Value} {xs : List Int} {q : Option Nat} (h : AV w lo hi v n xs) (hg : w.grownBy w' q) (hq : ∀ b, q = some b → hi ≤ b ∨ b < lo) : AV w' lo hi v n xs :=
  ⟨own_keep h.1 fun g hv hl => hg.block g hl fun e => by have h1 := h.1.lt g hv; have h2 := h.2.1 g hv; have := hq g e.symm; omega, h.2.1, Nat.le_trans h.2.2 hg.size⟩
theorem AV.at_ {w : World} {lo hi n : Nat} {v : Value} {xs : List Int} (h : AV w lo hi v n xs) : ∀ b, v.ownBlock = some b → lo ≤ b ∧ b < hi := fun b e => ⟨(h.1.lt b e).1, h.2.1 b e⟩
theorem AV.row {w : World} {lo hi n : Nat} {v : Value} {xs : List Int} (hx : xs.length = n) (h : AV w lo hi v n xs) : ∃ a c, v = .slice a n c ∧ ARow w a xs := own_row hx h.1
/-- Where a list of moves may be written. -/
def moB (v : Value) (n : Nat) : Option Nat := if n = 0 then none else v.ownBlock
theorem MO.at_ {w : World} {lo hi n : Nat} {v : Value} {L : List (Int × Int)} (h : MO w lo hi v n L) : ∀ b, moB v n = some b → lo ≤ b ∧ b < hi := fun b e => by
  unfold moB at e
  split at e
  · cases e
  · rename_i h0
    rcases h.2.2 with ⟨h3, _⟩ | ⟨g, cap, rfl, a1, a2, _⟩
    · exact absurd h3 h0
    · simp [Value.ownBlock] at e; omega
theorem grown_under10 {w w' : World} {q : Option Nat} {k : Nat} (hg : w.grownBy w' q) (hq : ∀ b, q = some b → k ≤ b) (hs : k ≤ w.heap.size) : Below k w w' :=
  ⟨hg.os, hg.tape, hg.output, hg.size, fun b hb => hg.block b (by omega) fun e => by have := hq b e.symm; omega⟩
/-- What is held: it counts on from k. -/
def MH (w : World) (v : Value) (n : Nat) (k : Int) : Prop := (n = 0 ∧ ∃ a c, v = .slice a 0 c) ∨ ∃ g cap, v = .slice (some ⟨g, 0, none⟩) n cap ∧ g < w.heap.size ∧ ∀ j : Nat, j < n * 2 → w.cell? ⟨g, j, none⟩ = some (.int .i64 (k + (j : Int)))
theorem MH.below {w w' : World} {v : Value} {n : Nat} {k : Int} (h : MH w v n k) (hb : Below w.heap.size w w') : MH w' v n k := by
  rcases h with h | ⟨g, cap, e, hl, hc⟩
  · exact Or.inl h
  · exact Or.inr ⟨g, cap, e, Nat.lt_of_lt_of_le hl hb.size, fun j hj => (hb.cell (p := ⟨g, j, none⟩) hl).trans (hc j hj)⟩
end Go.Proofs.Ytbhgdkkclefpnaa
namespace Go.Proofs.Ytbhgdkkclefpnaa
open Go.RowKit

theorem none_row10 (w : World) : (w.alloc (.cells #[] 3)).ownsRow w.heap.size 3 1 (.slice (some ⟨w.heap.size, 0, none⟩) 0 0) 0 [] := by
  have h := World.ownsRow_lit (base := w.heap.size) (e := 3) (size := 1) w #[] 0 (Nat.le_refl _) (by unfold maxLen; omega) (by simp)
  simpa using h
/-- A list of ints behind an empty one. -/
theorem cl_run {w : World} {a : Option Addr} {n c : Nat} {xs : List Int} (hx : xs.length = n) (hn : n ≤ 1000) (ha : ARow w a xs) :
    ∃ v' w', (∀ ty, (Builtin.append_ #[23, 23] ty #[.slice (some ⟨w.heap.size, 0, none⟩) 0 0, .slice a n c]).run Try.prog (w.alloc (.cells #[] 3)) = .ok v' w') ∧ w'.ownsRow w.heap.size 3 1 v' n (ints xs) ∧ Below w.heap.size w w' := by
  obtain ⟨i0', hi', hz0, hz1, hz2⟩ := infoI
  obtain ⟨v', w', h1, h2, h3⟩ := run_append_v (P := Try.prog) (w.alloc (.cells #[] 3)) w.heap.size 23 0 3 i0' _ 8 Try.underlying23 hi' hz0 hz1 hz2 rfl _ 0 _ (none_row10 w) a n c (ints xs) (by rw [ints_len, hx]) (ha.alloc _).vrow (fun u hu => by simp only [ints, List.mem_map] at hu; obtain ⟨_, _, rfl⟩ := hu; rfl) (by unfold maxLen; omega) (by omega) (by simp)
  rw [Nat.zero_add] at h2
  exact ⟨v', w', fun _ => h1, h2, ((Below.refl _ _).alloc (Nat.le_refl _) (.cells #[] 3)).trans (grown_under10 h3 (fun b e => by simp [Value.ownBlock] at e; omega) (by simp))⟩
theorem ARow2 (w : World) (x y : Int) (t : TypeId) : ARow (w.alloc (.cells #[.int .i64 x, .int .i64 y] t)) (some ⟨w.heap.size, 0, none⟩) [x, y] := by
  refine Or.inr ⟨w.heap.size, 0, rfl, by simp, fun i hi => ?_⟩
  have : i = 0 ∨ i = 1 := by simp at hi; omega
  rcases this with rfl | rfl <;> simp
theorem clone_any {b o n c : Nat} {xs : List Int} {w : World} (hx : xs.length = n) (hn : n ≤ 1000) (ha : ∀ i, i < xs.length → w.cell? ⟨b, o + i, none⟩ = some (.int .i64 (xs.getD i 0))) :
    Calls Try.prog 24 #[.slice (some ⟨b, o, none⟩) n c] w fun e w' => ∃ v, e = .returned v ∧ Below w.heap.size w w' ∧ w'.ownsRow w.heap.size 3 1 v n (ints xs) := by
  refine (Try.slices_Clone_int b o n c xs w (by rw [hx]; exact Nat.le_refl _) (by omega) ha).mono ?_
  rintro e w3 ⟨v, rfl, own3, _, hb3⟩
  rw [show (xs.take n).map (Value.int .i64) = ints xs by rw [← hx, List.take_length]; rfl] at own3
  exact ⟨v, rfl, hb3, own3⟩
theorem can_eq {xs : List Int} {n : Nat} {F T : Int} (hx : xs.length = n) : Mx.canB xs (F, T) = (Pf.allB [F, T] 0 ((n : Int) - 1) && ((xs.getD F.toNat 0 != 0) && (xs.getD T.toNat 0 == 0))) := by subst hx; rfl
set_option maxRecDepth 100000 in
set_option maxHeartbeats 2000000 in
theorem cm_any {a : Option Addr} {n c : Nat} {xs : List Int} {F T : Int} {w : World} (hx : xs.length = n) (hn : n ≤ 1000) (h1 : 1 ≤ n) (ha : ARow w a xs) :
    Calls Try.prog 39 #[.slice a n c, .agg #[.int .i64 F, .int .i64 T]] w fun e w' => e = .returned (.bool (Mx.canB xs (F, T))) ∧ Below w.heap.size w w' := by
  have HE := hide (can_eq (F := F) (T := T) hx)
  have bW1 := below_new w (.cells #[.int .i64 F, .int .i64 T] 40)
  have bW2 := below_new (w.alloc (.cells #[.int .i64 F, .int .i64 T] 40)) (.cells #[.int .i64 F, .int .i64 T] 3)
  have hb := bW1.trans (bW2.mono bW1.size)
  have hA2 := ha.below hb
  have hAR := ARow2 (w.alloc (.cells #[.int .i64 F, .int .i64 T] 40)) F T 3
  rw [World.size_alloc] at hAR
  have cm0 : ((w.alloc (.cells #[.int .i64 F, .int .i64 T] 40)).alloc (.cells #[.int .i64 F, .int .i64 T] 3)).cell? ⟨w.heap.size, 0, none⟩ = some (.int .i64 F) := by simp
  have cm1 : ((w.alloc (.cells #[.int .i64 F, .int .i64 T] 40)).alloc (.cells #[.int .i64 F, .int .i64 T] 3)).cell? ⟨w.heap.size, 1, none⟩ = some (.int .i64 T) := by simp
  have HB := hide hb
  have HAR := hide hAR
  have HA := hide hA2
  have HX := hide hx
  have HLN : Hid (([F, T] : List Int).length = 2) := hide rfl
  generalize Mx.canB xs (F, T) = R at *
  clear bW1 bW2 hb hA2 hAR ha hx
  cases hal : Pf.allB [F, T] 0 ((n : Int) - 1)
  · have HR : Hid (R = false) := hide (by rw [HE.out, hal]; rfl)
    have HK := hide hal
    clear hal
    go_enter Try.func39, Try.ntmps39
    go_wp2_with fail
    refine (areb_eqn HAR HLN (by omega) HK).mono ?_
    rintro e w2 ⟨rfl, hw2⟩
    subst hw2
    go_wp2_with fail
    go_ret
    exact ⟨ret_bool HR.out.symm, HB.out⟩
  · have bF := Pf.inB_yes (Pf.allB_get hal (show 0 < [F, T].length by simp))
    have bT := Pf.inB_yes (Pf.allB_get hal (show 1 < [F, T].length by simp))
    simp only [List.getD_cons_zero, List.getD_cons_succ] at bF bT
    obtain ⟨f, rfl⟩ := Int.eq_ofNat_of_zero_le bF.1
    obtain ⟨t, rfl⟩ := Int.eq_ofNat_of_zero_le bT.1
    have hf : f < n := by omega
    have ht : t < n := by omega
    have HR : Hid (R = ((xs.getD f 0 != 0) && (xs.getD t 0 == 0))) := hide (by rw [HE.out, hal]; simp)
    have HK := hide hal
    obtain ⟨b, off, rfl, r1⟩ := HA.out.at (i := f) (by rw [HX.out]; exact hf)
    obtain ⟨b', off', e2, r2⟩ := HA.out.at (i := t) (by rw [HX.out]; exact ht)
    cases e2
    generalize xs.getD f 0 = x at *
    generalize xs.getD t 0 = y at *
    have f0 : (0 : Int) ≤ (f : Int) := by omega
    have f1 : (f : Int) < (n : Int) := by omega
    have t0 : (0 : Int) ≤ (t : Int) := by omega
    have t1 : (t : Int) < (n : Int) := by omega
    clear hal bF bT HA HE
    go_enter Try.func39, Try.ntmps39
    go_wp2_with fail
    refine (areb_eqn HAR HLN (by omega) HK).mono ?_
    rintro e w2 ⟨rfl, hw2⟩
    subst hw2
    clear HAR HK
    generalize (w.alloc (.cells #[.int .i64 (f : Int), .int .i64 (t : Int)] 40)).alloc (.cells #[.int .i64 (f : Int), .int .i64 (t : Int)] 3) = W2 at *
    cases hxx : (x != 0)
    · have HR2 : Hid (R = false) := hide (by rw [HR.out, hxx]; rfl)
      go_wp2_with fail
      go_ret
      exact ⟨ret_bool HR2.out.symm, HB.out⟩
    · have HR2 : Hid (R = (y == 0)) := hide (by rw [HR.out, hxx]; rfl)
      cases hyy : (y == 0)
      · rw [hyy] at HR2
        go_wp2_with fail
        go_ret
        exact ⟨ret_bool HR2.out.symm, HB.out⟩
      · rw [hyy] at HR2
        go_wp2_with fail
        go_ret
        exact ⟨ret_bool HR2.out.symm, HB.out⟩
set_option maxRecDepth 100000 in
set_option maxHeartbeats 4000000 in
theorem mg_any {base g n c f t : Nat} {xs : List Int} {w : World} (hx : xs.length = n) (hf : f < n) (ht : t < n) (own : w.ownsRow base 3 1 (.slice (some ⟨g, 0, none⟩) n c) n (ints xs)) :
    Calls Try.prog 26 #[.slice (some ⟨g, 0, none⟩) n c, .agg #[.int .i64 (f : Int), .int .i64 (t : Int)]] w fun e w' => e = .returned (.tuple #[]) ∧ w'.ownsRow base 3 1 (.slice (some ⟨g, 0, none⟩) n c) n (ints (Mx.mv xs ((f : Int), (t : Int)))) ∧ w.grownBy w' (some g) := by
  have hg := (own.lt g rfl).2
  have own1 := own.alloc (.cells #[.int .i64 (f : Int), .int .i64 (t : Int)] 40)
  have gr1 := World.grownBy_alloc w (.cells #[.int .i64 (f : Int), .int .i64 (t : Int)] 40) (some g)
  have cm0 : (w.alloc (.cells #[.int .i64 (f : Int), .int .i64 (t : Int)] 40)).cell? ⟨w.heap.size, 0, none⟩ = some (.int .i64 (f : Int)) := by simp
  have cm1 : (w.alloc (.cells #[.int .i64 (f : Int), .int .i64 (t : Int)] 40)).cell? ⟨w.heap.size, 1, none⟩ = some (.int .i64 (t : Int)) := by simp
  obtain ⟨W1, hW1⟩ : ∃ W, W = w.alloc (.cells #[.int .i64 (f : Int), .int .i64 (t : Int)] 40) := ⟨_, rfl⟩
  rw [← hW1] at own1 gr1 cm0 cm1
  have HW1 := hide hW1.symm
  obtain ⟨BV, hBV⟩ : ∃ b, b = w.heap.size := ⟨_, rfl⟩
  have hgB : g ≠ BV := by omega
  rw [← hBV] at cm0 cm1
  have HBV := hide hBV.symm
  obtain ⟨x, hxx⟩ : ∃ x, x = xs.getD f 0 := ⟨_, rfl⟩
  have c1 : W1.cell? ⟨g, f, none⟩ = some (.int .i64 x) := by rw [own1.cellAt f (by omega), ints_get xs f (by omega), hxx]
  have fz1 := own1.frozenAt f
  obtain ⟨s1, s2⟩ := own1.stored f (.int .i64 0)
  rw [ints_set] at s1
  have c2 : (W1.setCell ⟨g, f, none⟩ (.int .i64 0)).cell? ⟨g, t, none⟩ = some (.int .i64 ((xs.set f 0).getD t 0)) := by rw [s1.cellAt t (by omega), ints_get _ t (by rw [List.length_set]; omega)]
  have c3 : W1.cell? ⟨g, t, none⟩ = some (.int .i64 (xs.getD t 0)) := by rw [own1.cellAt t (by omega), ints_get xs t (by omega)]
  have fz3 := own1.frozenAt t
  have fz2 := s1.frozenAt t
  obtain ⟨s3, s4⟩ := s1.stored t (.int .i64 x)
  rw [ints_set] at s3
  have HEND : Hid (∀ d : Nat, (((W1.setCell ⟨g, f, none⟩ (.int .i64 0)).setCell ⟨g, t, none⟩ (.int .i64 x)).drewN d).ownsRow base 3 1 (.slice (some ⟨g, 0, none⟩) n c) n (ints (Mx.mv xs ((f : Int), (t : Int)))) ∧ w.grownBy (((W1.setCell ⟨g, f, none⟩ (.int .i64 0)).setCell ⟨g, t, none⟩ (.int .i64 x)).drewN d) (some g)) := hide fun d => by
    have e : Mx.mv xs ((f : Int), (t : Int)) = (xs.set f 0).set t x := by unfold Mx.mv; simp [hxx]
    rw [e]
    refine ⟨s3, ?_⟩
    have h := grownF_set (o := t) (v := .int .i64 x) (grownF_set (o := f) (v := .int .i64 0) gr1)
    exact ⟨h.os, h.tape, h.output, h.size, h.block⟩
  generalize (xs.set f 0).getD t 0 = y2 at *
  generalize xs.getD t 0 = y3 at *
  have f0 : (0 : Int) ≤ (f : Int) := by omega
  have f1 : (f : Int) < (n : Int) := by omega
  have t0 : (0 : Int) ≤ (t : Int) := by omega
  have t1 : (t : Int) < (n : Int) := by omega
  clear own own1 gr1 hW1 hBV s1 s2 s3 s4 hg hxx hx
  go_enter Try.func26, Try.ntmps26
  go_upto_region 1 with fail
  rw [HW1.out, HBV.out]
  clear HW1 HBV
  go_region
  all_goals
    go_wp2_with fail
    go_end0
    exact ⟨rfl, HEND.out 1⟩
end Go.Proofs.Ytbhgdkkclefpnaa
namespace Go.Proofs.Ytbhgdkkclefpnaa
open Go.RowKit

theorem can_out {xs : List Int} {n : Nat} {F T : Int} (hx : xs.length = n) (h : F < 0 ∨ (n : Int) ≤ F ∨ T < 0 ∨ (n : Int) ≤ T) : Mx.canB xs (F, T) = false := by
  cases e : Mx.canB xs (F, T)
  · rfl
  · obtain ⟨h1, h2, _⟩ := Mx.can_in e
    simp only at h1 h2
    omega
theorem can_at {xs : List Int} {n f t : Nat} (hx : xs.length = n) (hf : f < n) (ht : t < n) : Mx.canB xs ((f : Int), (t : Int)) = ((xs.getD f 0 != 0) && (xs.getD t 0 == 0)) := by
  have : Pf.allB [(f : Int), (t : Int)] 0 ((xs.length : Int) - 1) = true := by
    simp only [Pf.allB, List.all_cons, List.all_nil, Bool.and_true]
    rw [Pf.inB_of (by omega) (by omega), Pf.inB_of (by omega) (by omega)]; rfl
  unfold Mx.canB
  rw [this]; simp
/-- What a try leaves: the spots as they are behind it. -/
def aft (xs : List Int) (m : Int × Int) : List Int := if Mx.canB xs m then Mx.mv xs m else xs
set_option maxRecDepth 100000 in
set_option maxHeartbeats 4000000 in
theorem ld_out {base g n c : Nat} {F T : Int} {xs : List Int} {w : World} (hx : xs.length = n) (h : F < 0 ∨ (n : Int) ≤ F ∨ T < 0 ∨ (n : Int) ≤ T) (own : w.ownsRow base 3 1 (.slice (some ⟨g, 0, none⟩) n c) n (ints xs)) :
    Calls Try.prog 29 #[.slice (some ⟨g, 0, none⟩) n c, .agg #[.int .i64 F, .int .i64 T]] w fun e w' => e = .returned (.bool (Mx.canB xs (F, T))) ∧ w'.ownsRow base 3 1 (.slice (some ⟨g, 0, none⟩) n c) n (ints (aft xs (F, T))) ∧ w.grownBy w' (some g) := by
  have hc := can_out (T := T) hx h
  have ha : aft xs (F, T) = xs := by unfold aft; rw [hc]; rfl
  rw [hc, ha]
  have HO := hide (own.alloc (.cells #[.int .i64 F, .int .i64 T] 40))
  have HG := hide (World.grownBy_alloc w (.cells #[.int .i64 F, .int .i64 T] 40) (some g))
  clear own hx hc ha
  by_cases h1 : F < 0
  · go_enter Try.func29, Try.ntmps29
    go_wp2_with fail
    go_ret
    exact ⟨rfl, HO.out, HG.out⟩
  · by_cases h2 : (n : Int) ≤ F
    · go_enter Try.func29, Try.ntmps29
      go_wp2_with fail
      go_ret
      exact ⟨rfl, HO.out, HG.out⟩
    · by_cases h3 : T < 0
      · go_enter Try.func29, Try.ntmps29
        go_wp2_with fail
        go_ret
        exact ⟨rfl, HO.out, HG.out⟩
      · have h4 : (n : Int) ≤ T := by omega
        go_enter Try.func29, Try.ntmps29
        go_wp2_with fail
        go_ret
        exact ⟨rfl, HO.out, HG.out⟩
set_option maxRecDepth 100000 in
set_option maxHeartbeats 4000000 in
theorem ld_in {base g n c f t : Nat} {xs : List Int} {w : World} (hx : xs.length = n) (hf : f < n) (ht : t < n) (own : w.ownsRow base 3 1 (.slice (some ⟨g, 0, none⟩) n c) n (ints xs)) :
    Calls Try.prog 29 #[.slice (some ⟨g, 0, none⟩) n c, .agg #[.int .i64 (f : Int), .int .i64 (t : Int)]] w fun e w' => e = .returned (.bool (Mx.canB xs ((f : Int), (t : Int)))) ∧ w'.ownsRow base 3 1 (.slice (some ⟨g, 0, none⟩) n c) n (ints (aft xs ((f : Int), (t : Int)))) ∧ w.grownBy w' (some g) := by
  have hc := can_at hx hf ht
  have hg := (own.lt g rfl).2
  have own1 := own.alloc (.cells #[.int .i64 (f : Int), .int .i64 (t : Int)] 40)
  have gr1 := World.grownBy_alloc w (.cells #[.int .i64 (f : Int), .int .i64 (t : Int)] 40) (some g)
  have cm0 : (w.alloc (.cells #[.int .i64 (f : Int), .int .i64 (t : Int)] 40)).cell? ⟨w.heap.size, 0, none⟩ = some (.int .i64 (f : Int)) := by simp
  have cm1 : (w.alloc (.cells #[.int .i64 (f : Int), .int .i64 (t : Int)] 40)).cell? ⟨w.heap.size, 1, none⟩ = some (.int .i64 (t : Int)) := by simp
  obtain ⟨W1, hW1⟩ : ∃ W, W = w.alloc (.cells #[.int .i64 (f : Int), .int .i64 (t : Int)] 40) := ⟨_, rfl⟩
  rw [← hW1] at own1 gr1 cm0 cm1
  have HW1 := hide hW1.symm
  obtain ⟨BV, hBV⟩ : ∃ b, b = w.heap.size := ⟨_, rfl⟩
  have hgB : g ≠ BV := by omega
  rw [← hBV] at cm0 cm1
  have HBV := hide hBV.symm
  obtain ⟨x, hxx⟩ : ∃ x, x = xs.getD f 0 := ⟨_, rfl⟩
  obtain ⟨y, hyy⟩ : ∃ y, y = xs.getD t 0 := ⟨_, rfl⟩
  have c1 : W1.cell? ⟨g, f, none⟩ = some (.int .i64 x) := by rw [own1.cellAt f (by omega), ints_get xs f (by omega), hxx]
  have c2 : W1.cell? ⟨g, t, none⟩ = some (.int .i64 y) := by rw [own1.cellAt t (by omega), ints_get xs t (by omega), hyy]
  have fz1 := own1.frozenAt t
  obtain ⟨s1, s2⟩ := own1.stored t (.int .i64 x)
  rw [ints_set] at s1
  have c3 : (W1.setCell ⟨g, t, none⟩ (.int .i64 x)).cell? ⟨g, f, none⟩ = some (.int .i64 ((xs.set t x).getD f 0)) := by rw [s1.cellAt f (by omega), ints_get _ f (by rw [List.length_set]; omega)]
  have fz2 := s1.frozenAt f
  obtain ⟨s3, s4⟩ := s1.stored f (.int .i64 0)
  rw [ints_set] at s3
  rw [← hxx, ← hyy] at hc
  have f0 : (0 : Int) ≤ (f : Int) := by omega
  have f1 : (f : Int) < (n : Int) := by omega
  have f2 : ¬ (f : Int) < 0 := by omega
  have f3 : ¬ (n : Int) ≤ (f : Int) := by omega
  have t0 : (0 : Int) ≤ (t : Int) := by omega
  have t1 : (t : Int) < (n : Int) := by omega
  have t2 : ¬ (t : Int) < 0 := by omega
  have t3 : ¬ (n : Int) ≤ (t : Int) := by omega
  have HSAME : Hid ((x != 0 && y == 0) = false → aft xs ((f : Int), (t : Int)) = xs) := hide fun h => by unfold aft; rw [hc, h]; rfl
  have HMV : Hid ((x != 0 && y == 0) = true → aft xs ((f : Int), (t : Int)) = (xs.set t x).set f 0) := hide fun h => by
    have e : Mx.mv xs ((f : Int), (t : Int)) = (xs.set f 0).set t x := by unfold Mx.mv; simp [hxx]
    have hne : f ≠ t := fun e => by subst e; rw [hyy, ← hxx] at h; simp at h
    unfold aft; rw [hc, h, if_pos rfl, e, Mx.mv_swap hne]
  have HG1 := hide gr1
  have HO1 := hide own1
  have HO3 := hide s3
  rw [hc]
  generalize aft xs ((f : Int), (t : Int)) = AF at *
  generalize (xs.set t x).getD f 0 = y2 at *
  clear own own1 gr1 hW1 hBV s1 s2 s3 s4 hg hxx hyy hx hc
  cases hx0 : (x == 0)
  · have hx1 : (x != 0) = true := by simp at hx0 ⊢; exact hx0
    cases hy0 : (y != 0)
    · have hy1 : (y == 0) = true := by simp at hy0 ⊢; exact hy0
      obtain rfl := HMV.out (by rw [hx1, hy1]; rfl)
      have HEND : Hid (((((W1.drewN 1).setCell ⟨g, t, none⟩ (.int .i64 x)).setCell ⟨g, f, none⟩ (.int .i64 0)).ownsRow base 3 1 (.slice (some ⟨g, 0, none⟩) n c) n (ints ((xs.set t x).set f 0))) ∧ w.grownBy (((W1.drewN 1).setCell ⟨g, t, none⟩ (.int .i64 x)).setCell ⟨g, f, none⟩ (.int .i64 0)) (some g)) := hide ⟨HO3.out, by
        have h := grownF_set (o := f) (v := .int .i64 0) (grownF_set (o := t) (v := .int .i64 x) HG1.out)
        exact ⟨h.os, h.tape, h.output, h.size, h.block⟩⟩
      rw [hx1, hy1]
      clear HSAME HMV HO1 HO3 HG1 hx1 hy1
      go_enter Try.func29, Try.ntmps29
      go_upto_region 2 with fail
      rw [HW1.out, HBV.out]
      clear HW1 HBV
      go_wp2_with fail
      go_region
      all_goals
        go_wp2_with fail
        go_ret
        exact ⟨rfl, HEND.out⟩
    · have hy1 : (y == 0) = false := by simp at hy0 ⊢; exact hy0
      obtain rfl := HSAME.out (by rw [hx1, hy1]; rfl)
      rw [hx1, hy1]
      clear HMV HO3 hx1 hy1 HSAME
      go_enter Try.func29, Try.ntmps29
      go_upto_region 2 with fail
      rw [HW1.out, HBV.out]
      clear HW1 HBV
      go_wp2_with fail
      go_ret
      exact ⟨rfl, HO1.out, HG1.out⟩
  · have hx1 : (x != 0) = false := by simp at hx0 ⊢; exact hx0
    obtain rfl := HSAME.out (by rw [hx1]; rfl)
    rw [hx1]
    clear HMV HO3 hx1 HSAME
    go_enter Try.func29, Try.ntmps29
    go_upto_region 2 with fail
    rw [HW1.out, HBV.out]
    clear HW1 HBV
    go_wp2_with fail
    go_ret
    exact ⟨rfl, HO1.out, HG1.out⟩
theorem ld_any {base g n c : Nat} {F T : Int} {xs : List Int} {w : World} (hx : xs.length = n) (own : w.ownsRow base 3 1 (.slice (some ⟨g, 0, none⟩) n c) n (ints xs)) :
    Calls Try.prog 29 #[.slice (some ⟨g, 0, none⟩) n c, .agg #[.int .i64 F, .int .i64 T]] w fun e w' => e = .returned (.bool (Mx.canB xs (F, T))) ∧ w'.ownsRow base 3 1 (.slice (some ⟨g, 0, none⟩) n c) n (ints (aft xs (F, T))) ∧ w.grownBy w' (some g) := by
  by_cases h : F < 0 ∨ (n : Int) ≤ F ∨ T < 0 ∨ (n : Int) ≤ T
  · exact ld_out hx h own
  · obtain ⟨f, rfl⟩ := Int.eq_ofNat_of_zero_le (show 0 ≤ F by omega)
    obtain ⟨t, rfl⟩ := Int.eq_ofNat_of_zero_le (show 0 ≤ T by omega)
    exact ld_in hx (by omega) (by omega) own
end Go.Proofs.Ytbhgdkkclefpnaa
namespace Go.Proofs.Ytbhgdkkclefpnaa
open Go.RowKit

def homeM (xs ws : List Int) : Option (Int × Int) := (Mx.home xs ws).map fun k => (Ma.idx xs (ws.getD k 0), (k : Int))
def asideM (xs ws : List Int) : Option (Int × Int) := (Mx.aside xs ws).map fun k => ((k : Int), Ma.idx xs 0)
theorem next_h {xs ws : List Int} {m : Int × Int} (h : homeM xs ws = some m) : Mx.nextM xs ws = some m := by
  unfold homeM at h; unfold Mx.nextM
  cases e : Mx.home xs ws with
  | none => rw [e] at h; cases h
  | some k => rw [e] at h; simpa using h
theorem next_a {xs ws : List Int} (h : homeM xs ws = none) : Mx.nextM xs ws = asideM xs ws := by
  unfold homeM at h; unfold Mx.nextM asideM
  cases e : Mx.home xs ws with
  | some k => rw [e] at h; cases h
  | none =>
    cases Mx.aside xs ws <;> rfl
theorem home_is {xs ws : List Int} {n k : Nat} (hw : ws.length = n) (hk : k < n) (h : Mx.homeAt xs ws k = true) (hj : ∀ j, j < k → Mx.homeAt xs ws j = false) : homeM xs ws = some (Ma.idx xs (ws.getD k 0), (k : Int)) := by
  unfold homeM Mx.home; rw [hw, Mx.find_at hk h hj]; rfl
theorem home_no {xs ws : List Int} {n : Nat} (hw : ws.length = n) (hj : ∀ j, j < n → Mx.homeAt xs ws j = false) : homeM xs ws = none := by
  unfold homeM Mx.home; rw [hw, Mx.find_no hj]; rfl
theorem aside_is {xs ws : List Int} {n k : Nat} (hw : xs.length = n) (hk : k < n) (h : Mx.asideAt xs ws k = true) (hj : ∀ j, j < k → Mx.asideAt xs ws j = false) : asideM xs ws = some ((k : Int), Ma.idx xs 0) := by
  unfold asideM Mx.aside; rw [hw, Mx.find_at hk h hj]; rfl
theorem aside_no {xs ws : List Int} {n : Nat} (hw : xs.length = n) (hj : ∀ j, j < n → Mx.asideAt xs ws j = false) : asideM xs ws = none := by
  unfold asideM Mx.aside; rw [hw, Mx.find_no hj]; rfl
def NmP (w : World) (o : Option (Int × Int)) (e : Ending) (w' : World) : Prop := ∃ F T s, e = .returned (.tuple #[.agg #[.int .i64 F, .int .i64 T], .bool s]) ∧ o = (if s then some (F, T) else none) ∧ Below w.heap.size w w'
set_option maxRecDepth 100000 in
set_option maxHeartbeats 4000000 in
theorem mh_any {a b : Option Addr} {n c d : Nat} {xs ws : List Int} {w : World} (hx : xs.length = n) (hy : ws.length = n) (hn : n ≤ 1000) (ha : ARow w a xs) (hbw : ARow w b ws) :
    Calls Try.prog 48 #[.agg #[.slice a n c, .slice b n d]] w (NmP w (homeM xs ws)) := by
  have bW1 := below_new w (.cells #[.slice a n c, .slice b n d] 53)
  have bW2 := below_new (w.alloc (.cells #[.slice a n c, .slice b n d] 53)) (.cells #[.int .i64 0, .int .i64 0] 40)
  have hb := bW1.trans (bW2.mono bW1.size)
  have c0 : ((w.alloc (.cells #[.slice a n c, .slice b n d] 53)).alloc (.cells #[.int .i64 0, .int .i64 0] 40)).cell? ⟨w.heap.size, 0, none⟩ = some (.slice a n c) := by simp
  have c1 : ((w.alloc (.cells #[.slice a n c, .slice b n d] 53)).alloc (.cells #[.int .i64 0, .int .i64 0] 40)).cell? ⟨w.heap.size, 1, none⟩ = some (.slice b n d) := by simp
  have r0 : ((w.alloc (.cells #[.slice a n c, .slice b n d] 53)).alloc (.cells #[.int .i64 0, .int .i64 0] 40)).cell? ⟨w.heap.size + 1, 0, none⟩ = some (.int .i64 0) := by simp
  have r1 : ((w.alloc (.cells #[.slice a n c, .slice b n d] 53)).alloc (.cells #[.int .i64 0, .int .i64 0] 40)).cell? ⟨w.heap.size + 1, 1, none⟩ = some (.int .i64 0) := by simp
  have r2 : ((w.alloc (.cells #[.slice a n c, .slice b n d] 53)).alloc (.cells #[.int .i64 0, .int .i64 0] 40)).frozen? ⟨w.heap.size + 1, 0, none⟩ = false := by simp [go_sem]
  have r3 : ((w.alloc (.cells #[.slice a n c, .slice b n d] 53)).alloc (.cells #[.int .i64 0, .int .i64 0] 40)).frozen? ⟨w.heap.size + 1, 1, none⟩ = false := by simp [go_sem]
  obtain ⟨W2, hW2⟩ : ∃ W, W = (w.alloc (.cells #[.slice a n c, .slice b n d] 53)).alloc (.cells #[.int .i64 0, .int .i64 0] 40) := ⟨_, rfl⟩
  rw [← hW2] at hb c0 c1 r0 r1 r2 r3
  have HA := hide (ha.below hb)
  have HBB := hide (hbw.below hb)
  have HB := hide hb
  have HW2 := hide hW2.symm
  obtain ⟨B, hB⟩ : ∃ B, B = w.heap.size := ⟨_, rfl⟩
  rw [← hB] at c0 c1 r0 r1 r2 r3
  have HBe := hide hB.symm
  have HBS := hide fun (W : World) (h : Below w.heap.size w W) (x y : Value) => ((h.setCell (p := ⟨B + 1, 0, none⟩) (by show w.heap.size ≤ B + 1; omega) x).setCell (p := ⟨B + 1, 1, none⟩) (by show w.heap.size ≤ B + 1; omega) y)
  have HX := hide hx
  have HY := hide hy
  clear bW1 bW2 hb hW2 hB ha hbw hx hy
  go_enter Try.func48, Try.ntmps48
  go_upto_region 1 with fail
  rw [HW2.out, HBe.out]
  clear HW2 HBe
  go_wp2_with fail
  go_loop [3, 4, 5, 9] (fun s3 _ _ s => ∃ k : Nat, s3 = .bool false ∧ s = .int .i64 k ∧ k ≤ n ∧ Hid (∀ j, j < k → Mx.homeAt xs ws j = false)) (fun _ _ _ s => n - (intOf s).toNat)
  case atStart => exact ⟨0, rfl, rfl, Nat.zero_le _, hide fun j hj => absurd hj (Nat.not_lt_zero _)⟩
  case round =>
    obtain ⟨k, rfl, rfl, hk, HK⟩ := hrel
    by_cases hlt : k < n
    · obtain ⟨b1, o1, rfl, q1⟩ := HBB.out.at (i := k) (by rw [HY.out]; exact hlt)
      obtain ⟨b2, o2, rfl, q2⟩ := HA.out.at (i := k) (by rw [HX.out]; exact hlt)
      have i0 : (0 : Int) ≤ (k : Int) := by omega
      have i1 : (k : Int) < (n : Int) := by omega
      have HNX := hide fun (h : Mx.homeAt xs ws k = false) => show ∀ j, j < k + 1 → Mx.homeAt xs ws j = false from fun j hj => by
        by_cases e : j = k
        · subst e; exact h
        · exact HK.out j (by omega)
      have HYS := hide fun (h : Mx.homeAt xs ws k = true) => home_is HY.out hlt h HK.out
      have HDF : Hid (Mx.homeAt xs ws k = ((ws.getD k 0 != 0) && (xs.getD k 0 == 0))) := hide rfl
      have HIX := hide (ix_any (w := W2) (c := c) (x := ws.getD k 0) HX.out (by omega) HA.out)
      generalize Ma.idx xs (ws.getD k 0) = J at *
      generalize ws.getD k 0 = g at *
      generalize xs.getD k 0 = x at *
      cases hg : (g != 0)
      · have H1 := hide (HNX.out (by rw [HDF.out, hg]; rfl))
        go_wp2_with fail
        go_round
        case rel => exact ⟨k + 1, rfl, by go_num, by omega, H1⟩
        case measure => simp only [intOf]; omega
      · cases hx0 : (x == 0)
        · have H1 := hide (HNX.out (by rw [HDF.out, hg, hx0]; rfl))
          go_wp2_with fail
          go_round
          case rel => exact ⟨k + 1, rfl, by go_num, by omega, H1⟩
          case measure => simp only [intOf]; omega
        · have H1 := hide (HYS.out (by rw [HDF.out, hg, hx0]; rfl))
          have HFIN := hide (HBS.out _ HB.out (.int .i64 J) (.int .i64 (k : Int)))
          go_wp2_with fail
          refine HIX.out.mono ?_
          rintro e w3 ⟨rfl, hw3⟩
          obtain rfl : W2 = w3 := hw3.symm
          go_wp2_with fail
          exact bodyPost_ret (v := .tuple #[.agg #[.int .i64 J, .int .i64 (k : Int)], .bool true]) (by simp [results, Try.results48, go_sem, *]) rfl ⟨J, (k : Int), true, rfl, H1.out, HFIN.out⟩
    · have hke : k = n := by omega
      subst hke
      have H1 := hide (home_no HY.out HK.out)
      have HFIN := hide (HBS.out _ HB.out (.int .i64 0) (.int .i64 0))
      go_wp2_with fail
      exact bodyPost_ret (v := .tuple #[.agg #[.int .i64 0, .int .i64 0], .bool false]) (by simp [results, Try.results48, go_sem, *]) rfl ⟨0, 0, false, rfl, H1.out, HFIN.out⟩
set_option maxRecDepth 100000 in
set_option maxHeartbeats 4000000 in
theorem ma_any {a b : Option Addr} {n c d : Nat} {xs ws : List Int} {w : World} (hx : xs.length = n) (hy : ws.length = n) (hn : n ≤ 1000) (ha : ARow w a xs) (hbw : ARow w b ws) :
    Calls Try.prog 49 #[.agg #[.slice a n c, .slice b n d]] w (NmP w (asideM xs ws)) := by
  have bW1 := below_new w (.cells #[.slice a n c, .slice b n d] 53)
  have bW2 := below_new (w.alloc (.cells #[.slice a n c, .slice b n d] 53)) (.cells #[.int .i64 0, .int .i64 0] 40)
  have hb := bW1.trans (bW2.mono bW1.size)
  have c0 : ((w.alloc (.cells #[.slice a n c, .slice b n d] 53)).alloc (.cells #[.int .i64 0, .int .i64 0] 40)).cell? ⟨w.heap.size, 0, none⟩ = some (.slice a n c) := by simp
  have c1 : ((w.alloc (.cells #[.slice a n c, .slice b n d] 53)).alloc (.cells #[.int .i64 0, .int .i64 0] 40)).cell? ⟨w.heap.size, 1, none⟩ = some (.slice b n d) := by simp
  have r0 : ((w.alloc (.cells #[.slice a n c, .slice b n d] 53)).alloc (.cells #[.int .i64 0, .int .i64 0] 40)).cell? ⟨w.heap.size + 1, 0, none⟩ = some (.int .i64 0) := by simp
  have r1 : ((w.alloc (.cells #[.slice a n c, .slice b n d] 53)).alloc (.cells #[.int .i64 0, .int .i64 0] 40)).cell? ⟨w.heap.size + 1, 1, none⟩ = some (.int .i64 0) := by simp
  have r2 : ((w.alloc (.cells #[.slice a n c, .slice b n d] 53)).alloc (.cells #[.int .i64 0, .int .i64 0] 40)).frozen? ⟨w.heap.size + 1, 0, none⟩ = false := by simp [go_sem]
  have r3 : ((w.alloc (.cells #[.slice a n c, .slice b n d] 53)).alloc (.cells #[.int .i64 0, .int .i64 0] 40)).frozen? ⟨w.heap.size + 1, 1, none⟩ = false := by simp [go_sem]
  obtain ⟨W2, hW2⟩ : ∃ W, W = (w.alloc (.cells #[.slice a n c, .slice b n d] 53)).alloc (.cells #[.int .i64 0, .int .i64 0] 40) := ⟨_, rfl⟩
  rw [← hW2] at hb c0 c1 r0 r1 r2 r3
  have HA := hide (ha.below hb)
  have HBB := hide (hbw.below hb)
  have HB := hide hb
  have HW2 := hide hW2.symm
  obtain ⟨B, hB⟩ : ∃ B, B = w.heap.size := ⟨_, rfl⟩
  rw [← hB] at c0 c1 r0 r1 r2 r3
  have HBe := hide hB.symm
  have HBS := hide fun (W : World) (h : Below w.heap.size w W) (x y : Value) => ((h.setCell (p := ⟨B + 1, 0, none⟩) (by show w.heap.size ≤ B + 1; omega) x).setCell (p := ⟨B + 1, 1, none⟩) (by show w.heap.size ≤ B + 1; omega) y)
  have HX := hide hx
  have HY := hide hy
  clear bW1 bW2 hb hW2 hB ha hbw hx hy
  go_enter Try.func49, Try.ntmps49
  go_upto_region 1 with fail
  rw [HW2.out, HBe.out]
  clear HW2 HBe
  go_wp2_with fail
  go_loopw [3, 4, 8] (fun s3 _ s wr => ∃ (k q : Nat), s3 = .bool false ∧ s = .int .i64 k ∧ k ≤ n ∧ Hid (∀ j, j < k → Mx.asideAt xs ws j = false) ∧ wr = W2.drewN q) (fun _ _ s _ => n - (intOf s).toNat)
  case atStart => exact ⟨0, 0, rfl, rfl, Nat.zero_le _, hide fun j hj => absurd hj (Nat.not_lt_zero _), rfl⟩
  case round =>
    obtain ⟨k, q, rfl, rfl, hk, HK, rfl⟩ := hrel
    by_cases hlt : k < n
    · obtain ⟨b1, o1, rfl, q1⟩ := HBB.out.at (i := k) (by rw [HY.out]; exact hlt)
      obtain ⟨b2, o2, rfl, q2⟩ := HA.out.at (i := k) (by rw [HX.out]; exact hlt)
      have i0 : (0 : Int) ≤ (k : Int) := by omega
      have i1 : (k : Int) < (n : Int) := by omega
      have HNX := hide fun (h : Mx.asideAt xs ws k = false) => show ∀ j, j < k + 1 → Mx.asideAt xs ws j = false from fun j hj => by
        by_cases e : j = k
        · subst e; exact h
        · exact HK.out j (by omega)
      have HYS := hide fun (h : Mx.asideAt xs ws k = true) => aside_is HX.out hlt h HK.out
      have HDF : Hid (Mx.asideAt xs ws k = (xs.getD k 0 != ws.getD k 0)) := hide rfl
      have HIX := hide fun (W : World) (h : ARow W (some ⟨b2, o2, none⟩) xs) => ix_any (w := W) (c := c) (x := 0) HX.out (by omega) h
      generalize Ma.idx xs 0 = J at *
      generalize ws.getD k 0 = g at *
      generalize xs.getD k 0 = x at *
      cases hg : (x != g)
      · have H1 := hide (HNX.out (by rw [HDF.out, hg]))
        go_wp2_with fail
        go_quiet (fail)
        go_wp2_with fail
        go_roundw
        case rel => exact ⟨k + 1, q + nq, rfl, by go_num, by omega, H1, rfl⟩
        case measure => simp only [intOf]; omega
      · have H1 := hide (HYS.out (by rw [HDF.out, hg]))
        go_wp2_with fail
        go_quiet (fail)
        have k0 : ((W2.drewN q).drewN nq).cell? ⟨B, 0, none⟩ = some _ := c0
        have k2 : ((W2.drewN q).drewN nq).cell? ⟨B + 1, 0, none⟩ = some _ := r0
        have k3 : ((W2.drewN q).drewN nq).cell? ⟨B + 1, 1, none⟩ = some _ := r1
        have k4 : ((W2.drewN q).drewN nq).frozen? ⟨B + 1, 0, none⟩ = false := r2
        have k5 : ((W2.drewN q).drewN nq).frozen? ⟨B + 1, 1, none⟩ = false := r3
        have HFI2 := hide (HBS.out _ (below_drewN (below_drewN HB.out q) nq) (.int .i64 (k : Int)) (.int .i64 J))
        have HIZ := hide (HIX.out ((W2.drewN q).drewN nq) (show ARow ((W2.drewN q).drewN nq) _ xs from HA.out))
        generalize (W2.drewN q).drewN nq = W3 at *
        go_wp2_with fail
        refine HIZ.out.mono ?_
        rintro e w3 ⟨rfl, hw3⟩
        obtain rfl : W3 = w3 := hw3.symm
        go_wp2_with fail
        exact bodyPost_ret (v := .tuple #[.agg #[.int .i64 (k : Int), .int .i64 J], .bool true]) (by simp [results, Try.results49, go_sem, *]) rfl ⟨(k : Int), J, true, rfl, H1.out, HFI2.out⟩
    · have hke : k = n := by omega
      subst hke
      have H1 := hide (aside_no HX.out HK.out)
      have HFIN := hide (HBS.out _ (below_drewN HB.out q) (.int .i64 0) (.int .i64 0))
      go_wp2_with fail
      exact bodyPost_ret (v := .tuple #[.agg #[.int .i64 0, .int .i64 0], .bool false]) (by simp [results, Try.results49, go_sem, *]) rfl ⟨0, 0, false, rfl, H1.out, HFIN.out⟩
end Go.Proofs.Ytbhgdkkclefpnaa
namespace Go.Proofs.Ytbhgdkkclefpnaa
open Go.RowKit

set_option maxRecDepth 100000 in
set_option maxHeartbeats 4000000 in
theorem ie_any {a b : Option Addr} {n k c d : Nat} {xs ws : List Int} {w : World} (hx : xs.length = n) (hy : ws.length = n) (hk : k < n) (ha : ARow w a xs) (hbw : ARow w b ws) :
    Calls Try.prog 50 #[.agg #[.slice a n c, .slice b n d], .int .i64 (k : Int)] w fun e w' => e = .returned (.bool ((xs.getD k 0 != 0) && (xs.getD k 0 != ws.getD k 0))) ∧ Below w.heap.size w w' := by
  have hb := below_new w (.cells #[.slice a n c, .slice b n d] 53)
  have c0 : (w.alloc (.cells #[.slice a n c, .slice b n d] 53)).cell? ⟨w.heap.size, 0, none⟩ = some (.slice a n c) := by simp
  have c1 : (w.alloc (.cells #[.slice a n c, .slice b n d] 53)).cell? ⟨w.heap.size, 1, none⟩ = some (.slice b n d) := by simp
  obtain ⟨W2, hW2⟩ : ∃ W, W = w.alloc (.cells #[.slice a n c, .slice b n d] 53) := ⟨_, rfl⟩
  rw [← hW2] at hb c0 c1
  obtain ⟨b1, o1, rfl, q1⟩ := (hbw.below hb).at (i := k) (by rw [hy]; exact hk)
  obtain ⟨b2, o2, rfl, q2⟩ := (ha.below hb).at (i := k) (by rw [hx]; exact hk)
  have HB := hide hb
  have HBQ := hide fun (q : Nat) => below_drewN hb q
  have HW2 := hide hW2.symm
  obtain ⟨B, hB⟩ : ∃ B, B = w.heap.size := ⟨_, rfl⟩
  rw [← hB] at c0 c1
  have HBe := hide hB.symm
  have i0 : (0 : Int) ≤ (k : Int) := by omega
  have i1 : (k : Int) < (n : Int) := by omega
  clear hb hW2 hB ha hbw hx hy
  generalize ws.getD k 0 = g at *
  generalize xs.getD k 0 = x at *
  go_enter Try.func50, Try.ntmps50
  go_upto_region 1 with fail
  rw [HW2.out, HBe.out]
  clear HW2 HBe
  cases h0 : (x != 0)
  · go_wp2_with fail
    go_quiet (fail)
    go_wp2_with fail
    go_ret
    exact ⟨by rw [h0]; rfl, HBQ.out _⟩
  · cases h1 : (x != g)
    · go_wp2_with fail
      go_quiet (fail)
      go_wp2_with fail
      go_ret
      exact ⟨by rw [h0, h1]; rfl, HBQ.out _⟩
    · go_wp2_with fail
      go_quiet (fail)
      go_wp2_with fail
      go_ret
      exact ⟨by rw [h0, h1]; rfl, HBQ.out _⟩
theorem idx_nxt {xs ws : List Int} {n p : Nat} (hy : ws.length = n) (h2 : Mv.Two n (Mx.fn xs) (Mx.fn ws)) (hp : p < n) (ha : Mv.Away (Mx.fn xs) (Mx.fn ws) p) : ∃ q : Nat, Mv.nxt n (Mx.fn xs) (Mx.fn ws) p = some q ∧ Ma.idx ws (xs.getD p 0) = (q : Int) ∧ q < n := by
  obtain ⟨j, hj, ej⟩ := h2.ab p hp ha.1
  obtain ⟨f, e1, hf, e2⟩ := Mx.idx_is hy hj ej
  refine ⟨f, ?_, e1, hf⟩
  rw [Mv.nxt_of hp ha, Mv.spot_uniq h2.sb hf ha.1 e2]
/-- How a walk from k stands, and how it goes on. -/
structure BR (n k K gk t p : Nat) (xs ws : List Int) : Prop where
  bw : Mv.Bw (Mv.nxt n (Mx.fn xs) (Mx.fn ws)) k t p
  lt : p < n
  sum : t + gk = K
theorem br_start {xs ws : List Int} {n k : Nat} (hy : ws.length = n) (h2 : Mv.Two n (Mx.fn xs) (Mx.fn ws)) (hk : k < n) (ha : Mv.Away (Mx.fn xs) (Mx.fn ws) k) : ∃ K gk q : Nat, (∀ x, Mv.it (Mv.nxt n (Mx.fn xs) (Mx.fn ws)) K k = some x → (0 < K ∧ x = k) ∨ Mv.nxt n (Mx.fn xs) (Mx.fn ws) x = none) ∧ Ma.idx ws (xs.getD k 0) = (q : Int) ∧ BR n k K gk 1 q xs ws := by
  obtain ⟨K, hK⟩ := Mv.stop_of (n := n) (Mv.nxt_inj h2) (fun i x e => (Mv.nxt_some e).1) k
  obtain ⟨q, e1, e2, hq⟩ := idx_nxt hy h2 hk ha
  have h0 : 0 < K := by
    apply Nat.pos_of_ne_zero
    rintro rfl
    rcases hK k rfl with ⟨h, _⟩ | h
    · omega
    · rw [e1] at h; cases h
  exact ⟨K, K - 1, q, hK, e2, Mv.Bw.start e1, hq, by omega⟩
theorem br_step {xs ws : List Int} {n k K gk t p : Nat} (hy : ws.length = n) (h2 : Mv.Two n (Mx.fn xs) (Mx.fn ws)) (hK : ∀ x, Mv.it (Mv.nxt n (Mx.fn xs) (Mx.fn ws)) K k = some x → (0 < K ∧ x = k) ∨ Mv.nxt n (Mx.fn xs) (Mx.fn ws) x = none) (h : BR n k K gk t p xs ws) (hp : k < p) (h0 : xs.getD p 0 ≠ 0) : ∃ q : Nat, Ma.idx ws (xs.getD p 0) = (q : Int) ∧ 0 < gk ∧ BR n k K (gk - 1) (t + 1) q xs ws := by
  obtain ⟨t', rfl⟩ : ∃ t', t = t' + 1 := ⟨t - 1, by have := h.bw.pos; omega⟩
  obtain ⟨a, _, ha⟩ := Mv.it_prev h.bw.now
  have haw := Mv.away_to h2 ha h0
  obtain ⟨q, e1, e2, hq⟩ := idx_nxt hy h2 h.lt haw
  have hs := h.sum
  have hg : 0 < gk := by
    apply Nat.pos_of_ne_zero
    rintro rfl
    rcases hK p (by rw [← hs]; exact h.bw.now) with ⟨_, e⟩ | e
    · omega
    · rw [e1] at e; cases e
  exact ⟨q, e2, hg, h.bw.step hp e1, hq, by omega⟩
theorem br_end {xs ws : List Int} {n k K gk t p : Nat} (h : BR n k K gk t p xs ws) (hp : ¬ k < p) : (((p : Int) == (k : Int)) = true) ↔ Mv.Lead (Mv.nxt n (Mx.fn xs) (Mx.fn ws)) k := by
  by_cases e : p = k
  · subst e; simp; exact h.bw.yes
  · have h1 : ¬ ((p : Int) == (k : Int)) = true := by simp; omega
    exact ⟨fun h' => absurd h' h1, fun h' => absurd h' (h.bw.low (by omega))⟩
theorem br_out {xs ws : List Int} {n k K gk t p : Nat} (h : BR n k K gk t p xs ws) (hp : k < p) (h0 : xs.getD p 0 = 0) : (((p : Int) == (k : Int)) = true) ↔ Mv.Lead (Mv.nxt n (Mx.fn xs) (Mx.fn ws)) k := by
  have h1 : ¬ ((p : Int) == (k : Int)) = true := by simp; omega
  refine ⟨fun h' => absurd h' h1, fun h' => absurd h' (h.bw.out (Mv.nxt_none fun e => ?_))⟩
  have h2 : 0 < xs.getD p 0 := e.2.1
  omega
set_option maxRecDepth 100000 in
set_option maxHeartbeats 4000000 in
theorem br_any {a b : Option Addr} {n k c d : Nat} {xs ws : List Int} {w : World} (hx : xs.length = n) (hy : ws.length = n) (hk : k < n) (hn : n ≤ 1000) (h2 : Mv.Two n (Mx.fn xs) (Mx.fn ws)) (haw : Mv.Away (Mx.fn xs) (Mx.fn ws) k) (ha : ARow w a xs) (hbw : ARow w b ws) :
    Calls Try.prog 51 #[.agg #[.slice a n c, .slice b n d], .int .i64 (k : Int)] w fun e w' => ∃ r : Bool, e = .returned (.bool r) ∧ (r = true ↔ Mv.Lead (Mv.nxt n (Mx.fn xs) (Mx.fn ws)) k) ∧ Below w.heap.size w w' := by
  have hb := below_new w (.cells #[.slice a n c, .slice b n d] 53)
  have c0 : (w.alloc (.cells #[.slice a n c, .slice b n d] 53)).cell? ⟨w.heap.size, 0, none⟩ = some (.slice a n c) := by simp
  have c1 : (w.alloc (.cells #[.slice a n c, .slice b n d] 53)).cell? ⟨w.heap.size, 1, none⟩ = some (.slice b n d) := by simp
  obtain ⟨W2, hW2⟩ : ∃ W, W = w.alloc (.cells #[.slice a n c, .slice b n d] 53) := ⟨_, rfl⟩
  rw [← hW2] at hb c0 c1
  obtain ⟨b2, o2, rfl, q2⟩ := (ha.below hb).at (i := k) (by rw [hx]; exact hk)
  have HA := hide (ha.below hb)
  have HX := hide hx
  have HBQ := hide fun (q : Nat) => below_drewN hb q
  have hrow := hbw.below hb
  have HIX := hide fun (q : Nat) (x : Int) => ix_any (w := W2.drewN q) (c := d) (x := x) hy (by omega) (show ARow (W2.drewN q) b ws from hrow)
  obtain ⟨K, gk0, p0, hK, e0, hbr⟩ := br_start hy h2 hk haw
  have HK := hide hK
  have HR := hide hbr
  have HY := hide hy
  have HT := hide h2
  have HW2 := hide hW2.symm
  obtain ⟨B, hB⟩ : ∃ B, B = w.heap.size := ⟨_, rfl⟩
  rw [← hB] at c0 c1
  have HBe := hide hB.symm
  have i0 : (0 : Int) ≤ (k : Int) := by omega
  have i1 : (k : Int) < (n : Int) := by omega
  have HI0 := HIX.out 0 (xs.getD k 0)
  rw [e0] at HI0
  have HIF := hide fun (q : Nat) => (e0 ▸ HIX.out q (xs.getD k 0) : Calls Try.prog 52 #[.slice b n d, .int .i64 (xs.getD k 0)] (W2.drewN q) fun e w' => e = .returned (.int .i64 (p0 : Int)) ∧ w' = W2.drewN q)
  clear hb hW2 hB ha hbw hx hy hrow hK hbr HI0 e0 h2 haw
  go_enter Try.func51, Try.ntmps51
  go_upto_region 1 with fail
  rw [HW2.out, HBe.out]
  clear HW2 HBe
  generalize xs.getD k 0 = x0 at *
  go_wp2_with fail
  go_quiet ((go_at_call 52; exact Calls.quiet_of_same (HIF.out _)))
  go_wp2_with fail
  go_loopg [5] gk0 (fun gk s5 wr => ∃ (p t q : Nat), s5 = .int .i64 p ∧ Hid (BR n k K gk t p xs ws) ∧ wr = W2.drewN q)
  case atStart => exact ⟨p0, 1, _, rfl, HR, rfl⟩
  case round =>
    obtain ⟨p, t, q, rfl, HR1, rfl⟩ := hrel
    have hpn := HR1.out.lt
    have j0 : (0 : Int) ≤ (p : Int) := by omega
    have j1 : (p : Int) < (n : Int) := by omega
    have q3 : W2.cell? ⟨b2, o2 + p, none⟩ = some (.int .i64 (xs.getD p 0)) := by
      obtain ⟨_, _, e, q⟩ := HA.out.at (i := p) (by rw [HX.out]; exact hpn)
      cases e; exact q
    by_cases hkp : k < p
    · have hkp' : (k : Int) < (p : Int) := by omega
      by_cases h0 : xs.getD p 0 = 0
      · have HE := hide (br_out HR1.out hkp h0)
        rw [h0] at q3
        clear h0
        go_wp2_with fail
        go_ret
        exact ⟨_, rfl, HE.out, HBQ.out _⟩
      · obtain ⟨p1, e1, hg, hr1⟩ := br_step HY.out HT.out HK.out HR1.out hkp h0
        have HR2 := hide hr1
        have HIG := hide fun (m : Nat) => (e1 ▸ HIX.out m (xs.getD p 0) : Calls Try.prog 52 #[.slice b n d, .int .i64 (xs.getD p 0)] (W2.drewN m) fun e w' => e = .returned (.int .i64 (p1 : Int)) ∧ w' = W2.drewN m)
        generalize xs.getD p 0 = x at *
        have hx0 : (x != 0) = true := bne_iff_ne.2 h0
        clear hr1 e1
        go_wp2_with fail
        go_quiet ((go_at_call 52; exact (HIG.out _).mono fun _ _ h => ⟨h.1, _, h.2⟩))
        go_wp2_with fail
        go_roundg (gk - 1)
        case measure => omega
        case rel => exact ⟨p1, t + 1, q + nq, rfl, HR2, by first | rfl | simp | simp [go_sem]⟩
    · have hd : decide ((k : Int) < (p : Int)) = false := by simp; omega
      have HE := hide (br_end HR1.out hkp)
      go_wp2_with fail
      go_ret
      exact ⟨_, rfl, HE.out, HBQ.out _⟩
end Go.Proofs.Ytbhgdkkclefpnaa
namespace Go.Proofs.Ytbhgdkkclefpnaa
open Go.RowKit

/-- How many are elsewhere, and how many rings. -/
def AR (k n : Nat) (xs ws : List Int) (A R : Nat) : Prop := Mv.Is k (Mv.Away (Mx.fn xs) (Mx.fn ws)) A ∧ Mv.Is k (Mv.Lead (Mv.nxt n (Mx.fn xs) (Mx.fn ws))) R
theorem away_b {xs ws : List Int} {n k : Nat} (h2 : Mv.Two n (Mx.fn xs) (Mx.fn ws)) (hk : k < n) : ((xs.getD k 0 != 0) && (xs.getD k 0 != ws.getD k 0)) = true ↔ Mv.Away (Mx.fn xs) (Mx.fn ws) k := by
  have h := h2.sa.ge k hk
  have h' : 0 ≤ xs.getD k 0 := h
  simp only [Bool.and_eq_true, bne_iff_ne, ne_eq]
  exact ⟨fun ⟨h1, h3⟩ => ⟨show 0 < xs.getD k 0 by omega, fun e => h3 e.symm⟩, fun ⟨h1, h3⟩ => ⟨fun e => by have h1' : 0 < xs.getD k 0 := h1; omega, fun e => h3 e.symm⟩⟩
set_option maxRecDepth 100000 in
set_option maxHeartbeats 400000 in
theorem ro_no {a b : Option Addr} {n m c d : Nat} {xs ws : List Int} {w : World} (HX : Hid (xs.length = n)) (HY : Hid (ws.length = m)) (hc : n ≤ c) (hd : m ≤ d) (HA : Hid (ARow w a xs)) (HB : Hid (ARow w b ws)) (HG : Hid (Mx.sameB xs ws = false)) :
    Calls Try.prog 30 #[.slice a n c, .slice b m d] w fun e w' => e = .returned (.tuple #[.int .i64 0, .int .i64 0, .bool false]) ∧ Below w.heap.size w w' := by
  go_enter Try.func30, Try.ntmps30
  go_wp2_with fail
  refine (asg_eq HX HY hc hd HA HB HG).mono ?_
  rintro e w1 ⟨rfl, hb1⟩
  have HB1 := hide hb1
  clear hb1
  go_wp2_with fail
  exact bodyPost_ret (v := .tuple #[.int .i64 0, .int .i64 0, .bool false]) (by simp [results, Try.results30, go_sem, *]) rfl ⟨rfl, HB1.out⟩
set_option maxRecDepth 100000 in
set_option maxHeartbeats 4000000 in
theorem ro_yes {a b : Option Addr} {n c d : Nat} {xs ws : List Int} {w : World} (HX : Hid (xs.length = n)) (HY : Hid (ws.length = n)) (hn : n ≤ 9) (hc : n ≤ c) (hd : n ≤ d) (HA : Hid (ARow w a xs)) (HB : Hid (ARow w b ws)) (HG : Hid (Mx.sameB xs ws = true)) (HT : Hid (Mv.Two n (Mx.fn xs) (Mx.fn ws))) :
    Calls Try.prog 30 #[.slice a n c, .slice b n d] w fun e w' => ∃ A R : Nat, e = .returned (.tuple #[.int .i64 A, .int .i64 R, .bool true]) ∧ AR n n xs ws A R ∧ Below w.heap.size w w' := by
  go_enter Try.func30, Try.ntmps30
  go_wp2_with fail
  refine (asg_eq HX HY hc hd HA HB HG).mono ?_
  rintro e w1 ⟨rfl, hb1⟩
  have HB1 := hide hb1
  clear hb1
  go_wp2_with fail
  go_loopw [8, 9, 10, 20] (fun s8 s9 _ s wr => ∃ (k e r : Nat), s8 = .int .i64 e ∧ s9 = .int .i64 r ∧ s = .int .i64 k ∧ k ≤ n ∧ Hid (AR k n xs ws e r) ∧ Hid (PBox wr w1.heap.size (.slice a n c) (.slice b n d)) ∧ Hid (Below w.heap.size w wr)) (fun _ _ _ s _ => n - (intOf s).toNat)
  case atStart => exact ⟨0, 0, 0, rfl, rfl, rfl, Nat.zero_le _, hide ⟨Mv.Is.zero _, Mv.Is.zero _⟩, hide (PBox.new _ _ _ _), hide (HB1.out.trans ((below_new _ _).mono HB1.out.size))⟩
  case round =>
    obtain ⟨k, e, r, rfl, rfl, rfl, hk, HR, HPX, HBr⟩ := hrel
    have he := HR.out.1.le
    have hr := HR.out.2.le
    by_cases hlt : k < n
    · have x0 := HPX.out.1
      have x1 := HPX.out.2.1
      have HIE := hide (ie_any (w := wr) (c := c) (d := d) HX.out HY.out hlt (HA.out.below HBr.out) (HB.out.below HBr.out))
      have HAW := hide (away_b HT.out hlt)
      generalize ((xs.getD k 0 != 0) && (xs.getD k 0 != ws.getD k 0)) = bb at *
      go_wp2_with fail
      refine HIE.out.mono ?_
      rintro z w3 ⟨rfl, hb3⟩
      have HP3 := hide (HPX.out.below hb3)
      have HB3 := hide (HBr.out.trans (hb3.mono HBr.out.size))
      have HAR := hide (HA.out.below HB3.out)
      have HBR := hide (HB.out.below HB3.out)
      clear hb3 HIE x0 x1
      cases bb
      · have hna : ¬ Mv.Away (Mx.fn xs) (Mx.fn ws) k := fun h => Bool.noConfusion (HAW.out.2 h)
        have HR2 : Hid (AR (k + 1) n xs ws e r) := hide ⟨HR.out.1.no hna, HR.out.2.no fun h => hna (Mv.lead_away h)⟩
        clear hna
        go_wp2_with fail
        go_roundw
        case rel => exact ⟨k + 1, e, r, rfl, rfl, by go_num, by omega, HR2, HP3, HB3⟩
        case measure => simp only [intOf]; omega
      · have haw := HAW.out.1 rfl
        have HAY := hide haw
        have y0 := HP3.out.1
        have y1 := HP3.out.2.1
        have HBE := hide (br_any (w := w3) (c := c) (d := d) HX.out HY.out hlt (by omega) HT.out haw HAR.out HBR.out)
        clear haw
        go_wp2_with fail
        refine HBE.out.mono ?_
        rintro z w4 ⟨q, rfl, hq, hb4⟩
        have HP4 := hide (HP3.out.below hb4)
        have HB4 := hide (HB3.out.trans (hb4.mono HB3.out.size))
        have HQ := hide hq
        clear hb4 hq HBE y0 y1
        cases q
        · have HR2 : Hid (AR (k + 1) n xs ws (e + 1) r) := hide ⟨HR.out.1.yes HAY.out, HR.out.2.no fun h => Bool.noConfusion (HQ.out.2 h)⟩
          go_wp2_with fail
          go_roundw
          case rel => exact ⟨k + 1, e + 1, r, by go_num, rfl, by go_num, by omega, HR2, HP4, HB4⟩
          case measure => simp only [intOf]; omega
        · have HR2 : Hid (AR (k + 1) n xs ws (e + 1) (r + 1)) := hide ⟨HR.out.1.yes HAY.out, HR.out.2.yes (HQ.out.1 rfl)⟩
          go_wp2_with fail
          go_roundw
          case rel => exact ⟨k + 1, e + 1, r + 1, by go_num, by go_num, by go_num, by omega, HR2, HP4, HB4⟩
          case measure => simp only [intOf]; omega
    · have hke : k = n := by omega
      subst hke
      go_wp2_with fail
      exact bodyPost_ret (v := .tuple #[.int .i64 e, .int .i64 r, .bool true]) (by simp [results, Try.results30, go_sem, *]) rfl ⟨e, r, rfl, HR.out, HBr.out⟩
end Go.Proofs.Ytbhgdkkclefpnaa
