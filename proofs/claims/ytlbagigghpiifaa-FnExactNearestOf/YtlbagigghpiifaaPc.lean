/-
  What rankOf of the program answers: the ranks, in memory of its own. The library's sort by its contract.
-/
import Derived.Test.YtlbagigghpiifaaShelf
import Derived.Test.YtlbagigghpiifaaPa
import Derived.Test.YtlbagigghpiifaaYf
namespace Go.Proofs.Ytlbagigghpiifaa
open Go.RowKit Go.Sort

def cmpI (x y : Int) : Int := if x < y then -1 else if y < x then 1 else 0
theorem cmpI_neg (x y : Int) : decide (cmpI x y < 0) = decide (x < y) := by
  unfold cmpI; split
  · rename_i h; simp [h]
  · rename_i h; split <;> simp <;> omega

set_option maxHeartbeats 400000 in
theorem compare_any (x y : Int) (w : World) :
    Calls Try.prog 65 #[.int .i64 x, .int .i64 y] w fun e w' => e = .returned (.int .i64 (cmpI x y)) ∧ w' = w := by
  have hx : (x != x) = false := by simp
  have hy : (y != y) = false := by simp
  unfold cmpI
  by_cases h1 : x < y
  · rw [if_pos h1]
    go_enter Try.func65, Try.ntmps65
    go_wp2
    go_ret
    exact ⟨rfl, rfl⟩
  · rw [if_neg h1]
    by_cases h2 : y < x
    · rw [if_pos h2]
      go_enter Try.func65, Try.ntmps65
      go_wp2
      go_ret
      exact ⟨rfl, rfl⟩
    · rw [if_neg h2]
      go_enter Try.func65, Try.ntmps65
      go_wp2
      go_ret
      exact ⟨rfl, rfl⟩

/-- A number as it stands in the row that is sorted. -/
def encF (m : Nat) (x : Fin (m + 1)) : Value := .int .i64 (x.val : Int)
theorem encF_one (m : Nat) : OneCell (encF m) := fun _ => rfl

theorem sort_far {α : Type} [Inhabited α] {enc : α → Value} {w : World} {blk off m b o : Nat} {dk : Array α} {os : Array Obj} (hb : b < w.heap.size) (hne : b ≠ blk) :
    (sortWorld enc w blk off m dk os).cell? ⟨b, o, none⟩ = w.cell? ⟨b, o, none⟩ := by
  unfold sortWorld
  rw [cell?_grow _ _ _ (by simpa using hb), cell?_putRow_other _ _ _ _ _ _ (Or.inl hne)]
  rfl

/-- A comparison of numbers by their values, the greater one first, whatever is written into block g. -/
def CmpBy (f : Nat) (cb : Array Value) (vs : List Int) (g : Nat) (w : World) : Prop :=
  ∀ W : World, (∀ b o, b < w.heap.size → b ≠ g → W.cell? ⟨b, o, none⟩ = w.cell? ⟨b, o, none⟩) → ∀ i j : Nat, i < vs.length → j < vs.length →
    Calls Try.prog f (#[.int .i64 (i : Int), .int .i64 (j : Int)] ++ cb) W fun e w' => e = .returned (.int .i64 (cmpI (Rk.val vs j) (Rk.val vs i))) ∧ ∃ q, w' = W.drewN q
theorem CmpBy.below {f g : Nat} {cb : Array Value} {vs : List Int} {w w' : World} (h : CmpBy f cb vs g w) (hs : w.heap.size ≤ w'.heap.size) (hB : ∀ b, b < w.heap.size → w'.heap[b]? = w.heap[b]?) : CmpBy f cb vs g w' :=
  fun W hW => h W fun b o hb hne => (hW b o (Nat.lt_of_lt_of_le hb hs) hne).trans (World.cell?_of_block (w := w) (a := ⟨b, o, none⟩) (hB b hb))
theorem cmp_reads {w : World} {f g m : Nat} {cb : Array Value} {vs : List Int} (hv : vs.length = m + 1) (hc : CmpBy f cb vs g w) (size : Nat) :
    CmpReads Try.prog f cb (encF m) (fun x y => cmpI (Rk.val vs y.val) (Rk.val vs x.val)) g 0 size w := by
  intro q os dk _ x y
  exact hc _ (fun b o hb hne => sort_far hb hne) x.val y.val (by rw [hv]; exact x.isLt) (by rw [hv]; exact y.isLt)

theorem ltOf_eq (vs : List Int) (m : Nat) : ltOf (fun x y : Fin (m + 1) => cmpI (Rk.val vs y.val) (Rk.val vs x.val)) = Rk.lt vs m := by
  funext x y
  exact cmpI_neg _ _

/-- The numbers 0, 1, .. -/
def nats (l : List Nat) : List Int := l.map fun (x : Nat) => (x : Int)
theorem nats_len (l : List Nat) : (nats l).length = l.length := by simp [nats]

/-- Behind the sort the same slice owns the sorted list. -/
theorem put_owns {w : World} {g n base m : Nat} {d : List (Fin (m + 1))} {xs : List Int} (q : Nat) (hd : d.length = n) (h : w.ownsRow base 3 1 (.slice (some ⟨g, 0, none⟩) n n) n (ints xs)) :
    ((putRow (encF m) w g 0 d.toArray).drewN q).ownsRow base 3 1 (.slice (some ⟨g, 0, none⟩) n n) n (ints (nats (Rk.vals m d))) := by
  rcases h.2 with ⟨h0, _⟩ | ⟨g', cap, cur, hv, hb, hg, h1, h2, h3, h4⟩
  · cases h0
  · cases hv
    refine ⟨by simp [ints, nats, Rk.vals, hd], Or.inr ⟨g, n, putCells (encF m) 0 d.toArray cur, rfl, hb, ?_, h1, h2, by simp [putCells, h3], ?_⟩⟩
    · show (putRow (encF m) w g 0 d.toArray).heap[g]? = _
      simp [putRow, mapBlock, Array.getElem?_modify, hg, onCells]
    · rw [Nat.mul_one]
      apply List.ext_getElem?
      intro j
      by_cases hj : j < n
      · rw [List.getElem?_take_of_lt hj, Array.getElem?_toList]
        have hjd : j < d.length := by omega
        simp [putCells, hj, show j < cur.size by omega, ints, nats, Rk.vals, hd, encF]
      · rw [List.getElem?_take_eq_none (by omega), List.getElem?_eq_none (by simp [ints, nats, Rk.vals]; omega)]
theorem put_grown {w : World} {α : Type} [Inhabited α] {enc : α → Value} {g q : Nat} {d : Array α} : w.grownBy ((putRow enc w g 0 d).drewN q) (some g) := by
  refine ⟨rfl, rfl, rfl, by show _ ≤ (putRow enc w g 0 d).heap.size; simp, fun k hk hne => ?_⟩
  have : g ≠ k := fun e => hne (by rw [e])
  show (putRow enc w g 0 d).heap[k]? = _
  simp [putRow, mapBlock, Array.getElem?_modify, this]
theorem own_holds {w : World} {g n base m : Nat} {d : List (Fin (m + 1))} (hd : d.length = n) (h : w.ownsRow base 3 1 (.slice (some ⟨g, 0, none⟩) n n) n (ints (nats (Rk.vals m d)))) : Holds (encF m) w g 0 d.toArray := by
  intro j hj
  have hj' : j < d.length := by simpa using hj
  refine ⟨?_, by rw [Nat.zero_add]; exact h.frozenAt j⟩
  rw [Nat.zero_add, h.cellAt j (by omega)]
  simp [ints, nats, Rk.vals, encF, hj']

set_option maxHeartbeats 1000000 in
theorem stable_zero {a : Option Addr} {c g : Nat} {cb : Array Value} {w : World} :
    Calls Try.prog 80 #[.slice a 0 c, .int .i64 0, .func (.func g) #[] cb] w fun e w' => e = .returned (.tuple #[]) ∧ w' = w := by
  go_enter Try.func80, Try.ntmps80
  go_wp2_with fail
  go_loop [7, 8] (fun s t => s = .int .i64 0 ∧ t = .int .i64 20) (fun _ _ => 0)
  case atStart => exact ⟨rfl, rfl⟩
  case round =>
    obtain ⟨rfl, rfl⟩ := hrel
    go_wp2_with fail
    refine (show Calls Try.prog 81 #[.slice a 0 c, .int .i64 0, .int .i64 0, .func (.func g) #[] cb] w fun e w' => e = .returned (.tuple #[]) ∧ w' = w from ?_).mono ?_
    · go_enter Try.func81, Try.ntmps81
      go_wp2_with fail
      go_loop [8] (fun s => s = .int .i64 1) (fun _ => 0)
      case atStart => rfl
      case round =>
        subst hrel
        go_wp2_with fail
        go_end0
        exact ⟨rfl, rfl⟩
    · rintro e w1 ⟨rfl, rfl⟩
      go_wp2_with fail
      go_loop [6, 7, 8, 9] (fun s _ _ _ => s = .int .i64 20) (fun _ _ _ _ => 0)
      case atStart => rfl
      case round =>
        subst hrel
        go_wp2_with fail
        go_end0
        exact ⟨rfl, rfl⟩

set_option maxHeartbeats 1000000 in
theorem stable_any {w : World} {f m g base : Nat} {cb : Array Value} {vs : List Int} {d : List (Fin (m + 1))} (hm : m + 1 ≤ 12) (hd : d.length = m + 1) (hr : Rk.vals m d = List.range (m + 1)) (hv : vs.length = m + 1)
    (eg : ∀ args w, (callFunc f args).run Try.prog w = .ok (.enter f args) w) (hc : CmpBy f cb vs g w)
    (hown : w.ownsRow base 3 1 (.slice (some ⟨g, 0, none⟩) (m + 1) (m + 1)) (m + 1) (ints (nats (Rk.vals m d)))) :
    Calls Try.prog 80 #[.slice (some ⟨g, 0, none⟩) (m + 1 : Nat) (m + 1 : Nat), .int .i64 (m + 1 : Nat), .func (.func f) #[] cb] w fun e w' =>
      e = .returned (.tuple #[]) ∧ w'.ownsRow base 3 1 (.slice (some ⟨g, 0, none⟩) (m + 1) (m + 1)) (m + 1) (ints (nats (Rk.rank vs))) ∧ w.grownBy w' (some g) := by
  have hsort : Calls Try.prog 81 #[.slice (some ⟨g, 0, none⟩) (m + 1 : Nat) (m + 1 : Nat), .int .i64 (0 : Nat), .int .i64 (m + 1 : Nat), .func (.func f) #[] cb] w fun e w' =>
      e = .returned (.tuple #[]) ∧ w'.ownsRow base 3 1 (.slice (some ⟨g, 0, none⟩) (m + 1) (m + 1)) (m + 1) (ints (nats (Rk.rank vs))) ∧ w.grownBy w' (some g) := by
    have h := Try.insertionSortCmpFunc_one (encF m) (encF_one m) (fun x y => cmpI (Rk.val vs y.val) (Rk.val vs x.val)) f cb g 0 (m + 1) 0 (m + 1) d.toArray w eg
      (cmp_reads hv hc _) (own_holds hd hown) (Nat.zero_le _) (by simp [hd]) (by simp; omega)
    rw [show d.toArray.size = m + 1 by simpa using hd] at h
    refine h.mono ?_
    rintro e w' ⟨he, q, rfl⟩
    refine ⟨he, ?_, put_grown⟩
    obtain ⟨D, hD, hDv⟩ := Rk.sorted vs m d.toArray (by simpa using hr) hv
    rw [ltOf_eq, hD, ← hDv]
    exact put_owns q (by have := congrArg List.length hDv; rw [Rk.rank_len, hv] at this; simpa [Rk.vals] using this) hown
  have HS := hide hsort
  have h20 : ¬ (20 : Int) ≤ ((m + 1 : Nat) : Int) := by omega
  have h21 : ¬ (20 : Int) < ((m + 1 : Nat) : Int) := by omega
  clear hsort hown hc eg
  generalize m + 1 = n at HS h20 h21 ⊢
  go_enter Try.func80, Try.ntmps80
  go_wp2_with fail
  go_loop [7, 8] (fun s t => s = .int .i64 0 ∧ t = .int .i64 20) (fun _ _ => 0)
  case atStart => exact ⟨rfl, rfl⟩
  case round =>
    obtain ⟨rfl, rfl⟩ := hrel
    go_wp2_with fail
    refine HS.out.mono ?_
    rintro e w1 ⟨rfl, h1, h2⟩
    go_wp2_with fail
    go_loop [6, 7, 8, 9] (fun s _ _ _ => s = .int .i64 20) (fun _ _ _ _ => 0)
    case atStart => rfl
    case round =>
      subst hrel
      go_wp2_with fail
      go_end0
      exact ⟨rfl, h1, h2⟩
end Go.Proofs.Ytlbagigghpiifaa
