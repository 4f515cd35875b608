/-
  What eqIntS, markIntS, heldIntS of the laws answer over rows of whole numbers in memory.
-/
import Derived.Test.YtlbagigghpiifaaA
import Derived.OwnWalk
import Derived.Laws.AppendOwn
import Derived.Laws.OwnMore
namespace Go.Proofs.Ytlbagigghpiifaa
open Go.RowKit

def ints (xs : List Int) : List Value := xs.map fun x => .int .i64 x
theorem ints_len (xs : List Int) : (ints xs).length = xs.length := by simp [ints]
theorem ints_snoc (xs : List Int) (x : Int) : ints (xs ++ [x]) = ints xs ++ [.int .i64 x] := by simp [ints]
theorem ints_get (xs : List Int) (j : Nat) (h : j < xs.length) : (ints xs)[j]? = some (.int .i64 (xs.getD j 0)) := by
  simp [ints, h]
theorem ints_set (xs : List Int) (j : Nat) (x : Int) : (ints xs).set j (.int .i64 x) = ints (xs.set j x) := by simp [ints, List.map_set]

/-- A slice of whole numbers, as it lies in memory. -/
def IRow (w : World) (v : Value) (xs : List Int) : Prop :=
  (xs = [] ∧ ∃ a c, v = .slice a 0 c) ∨ ∃ b o c, v = .slice (some ⟨b, o, none⟩) xs.length c ∧ b < w.heap.size ∧ ∀ i, i < xs.length → w.cell? ⟨b, o + i, none⟩ = some (.int .i64 (xs.getD i 0))
theorem IRow.below {w w' : World} {v : Value} {xs : List Int} (h : IRow w v xs) (hb : Below w.heap.size w w') : IRow w' v xs := by
  rcases h with h | ⟨b, o, c, hv, hlt, hc⟩
  · exact Or.inl h
  · exact Or.inr ⟨b, o, c, hv, Nat.lt_of_lt_of_le hlt hb.size, fun i hi => (hb.cell (p := ⟨b, o + i, none⟩) hlt).trans (hc i hi)⟩
theorem irow_owns {w : World} {base e : Nat} {v : Value} {xs : List Int} (h : w.ownsRow base e 1 v xs.length (ints xs)) : IRow w v xs := by
  rcases h.2 with ⟨hv, hn⟩ | ⟨g, cap, cur, hv, hb, hg, r⟩
  · exact Or.inl ⟨List.length_eq_zero_iff.1 hn, none, 0, hn ▸ hv⟩
  · subst hv
    refine Or.inr ⟨g, 0, cap, rfl, (Array.getElem?_eq_some_iff.1 hg).1, fun i hi => ?_⟩
    rw [Nat.zero_add, h.cellAt i (by simpa using hi), ints_get xs i hi]

set_option maxHeartbeats 400000 in
theorem eqI_zero (a b : Option Addr) (c d : Nat) (w : World) :
    Calls Try.prog 11 #[.slice a 0 c, .slice b 0 d] w fun e w' => e = .returned (.bool true) ∧ w' = w := by
  go_enter Try.func11, Try.ntmps11
  go_wp2_with fail
  go_loop [5] (fun s => s = .int .i64 0) (fun s => 0)
  case atStart => rfl
  case round =>
    subst hrel
    go_wp2_with fail
    go_ret
    exact ⟨rfl, rfl⟩
set_option maxHeartbeats 1000000 in
theorem eqI_same (xs : List Int) (b o c b' o' c' : Nat) (w : World) (hl : xs.length ≤ 4000000000000) (h1 : ∀ i, i < xs.length → w.cell? ⟨b, o + i, none⟩ = some (.int .i64 (xs.getD i 0))) (h2 : ∀ i, i < xs.length → w.cell? ⟨b', o' + i, none⟩ = some (.int .i64 (xs.getD i 0))) :
    Calls Try.prog 11 #[.slice (some ⟨b, o, none⟩) xs.length c, .slice (some ⟨b', o', none⟩) xs.length c'] w fun e w' => e = .returned (.bool true) ∧ ∃ m, w' = w.drewN m := by
  have hne : ((xs.length : Int) != (xs.length : Int)) = false := by simp
  go_enter Try.func11, Try.ntmps11
  go_wp2_with fail
  go_loopw [5] (fun s wr => ∃ k : Nat, s = .int .i64 k ∧ k ≤ xs.length ∧ ∃ m, wr = w.drewN m) (fun s _ => xs.length - (intOf s).toNat)
  case atStart => exact ⟨0, rfl, Nat.zero_le _, 0, rfl⟩
  case round =>
    obtain ⟨k, rfl, hk, m, rfl⟩ := hrel
    by_cases hlt : k < xs.length
    · have r1 := h1 k hlt
      have r2 := h2 k hlt
      have i0 : (0 : Int) ≤ (k : Int) := by omega
      have i1 : (k : Int) < (xs.length : Int) := by omega
      generalize xs.getD k 0 = x at *
      have hxx : (x != x) = false := by simp
      go_wp2_with fail
      go_region
      go_wp2_with fail
      go_roundw
      case rel => exact ⟨k + 1, by go_num, by omega, m + 1, rfl⟩
      case measure => simp only [intOf]; omega
    · go_wp2_with fail
      go_ret
      exact ⟨rfl, m, rfl⟩

set_option maxHeartbeats 400000 in
theorem mark_zero (a : Option Addr) (c : Nat) (k : Int) (w : World) :
    Calls Try.prog 12 #[.slice a 0 c, .int .i64 k] w fun e w' => e = .returned (.int .i64 k) ∧ w' = w := by
  go_enter Try.func12, Try.ntmps12
  go_wp2_with fail
  go_loop [1, 5] (fun s t => s = .int .i64 k ∧ t = .int .i64 0) (fun s t => 0)
  case atStart => exact ⟨rfl, rfl⟩
  case round =>
    obtain ⟨rfl, rfl⟩ := hrel
    go_wp2_with fail
    go_ret
    exact ⟨rfl, rfl⟩
set_option maxHeartbeats 1000000 in
theorem mark_any (g n cap base : Nat) (xs : List Int) (k : Int) (w : World) (hx : xs.length = n) (hn : n ≤ 4000000000000) (k0 : 0 ≤ k) (k1 : k ≤ 4000000000000) (hown : w.ownsRow base 3 1 (.slice (some ⟨g, 0, none⟩) n cap) n (ints xs)) :
    Calls Try.prog 12 #[.slice (some ⟨g, 0, none⟩) n cap, .int .i64 k] w fun e w' => e = .returned (.int .i64 (k + n)) ∧ (∃ ys : List Int, ys.length = n ∧ (∀ j, j < n → ys.getD j 0 = k + j) ∧ w'.ownsRow base 3 1 (.slice (some ⟨g, 0, none⟩) n cap) n (ints ys)) ∧ w.grownBy w' (some g) := by
  go_enter Try.func12, Try.ntmps12
  go_wp2_with fail
  go_loopw [1, 5] (fun s t wr => ∃ (i : Nat) (ys : List Int), t = .int .i64 i ∧ s = .int .i64 (k + i) ∧ i ≤ n ∧ ys.length = n ∧ Hid (∀ j, j < i → ys.getD j 0 = k + j) ∧ wr.ownsRow base 3 1 (.slice (some ⟨g, 0, none⟩) n cap) n (ints ys) ∧ w.grownBy wr (some g)) (fun _ t _ => n - (intOf t).toNat)
  case atStart => exact ⟨0, xs, rfl, by simp, Nat.zero_le _, hx, hide (by intro j hj; omega), hown, World.grownBy.refl _ _⟩
  case round =>
    obtain ⟨i, ys, rfl, rfl, hi, hy, HJ, hown', hg⟩ := hrel
    by_cases hlt : i < n
    · have i0 : (0 : Int) ≤ (i : Int) := by omega
      have i1 : (i : Int) < (n : Int) := by omega
      have c0 : wr.cell? ⟨g, i, none⟩ = some (.int .i64 (ys.getD i 0)) := by rw [hown'.cellAt i (by omega), ints_get ys i (by omega)]
      have f0 := hown'.frozenAt i
      obtain ⟨st1, st2⟩ := hown'.stored i (.int .i64 (k + i))
      rw [ints_set] at st1
      go_wp2_with fail
      go_roundw
      case rel =>
        refine ⟨i + 1, ys.set i (k + i), by go_num, by go_num, by omega, by simpa using hy, hide ?_, st1, ?_⟩
        · intro j hj
          by_cases e : j = i
          · subst e; simp [hy, hlt]
          · have := HJ.out j (by omega)
            simp only [List.getD_eq_getElem?_getD] at this ⊢
            rw [List.getElem?_set_ne (by omega)]; exact this
        · exact ⟨st2.os.trans hg.os, st2.tape.trans hg.tape, st2.output.trans hg.output, Nat.le_trans hg.size st2.size, fun b hb hne => (st2.block b (Nat.lt_of_lt_of_le hb hg.size) hne).trans (hg.block b hb hne)⟩
      case measure => simp only [intOf]; omega
    · have hin : i = n := by omega
      subst hin
      go_wp2_with fail
      go_ret
      exact ⟨rfl, ⟨ys, hy, HJ.out, hown'⟩, hg⟩

set_option maxHeartbeats 400000 in
theorem held_zero (a : Option Addr) (c : Nat) (k : Int) (w : World) :
    Calls Try.prog 13 #[.slice a 0 c, .int .i64 k] w fun e w' => e = .returned (.int .i64 k) ∧ w' = w := by
  go_enter Try.func13, Try.ntmps13
  go_wp2_with fail
  go_loop [1, 5] (fun s t => s = .int .i64 k ∧ t = .int .i64 0) (fun s t => 0)
  case atStart => exact ⟨rfl, rfl⟩
  case round =>
    obtain ⟨rfl, rfl⟩ := hrel
    go_wp2_with fail
    go_ret
    exact ⟨rfl, rfl⟩
set_option maxHeartbeats 1000000 in
theorem held_any (g n cap : Nat) (k : Int) (w : World) (hn : n ≤ 4000000000000) (k0 : 0 ≤ k) (k1 : k ≤ 4000000000000) (h : ∀ j : Nat, j < n → w.cell? ⟨g, j, none⟩ = some (.int .i64 (k + j))) :
    Calls Try.prog 13 #[.slice (some ⟨g, 0, none⟩) n cap, .int .i64 k] w fun e w' => e = .returned (.int .i64 (k + n)) ∧ w' = w := by
  go_enter Try.func13, Try.ntmps13
  go_wp2_with fail
  go_loop [1, 5] (fun s t => ∃ i : Nat, t = .int .i64 i ∧ s = .int .i64 (k + i) ∧ i ≤ n) (fun _ t => n - (intOf t).toNat)
  case atStart => exact ⟨0, rfl, by simp, Nat.zero_le _⟩
  case round =>
    obtain ⟨i, rfl, rfl, hi⟩ := hrel
    by_cases hlt : i < n
    · have i0 : (0 : Int) ≤ (i : Int) := by omega
      have i1 : (i : Int) < (n : Int) := by omega
      have c0 := h i hlt
      have hxx : (k + (i : Int) != k + (i : Int)) = false := by simp
      go_wp2_with fail
      go_round
      case rel => exact ⟨i + 1, by go_num, by go_num, by omega⟩
      case measure => simp only [intOf]; omega
    · have hin : i = n := by omega
      subst hin
      go_wp2_with fail
      go_ret
      exact ⟨rfl, rfl⟩
end Go.Proofs.Ytlbagigghpiifaa
