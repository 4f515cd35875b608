/-
  What the small functions of chapter 1 answer (the program's and the model's): isPart, greatestDivisor, lowestTerms; l1In, l1Abs, l1Gcd, l1Make.
-/
import Derived.Test.YtgbbhpcicgcliaaRows
import Derived.Test.YtgbbhpcicgcliaaMath
import Derived.WalkKit
import Derived.WalkSpells
import Derived.WalkLawsBesides
import Derived.Deep.QuietTactic
import Derived.BigQuiet
import Derived.Laws.StructEq
namespace Go.Proofs.Ytgbbhpcicgcliaa
open Go.RowKit

theorem World.drewN_drew (w : World) (k : Nat) : (w.drewN k).drew = w.drewN (k + 1) := rfl
theorem hide {p : Prop} (h : p) : Hid p := h
theorem ret_bool {a b : Bool} (h : a = b) : Ending.returned (.bool a) = .returned (.bool b) := by rw [h]
theorem ret_int {k : IntKind} {a b : Int} (h : a = b) : Ending.returned (.int k a) = .returned (.int k b) := by rw [h]

theorem wrap_id (a : Int) (h0 : -9000000000000000000 ≤ a) (h1 : a ≤ 9000000000000000000) : wrap64 a = a := by unfold wrap64; omega
theorem wrap_id' (a : Int) (h0 : -9223372036854775808 ≤ a) (h1 : a ≤ 9223372036854775807) : wrap64 a = a := by unfold wrap64; omega
theorem wrap_mul (x y : Int) (hx0 : -1000000000 ≤ x) (hx1 : x ≤ 1000000000) (hy0 : -1000000000 ≤ y) (hy1 : y ≤ 1000000000) : wrap64 (x * y) = x * y := by
  have := Fr.mul_bd x y hx0 hx1 hy0 hy1
  exact wrap_id _ (by omega) (by omega)
theorem mkN_neg (n d : Int) (h0 : -4000000000000000000 ≤ n) (h1 : n ≤ 4000000000000000000) (hd : d < 0) : wrap64 (-n.tdiv (Fr.g (-n) (-d))) = Fr.mkN n d := by
  have := Fr.tdiv_abs n (Fr.g (-n) (-d))
  rw [wrap_id _ (by omega) (by omega)]
  unfold Fr.mkN; rw [if_pos hd, Fr.g_neg, Int.neg_tdiv]
theorem mkD_neg (n d : Int) (h0 : -4000000000000000000 ≤ d) (hd : d < 0) : wrap64 (-d.tdiv (Fr.g (-n) (-d))) = Fr.mkD n d := by
  have := Fr.tdiv_abs d (Fr.g (-n) (-d))
  rw [wrap_id _ (by omega) (by omega)]
  unfold Fr.mkD; rw [if_pos hd, Fr.g_neg, Int.neg_tdiv]
theorem mkN_pos (n d : Int) (hd : 0 < d) : n.tdiv (Fr.g n d) = Fr.mkN n d := by
  unfold Fr.mkN; rw [if_neg (by omega)]
theorem wrap_mkN (n d : Int) (h0 : -4000000000000000000 ≤ n) (h1 : n ≤ 4000000000000000000) : wrap64 (Fr.mkN n d) = Fr.mkN n d := by
  have := Fr.mkN_abs n d
  exact wrap_id _ (by omega) (by omega)
theorem mkD_pos (n d : Int) (hd : 0 < d) : d / Fr.g n d = Fr.mkD n d := by
  unfold Fr.mkD; rw [if_neg (by omega), Int.tdiv_eq_ediv_of_nonneg (by omega)]

end Go.Proofs.Ytgbbhpcicgcliaa
