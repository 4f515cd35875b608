/-
  LotsFor and EachDay of the program and of the model.
-/
import Derived.Test.YticekgjgknfloabAh14
import Derived.Test.YticekgjgknfloabHv
import Derived.Lib.AppendZeros
namespace Go.Proofs.Yticekgjgknfloab
namespace Lo
open Lt
open Bx (sumTo lev)
theorem lfL_yes {nd ds : List Int} {S K : Int} (h : lfB nd S K ds = true) : lfL nd S K ds = lotsL nd ds := by rw [lfL, if_pos h]
theorem lfL_no {nd ds : List Int} {S K : Int} (h : lfB nd S K ds = false) : lfL nd S K ds = [] := by rw [lfL, h]; rfl
def nums (n : Nat) : List Int := tbl n fun i => (i : Int)
theorem nums_len (n : Nat) : (nums n).length = n := tbl_len _ _
theorem nums_has {n k : Nat} (h : k < n) : (nums n).contains (k : Int) = true := by
  rw [List.contains_eq_mem, decide_eq_true_eq]
  exact List.mem_map.2 ⟨k, by simpa using h, rfl⟩
theorem nums_days {n : Nat} (h : 0 < n) : dayB (nums n) n = true := by
  have h0 : (nums n).getD 0 0 = 0 := by rw [nums, tbl_get _ h]; rfl
  simp only [dayB, nums_len, h, h0, decide_true, Bool.true_and, beq_self_eq_true]
  refine List.all_eq_true.2 fun i hi => ?_
  have hi' : i < n := by simpa [nums_len] using hi
  unfold Ma.riseAt Ma.least
  rw [nums, tbl_get _ hi']
  refine Pf.inB_of ?_ (by omega)
  split
  · omega
  · rw [tbl_get _ (by omega)]; omega
theorem nums_lots (nd : List Int) : lotsL nd (nums nd.length) = nd := by
  have : lotsL nd (nums nd.length) = tbl nd.length (fn nd) := tbl_eq fun d hd => by
    refine Bx.lev_only hd (lat_self (nums_has hd)) fun j hj hne => ?_
    rw [lat_self (nums_has hj)]; exact hne
  rw [this, tbl_self]
end Lo
open Go.RowKit
theorem av_nil14 (w : World) (lo : Nat) : AV w lo w.heap.size (.slice none 0 0) 0 [] := ⟨World.ownsRow_nil _ _ _ _, fun g hg => by simp [Value.ownBlock] at hg, Nat.le_refl _⟩
/-- What a function with a list and a word of it answers. -/
def LB14 (w : World) (G : Bool) (Y : List Int) (e : Ending) (w' : World) : Prop := ∃ v, e = .returned (.tuple #[v, .bool G]) ∧ Below w.heap.size w w' ∧ AV w' w.heap.size w'.heap.size v Y.length Y

end Go.Proofs.Yticekgjgknfloab
