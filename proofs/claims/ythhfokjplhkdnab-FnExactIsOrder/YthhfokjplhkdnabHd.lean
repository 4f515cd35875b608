/-
  What PairCost, OrderCost, IsOrder and SwapGain answer, the program's and the model's.
-/
import Derived.Test.YthhfokjplhkdnabHc
namespace Go.Proofs.Ythhfokjplhkdnab
open Go.RowKit

def pcI (us ws : List Int) : Int := if Od.waysB us ws then Od.pair us ws else 0
def ocB (us ws os : List Int) : Bool := Od.waysB us ws && Od.ordB os us.length
def ocI (us ws os : List Int) : Int := if ocB us ws os then Od.cost us ws os else 0
theorem ocB_yes {us ws os : List Int} (h : ocB us ws os = true) : Od.waysB us ws = true ∧ Od.ordB os us.length = true := by simpa [ocB] using h
def ioB (k : Int) : Bool := Pf.inB k 0 10
def ioI (xs : List Int) (k : Int) : Bool := if ioB k then Od.ordB xs k.toNat else false
set_option maxHeartbeats 1000000 in
theorem io_w {a : Option Addr} {n c : Nat} {xs : List Int} {k : Int} {w : World} (hx : xs.length = n) (ha : ARow w a xs) :
    Calls Try.prog 7 #[.slice a n c, .int .i64 k] w fun e w' => e = .returned (.tuple #[.bool (ioI xs k), .bool (ioB k)]) ∧ Below w.heap.size w w' := by
  unfold ioI
  have HA := hide ha
  have HX := hide hx
  clear ha hx
  cases hg : ioB k
  · have hg' : Pf.inB k 0 10 = false := hg
    clear hg
    go_enter Try.func7, Try.ntmps7
    go_wp2_with fail
    refine (between_eq hg').mono ?_
    rintro e w1 ⟨rfl, rfl⟩
    go_wp2_with fail
    go_ret2
    exact ⟨rfl, Below.refl _ _⟩
  · have hg' : Pf.inB k 0 10 = true := hg
    obtain ⟨m, rfl⟩ : ∃ m : Nat, k = (m : Int) := ⟨k.toNat, by have := Pf.inB_yes hg'; omega⟩
    have hm : m ≤ 10 := by have := Pf.inB_yes hg'; omega
    rw [if_pos rfl, Int.toNat_natCast]
    have HC := hide (eo_any (c := c) HX.out hm HA.out)
    clear hg
    go_enter Try.func7, Try.ntmps7
    go_wp2_with fail
    refine (between_eq hg').mono ?_
    rintro e w1 ⟨rfl, rfl⟩
    go_wp2_with fail
    refine HC.out.mono ?_
    rintro e w1 ⟨rfl, hb1⟩
    go_wp2_with fail
    go_ret2
    exact ⟨rfl, hb1⟩
set_option maxHeartbeats 1000000 in
theorem sio_w {a : Option Addr} {n c : Nat} {xs : List Int} {k : Int} {w : World} (hx : xs.length = n) (hc : n ≤ c) (ha : ARow w a xs) :
    Calls Try.prog 5 #[.slice a n c, .int .i64 k] w fun e w' => e = .returned (.tuple #[.bool (ioI xs k), .bool (ioB k)]) ∧ Below w.heap.size w w' := by
  unfold ioI
  have HA := hide ha
  have HX := hide hx
  clear ha hx
  cases hg : ioB k
  · have hg' : Pf.inB k 0 10 = false := hg
    clear hg
    go_enter Try.func5, Try.ntmps5
    go_wp2_with fail
    refine (in_eq hg').mono ?_
    rintro e w1 ⟨rfl, rfl⟩
    go_wp2_with fail
    go_ret2
    exact ⟨rfl, Below.refl _ _⟩
  · have hg' : Pf.inB k 0 10 = true := hg
    obtain ⟨m, rfl⟩ : ∃ m : Nat, k = (m : Int) := ⟨k.toNat, by have := Pf.inB_yes hg'; omega⟩
    have hm : m ≤ 10 := by have := Pf.inB_yes hg'; omega
    rw [if_pos rfl, Int.toNat_natCast]
    have HC := hide (seo_any (c := c) HX.out hm hc HA.out)
    clear hg
    go_enter Try.func5, Try.ntmps5
    go_wp2_with fail
    refine (in_eq hg').mono ?_
    rintro e w1 ⟨rfl, rfl⟩
    go_wp2_with fail
    refine HC.out.mono ?_
    rintro e w1 ⟨rfl, rfl⟩
    go_wp2_with fail
    go_ret2
    exact ⟨rfl, Below.refl _ _⟩
end Go.Proofs.Ythhfokjplhkdnab
