/-
  FnProfiles at any bytes: the law's walk joined.
-/
import Derived.Test.YtegonbilomcpkaaLPr
namespace Go.Proofs.Ytegonbilomcpkaa
open Go.RowKit

set_option maxRecDepth 100000 in
set_option maxHeartbeats 1000000 in
theorem lPr_long {a1 a2 : Option Addr} {len1 cap1 len2 cap2 : Nat} {w : World} (h1 : (1048576 : Int) < wrap64 ((len1 : Int) + (len2 : Int))) :
    Calls Try.prog 3 #[.slice a1 len1 cap1, .slice a2 len2 cap2] w fun e w' => e = .returned (.bool true) ∧ Below w.heap.size w w' := by
  go_enter Try.func3, Try.ntmps3
  go_wp2_with fail
  go_ret
  exact ⟨rfl, Below.refl _ _⟩
theorem lPr_walk {a1 a2 : Option Addr} {len1 cap1 len2 cap2 : Nat} {w : World} (hs1 : Src w a1 len1) (hs2 : Src w a2 len2) (m1 : len1 ≤ 140737488351232) (m2 : len2 ≤ 140737488351232) :
    Calls Try.prog 3 #[.slice a1 len1 cap1, .slice a2 len2 cap2] w fun e w' => e = .returned (.bool true) ∧ Below w.heap.size w w' := by
  by_cases h1 : (1048576 : Int) < wrap64 ((len1 : Int) + (len2 : Int))
  · exact lPr_long h1
  · refine lPr_main (hide hs1) (hide hs2) h1 ?_
    rw [wrap_id _ (by omega) (by omega)] at h1
    omega
end Go.Proofs.Ytegonbilomcpkaa
