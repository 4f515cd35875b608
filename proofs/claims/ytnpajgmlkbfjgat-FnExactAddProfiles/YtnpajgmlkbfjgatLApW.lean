/-
  At any two profiles AddProfiles answers as the model does, in memory of its own: the law's walk, at every length.
-/
import Derived.Test.YtnpajgmlkbfjgatLAp
import Derived.Test.YtnpajgmlkbfjgatMv
namespace Go.Proofs.Ytnpajgmlkbfjgat
open Go.RowKit

set_option maxHeartbeats 1000000 in
theorem lAp_long1 {a b a' b' : Option Addr} {n m c d n' m' c' d' : Nat} {w : World} (hn : n ≤ maxLen) (hm : m ≤ maxLen) (h : 1048576 < n + m) :
    Calls Try.prog 3 #[.agg #[.slice a n c, .slice b m d], .agg #[.slice a' n' c', .slice b' m' d']] w fun e w' => e = .returned (.bool true) ∧ Below w.heap.size w w' := by
  go_enter Try.func3, Try.ntmps3
  go_wp2_with fail
  refine (szP_no (by omega) (by omega) hn hm (by omega)).mono ?_
  rintro e w1 ⟨rfl, hb1⟩
  go_wp2_with fail
  go_ret
  exact ⟨rfl, (((Below.refl _ _).alloc (Nat.le_refl _) _).alloc (by simp) _).trans (hb1.mono (by simp; omega))⟩
set_option maxHeartbeats 1000000 in
theorem lAp_long2 {a b a' b' : Option Addr} {n m c d n' m' c' d' : Nat} {w : World} (hn : n' ≤ maxLen) (hm : m' ≤ maxLen) (h1 : n + m ≤ 1048576) (h : 1048576 < n + m + n' + m') :
    Calls Try.prog 3 #[.agg #[.slice a n c, .slice b m d], .agg #[.slice a' n' c', .slice b' m' d']] w fun e w' => e = .returned (.bool true) ∧ Below w.heap.size w w' := by
  have hl1 : ¬ (1048576 : Int) - (n : Int) - (m : Int) < 0 := by omega
  go_enter Try.func3, Try.ntmps3
  go_wp2_with fail
  refine (szP_yes (by omega) (by omega) (by omega)).mono ?_
  rintro e w1 ⟨rfl, hb1⟩
  have hB1 : Below w.heap.size w w1 := (((Below.refl _ _).alloc (Nat.le_refl _) _).alloc (by simp) _).trans (hb1.mono (by simp; omega))
  obtain ⟨p0, p1, z1⟩ := ((PBox.new w _ _ _).below (below_new _ _)).below hb1
  obtain ⟨p2, p3, z1'⟩ := (PBox.new (w.alloc _) _ _ _).below hb1
  simp only [World.size_alloc] at p2 p3 z1'
  go_wp2_with fail
  refine (szP_no (by omega) (by omega) hn hm (by omega)).mono ?_
  rintro e w2 ⟨rfl, hb2⟩
  have hB2 := hB1.trans (hb2.mono hB1.size)
  go_wp2_with fail
  go_ret
  exact ⟨rfl, hB2⟩
theorem lAp_walk {a b a' b' : Option Addr} {c d c' d' : Nat} {ps fs ps' fs' : List Int} {w : World} (l0 : ps.length ≤ maxLen) (l1 : fs.length ≤ maxLen) (l2 : ps'.length ≤ maxLen) (l3 : fs'.length ≤ maxLen) (ha : ARow w a ps) (hb : ARow w b fs) (ha' : ARow w a' ps') (hb' : ARow w b' fs') :
    Calls Try.prog 3 #[.agg #[.slice a ps.length c, .slice b fs.length d], .agg #[.slice a' ps'.length c', .slice b' fs'.length d']] w fun e w' => e = .returned (.bool true) ∧ Below w.heap.size w w' := by
  by_cases h1 : ps.length + fs.length ≤ 1048576
  · by_cases h2 : ps.length + fs.length + ps'.length + fs'.length ≤ 1048576
    · have hN := addN_le ps fs ps' fs'
      exact lAp_short (r := addN ps fs ps' fs') (ok := addB ps fs ps' fs') (R1 := addP ps fs ps' fs') (R2 := addFl ps fs ps' fs') rfl rfl rfl rfl (addP_len _ _ _ _) (addFl_len _ _ _ _) (by omega) h2 ha hb ha' hb'
        (hide fun W x y x' y' r1 r2 r3 r4 => sap_any r1 r2 r3 r4)
        (hide fun W x y x' y' r1 r2 r3 r4 => ap_any r1 r2 r3 r4)
    · exact lAp_long2 l2 l3 h1 (by omega)
  · exact lAp_long1 l0 l1 (by omega)
end Go.Proofs.Ytnpajgmlkbfjgat
