/-
  At any offers and any number BoundOf answers as the model does: the law's own walk.
-/
import Derived.Test.YtpabfmcoadolcaaCf
namespace Go.Proofs.Ytpabfmcoadolcaa
open Go.RowKit

def boI (L : List (List Int)) (p : Int) : Int := if chB L p then Of.topS L L.length else 0
theorem bo_w {a : Option Addr} {n c : Nat} {L : List (List Int)} {p : Int} {w : World} (hn : L.length = n) (h : ORow w a L) :
    Calls Try.prog 31 #[.slice a n c, .int .i64 p] w fun e w' => e = .returned (.tuple #[.int .i64 (boI L p), .bool (chB L p)]) ∧ Below w.heap.size w w' := by
  unfold boI
  cases hg : chB L p
  · exact bo_no hn h hg
  · exact bo_yes hn h hg
theorem sbo_w {a : Option Addr} {n c : Nat} {L : List (List Int)} {p : Int} {w : World} (hn : L.length = n) (hm : n ≤ 1048576) (h : ORow w a L) :
    Calls Try.prog 30 #[.slice a n c, .int .i64 p] w fun e w' => e = .returned (.tuple #[.int .i64 (boI L p), .bool (chB L p)]) ∧ Below w.heap.size w w' := by
  unfold boI
  cases hg : chB L p
  · exact sbo_no hn hm h hg
  · exact sbo_yes hn hm h hg
set_option maxHeartbeats 400000 in
theorem lBo_long {a : Option Addr} {n c : Nat} {p : Int} {w : World} (hm : n ≤ maxLen) (h : 1048576 < n) :
    Calls Try.prog 8 #[.slice a n c, .int .i64 p] w fun e w' => e = .returned (.bool true) ∧ Below w.heap.size w w' := by
  go_enter Try.func8, Try.ntmps8
  go_wp2_with fail
  refine (szO_long (by omega) (by omega) hm (by omega)).mono ?_
  rintro e w1 ⟨rfl, rfl⟩
  go_wp2_with fail
  go_ret
  exact ⟨rfl, Below.refl _ _⟩
set_option maxHeartbeats 4000000 in
theorem lBo_short {a : Option Addr} {n c : Nat} {p : Int} {L : List (List Int)} {w : World} (hn : L.length = n) (h : n ≤ 1048576) (hf : OFits L) (hr : ORow w a L) :
    Calls Try.prog 8 #[.slice a n c, .int .i64 p] w fun e w' => e = .returned (.bool true) ∧ Below w.heap.size w w' := by
  have HR := hide hr
  have HN := hide hn
  have HF := hide hf
  have HG := hide fun (W : World) (b c : Nat) (r : ORow W (some ⟨b, 0, none⟩) L) => bo_w (c := c) (p := p) hn r
  have HS := hide fun (W : World) (b c : Nat) (r : ORow W (some ⟨b, 0, none⟩) L) => sbo_w (c := c) (p := p) hn h r
  generalize boI L p = X at HG HS
  generalize chB L p = G at HG HS
  have hne : (G != G) = false := by simp
  have hnx : (X != X) = false := by simp
  clear hr hn hf
  go_enter Try.func8, Try.ntmps8
  go_wp2_with fail
  refine (szO_any HN.out (by omega) (by omega) (by omega) HF.out HR.out).mono ?_
  rintro e w1 ⟨r, rfl, hr1, hr2, hb1⟩
  rcases hr2 with rfl | ⟨hr0, hsh⟩
  · go_wp2_with fail
    go_ret
    exact ⟨rfl, hb1⟩
  · have HSh := hide hsh
    have hr3 : ¬ r < 0 := by omega
    clear hsh
    go_wp2_with fail
    refine (toOS_own HN.out h HSh.out (HR.out.below hb1)).mono ?_
    rintro e w2 ⟨gs2, rfl, hb2, own2⟩
    have R2 := hide own2.row
    have hB2 := hb1.trans (hb2.mono hb1.size)
    clear own2
    go_wp2_with fail
    refine (HS.out _ _ _ R2.out).mono ?_
    rintro e w3 ⟨rfl, hb3⟩
    have hB3 := hB2.trans (hb3.mono hB2.size)
    clear R2
    go_wp2_with fail
    refine (toOS_own HN.out h HSh.out (HR.out.below hB3)).mono ?_
    rintro e w4 ⟨gs4, rfl, hb4, own4⟩
    have R4 := hide own4.row
    have hB4 := hB3.trans (hb4.mono hB3.size)
    clear own4
    go_wp2_with fail
    refine (HG.out _ _ _ R4.out).mono ?_
    rintro e w5 ⟨rfl, hb5⟩
    have R5 := hide (R4.out.below hb5)
    have hB5 := hB4.trans (hb5.mono hB4.size)
    clear R4
    go_wp2_with fail
    refine (toOS_own HN.out h HSh.out (HR.out.below hB5)).mono ?_
    rintro e w6 ⟨gs6, rfl, hb6, own6⟩
    have R6 := hide own6.row
    have R6' := hide (R5.out.below hb6)
    have hB6 := hB5.trans (hb6.mono hB5.size)
    clear own6 R5
    go_wp2_with fail
    refine (eqOS_b HN.out h HSh.out R6'.out R6.out).mono ?_
    rintro e w7 ⟨rfl, hb7⟩
    go_wp2_with fail
    go_ret
    exact ⟨rfl, hB6.trans (hb7.mono hB6.size)⟩
theorem lBo_walk {a : Option Addr} {c : Nat} {k : Int} {L : List (List Int)} {w : World} (hm : L.length ≤ maxLen) (hf : OFits L) (hr : ORow w a L) :
    Calls Try.prog 8 #[.slice a L.length c, .int .i64 k] w fun e w' => e = .returned (.bool true) ∧ Below w.heap.size w w' := by
  by_cases h : L.length ≤ 1048576
  · exact lBo_short rfl h hf hr
  · exact lBo_long hm (by omega)
end Go.Proofs.Ytpabfmcoadolcaa
