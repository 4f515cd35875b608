/-
  At any offers and any counts ValueOf answers as the model does: the law's own walk.
-/
import Derived.Test.YtpabfmcoadolcaaCg
namespace Go.Proofs.Ytpabfmcoadolcaa
open Go.RowKit

set_option maxHeartbeats 400000 in
theorem lVa_wide {a b : Option Addr} {n c m d : Nat} {w : World} (h : 1048576 < m) :
    Calls Try.prog 7 #[.slice a n c, .slice b m d] w fun e w' => e = .returned (.bool true) ∧ Below w.heap.size w w' := by
  have h1 : (1048576 : Int) < m := by omega
  go_enter Try.func7, Try.ntmps7
  go_wp2_with fail
  go_ret
  exact ⟨rfl, Below.refl _ _⟩
set_option maxHeartbeats 400000 in
theorem lVa_long {a b : Option Addr} {n c m d : Nat} {w : World} (hm' : m ≤ 1048576) (hm : n ≤ maxLen) (h : 1048576 < n) :
    Calls Try.prog 7 #[.slice a n c, .slice b m d] w fun e w' => e = .returned (.bool true) ∧ Below w.heap.size w w' := by
  have h1 : ¬ (1048576 : Int) < m := by omega
  go_enter Try.func7, Try.ntmps7
  go_wp2_with fail
  refine (szO_long (by omega) (by omega) hm (by omega)).mono ?_
  rintro e w1 ⟨rfl, rfl⟩
  go_wp2_with fail
  go_ret
  exact ⟨rfl, Below.refl _ _⟩
set_option maxHeartbeats 4000000 in
theorem lVa_short {a b : Option Addr} {n c m d : Nat} {L : List (List Int)} {cs : List Int} {w : World} (hn : L.length = n) (hm : cs.length = m) (h : n ≤ 1048576) (hm' : m ≤ 1048576) (hf : OFits L) (hr : ORow w a L) (hc : ARow w b cs) :
    Calls Try.prog 7 #[.slice a n c, .slice b m d] w fun e w' => e = .returned (.bool true) ∧ Below w.heap.size w w' := by
  have h1 : ¬ (1048576 : Int) < m := by omega
  have HR := hide hr
  have HN := hide hn
  have HF := hide hf
  have HM := hide hm
  have HA := hide hc
  have HG := hide fun (W : World) (x y c d : Nat) (r : ORow W (some ⟨x, 0, none⟩) L) (s : ARow W (some ⟨y, 0, none⟩) cs) => va_w (c := c) (d := d) hn hm r s
  have HS := hide fun (W : World) (x y c d : Nat) (r : ORow W (some ⟨x, 0, none⟩) L) (s : ARow W (some ⟨y, 0, none⟩) cs) => sva_w (c := c) (d := d) hn hm h r s
  generalize vaI L cs = X at HG HS
  generalize Of.valB L cs = G at HG HS
  have hne : (G != G) = false := by simp
  have hnx : (X != X) = false := by simp
  clear hr hn hf hm hc
  go_enter Try.func7, Try.ntmps7
  go_wp2_with fail
  refine (szO_any HN.out (by omega) (by omega) (by omega) HF.out HR.out).mono ?_
  rintro e w1 ⟨r, rfl, hr1, hr2, hb1⟩
  rcases hr2 with rfl | ⟨hr0, hsh⟩
  · go_wp2_with fail
    go_ret
    exact ⟨rfl, hb1⟩
  · have HSh := hide hsh
    have hr3 : ¬ r < 0 := by omega
    clear hsh
    go_wp2_with fail
    refine (toOS_own HN.out h HSh.out (HR.out.below hb1)).mono ?_
    rintro e w2 ⟨gs2, rfl, hb2, own2⟩
    have R2 := hide own2.row
    have hB2 := hb1.trans (hb2.mono hb1.size)
    clear own2
    go_wp2_with fail
    refine (toI_own b d m cs _ HM.out hm' (HA.out.below hB2)).mono ?_
    rintro e w3 ⟨rfl, hb3, _, own3⟩
    have Q3 := hide (arow_owns HM.out.symm own3)
    have R3 := hide (R2.out.below hb3)
    have hB3 := hB2.trans (hb3.mono hB2.size)
    clear own3 R2
    go_wp2_with fail
    refine (HS.out _ _ _ _ _ R3.out Q3.out).mono ?_
    rintro e w4 ⟨rfl, hb4⟩
    have hB4 := hB3.trans (hb4.mono hB3.size)
    clear R3 Q3
    go_wp2_with fail
    refine (toOS_own HN.out h HSh.out (HR.out.below hB4)).mono ?_
    rintro e w5 ⟨gs5, rfl, hb5, own5⟩
    have R5 := hide own5.row
    have hB5 := hB4.trans (hb5.mono hB4.size)
    clear own5
    go_wp2_with fail
    refine (toI_own b d m cs _ HM.out hm' (HA.out.below hB5)).mono ?_
    rintro e w6 ⟨rfl, hb6, _, own6⟩
    have Q6 := hide (arow_owns HM.out.symm own6)
    have R6 := hide (R5.out.below hb6)
    have hB6 := hB5.trans (hb6.mono hB5.size)
    clear own6 R5
    go_wp2_with fail
    refine (HG.out _ _ _ _ _ R6.out Q6.out).mono ?_
    rintro e w7 ⟨rfl, hb7⟩
    have R7 := hide (R6.out.below hb7)
    have Q7 := hide (Q6.out.below hb7)
    have hB7 := hB6.trans (hb7.mono hB6.size)
    clear R6 Q6
    go_wp2_with fail
    refine (toOS_own HN.out h HSh.out (HR.out.below hB7)).mono ?_
    rintro e w8 ⟨gs8, rfl, hb8, own8⟩
    have R8 := hide own8.row
    have R8' := hide (R7.out.below hb8)
    have Q8 := hide (Q7.out.below hb8)
    have hB8 := hB7.trans (hb8.mono hB7.size)
    clear own8 R7 Q7
    go_wp2_with fail
    refine (eqOS_b HN.out h HSh.out R8'.out R8.out).mono ?_
    rintro e w9 ⟨rfl, hb9⟩
    have Q9 := hide (Q8.out.below hb9)
    have hB9 := hB8.trans (hb9.mono hB8.size)
    clear R8 R8' Q8
    go_wp2_with fail
    refine (toI_own b d m cs _ HM.out hm' (HA.out.below hB9)).mono ?_
    rintro e w10 ⟨rfl, hb10, _, own10⟩
    have Q10 := hide (arow_owns HM.out.symm own10)
    have Q10' := hide (Q9.out.below hb10)
    have hB10 := hB9.trans (hb10.mono hB9.size)
    clear own10 Q9
    go_wp2_with fail
    refine (eqI_b HM.out hm' Q10'.out Q10.out).mono ?_
    rintro e w11 ⟨rfl, hb11⟩
    go_wp2_with fail
    go_ret
    exact ⟨rfl, hB10.trans (hb11.mono hB10.size)⟩
theorem lVa_walk {a b : Option Addr} {c d : Nat} {L : List (List Int)} {cs : List Int} {w : World} (hm : L.length ≤ maxLen) (hf : OFits L) (hr : ORow w a L) (hc : ARow w b cs) :
    Calls Try.prog 7 #[.slice a L.length c, .slice b cs.length d] w fun e w' => e = .returned (.bool true) ∧ Below w.heap.size w w' := by
  by_cases h1 : cs.length ≤ 1048576
  · by_cases h : L.length ≤ 1048576
    · exact lVa_short rfl rfl h h1 hf hr hc
    · exact lVa_long h1 hm (by omega)
  · exact lVa_wide (by omega)
end Go.Proofs.Ytpabfmcoadolcaa
