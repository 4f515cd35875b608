/-
  At any offers and any number BestTable answers as the model does, in memory of its own: the law's own walk.
-/
import Derived.Test.YtpabfmcoadolcaaCm
import Derived.Test.YtpabfmcoadolcaaPn
namespace Go.Proofs.Ytpabfmcoadolcaa
open Go.RowKit

theorem OOwn.below {w w' : World} {base B : Nat} {gs : List Nat} {L : List (List Int)} (h : OOwn w base B gs L) (hb : Below w.heap.size w w') : OOwn w' base B gs L := OSo.below h hb
set_option maxHeartbeats 400000 in
theorem lBt_long {a : Option Addr} {n c : Nat} {p : Int} {w : World} (hm : n ≤ maxLen) (h : 1048576 < n) :
    Calls Try.prog 5 #[.slice a n c, .int .i64 p] w fun e w' => e = .returned (.bool true) ∧ Below w.heap.size w w' := by
  go_enter Try.func5, Try.ntmps5
  go_wp2_with fail
  refine (szO_long (by omega) (by omega) hm (by omega)).mono ?_
  rintro e w1 ⟨rfl, rfl⟩
  go_wp2_with fail
  go_ret
  exact ⟨rfl, Below.refl _ _⟩
set_option maxHeartbeats 8000000 in
theorem lBt_short {a : Option Addr} {n c : Nat} {p : Int} {L : List (List Int)} {w : World} (hn : L.length = n) (h : n ≤ 1048576) (hf : OFits L) (hr : ORow w a L) :
    Calls Try.prog 5 #[.slice a n c, .int .i64 p] w fun e w' => e = .returned (.bool true) ∧ Below w.heap.size w w' := by
  have HR := hide hr
  have HN := hide hn
  have HF := hide hf
  have HG := hide fun (W : World) (b c : Nat) (r : ORow W (some ⟨b, 0, none⟩) L) => bt_w (c := c) (p := p) hn r
  have HS := hide fun (W : World) (b c : Nat) (r : ORow W (some ⟨b, 0, none⟩) L) => sbt_w (c := c) (p := p) hn h r
  have hN := btL_len L p
  generalize btL L p = xs at HG HS hN
  generalize hx : xs.length = N at HG HS hN
  have HX := hide hx
  generalize chB L p = G at HG HS
  have hne : (G != G) = false := by simp
  clear hr hn hf hx
  go_enter Try.func5, Try.ntmps5
  go_wp2_with fail
  refine (szO_any HN.out (by omega) (by omega) (by omega) HF.out HR.out).mono ?_
  rintro e w1 ⟨r, rfl, hr1, hr2, hb1⟩
  rcases hr2 with rfl | ⟨hr0, hsh⟩
  · go_wp2_with fail
    go_ret
    exact ⟨rfl, hb1⟩
  · have HSh := hide hsh
    have hr3 : ¬ r < 0 := by omega
    clear hsh
    go_wp2_with fail
    refine (toOS_own HN.out h HSh.out (HR.out.below hb1)).mono ?_
    rintro e w2 ⟨gs2, rfl, hb2, own2⟩
    have R2 := hide own2.row
    have hB2 := hb1.trans (hb2.mono hb1.size)
    clear own2
    go_wp2_with fail
    refine (HS.out _ _ _ R2.out).mono ?_
    rintro e w3 ⟨a0, c0, rfl, r0, hb3⟩
    have R0 := hide r0
    have hB3 := hB2.trans (hb3.mono hB2.size)
    clear R2 r0
    go_wp2_with fail
    refine (toOS_own HN.out h HSh.out (HR.out.below hB3)).mono ?_
    rintro e w4 ⟨gs4, rfl, hb4, own4⟩
    have O4 := hide own4
    have hB4 := hB3.trans (hb4.mono hB3.size)
    have HS4 := hide hb4
    clear own4
    go_wp2_with fail
    refine (HG.out _ _ _ O4.out.row).mono ?_
    rintro e w5 ⟨v, rfl, own5, hb5⟩
    obtain ⟨a5, c5, rfl, r5⟩ := own_row HX.out own5
    have O5 := hide (O4.out.below hb5)
    have P5 := hide own5
    have hB5 := hB4.trans (hb5.mono hB4.size)
    have HS5 := hide (HS4.out.trans (hb5.mono HS4.out.size))
    have HGS : Hid (∀ x ∈ gs4, x < w4.heap.size) := hide fun x hx => (OSo.lt O4.out hx).2
    have R5 := hide r5
    clear own5 r5 O4
    go_wp2_with fail
    refine (eqI_b HX.out (by omega) R5.out (R0.out.below HS5.out)).mono ?_
    rintro e w6 ⟨rfl, hb6⟩
    have O6 := hide (O5.out.below hb6)
    have P6 := hide (o_own P5.out hb6)
    have hB6 := hB5.trans (hb6.mono hB5.size)
    have HS6 := hide (HS5.out.trans (hb6.mono HS5.out.size))
    clear O5 P5 R5
    go_wp2_with fail
    refine (toOS_own HN.out h HSh.out (HR.out.below hB6)).mono ?_
    rintro e w7 ⟨gs7, rfl, hb7, own7⟩
    have R7 := hide own7.row
    have O7 := hide (O6.out.below hb7)
    have P7 := hide (o_own P6.out hb7)
    have hB7 := hB6.trans (hb7.mono hB6.size)
    have HS7 := hide (HS6.out.trans (hb7.mono HS6.out.size))
    clear own7 O6 P6
    go_wp2_with fail
    refine (eqOS_b HN.out h HSh.out O7.out.row R7.out).mono ?_
    rintro e w8 ⟨rfl, hb8⟩
    have O8 := hide (O7.out.below hb8)
    have P8 := hide (o_own P7.out hb8)
    have hB8 := hB7.trans (hb8.mono hB7.size)
    have HS8 := hide (HS7.out.trans (hb8.mono HS7.out.size))
    clear R7 O7 P7
    go_wp2_with fail
    refine (markOS_any HN.out h HSh.out O8.out).mono ?_
    rintro e w9 ⟨q, rfl, q0, hb9, hz9, hk9⟩
    have P9 := hide (own_keep P8.out fun g hg hl => hk9 g hl fun hm => by have h1 := HGS.out g hm; have h2 := (P8.out.lt g hg).1; omega)
    have hB9 := hB8.trans (hb9.mono hB3.size)
    have HS9 := hide (HS8.out.trans hb9)
    have hq : ¬ q < 0 := by omega
    have R9 : Hid (ARow w9 a5 xs) := hide (by
      obtain ⟨a', c', e', r'⟩ := own_row HX.out P9.out
      cases e'; exact r')
    clear O8 P8 hk9 hb9
    go_wp2_with fail
    refine (eqI_b HX.out (by omega) R9.out (R0.out.below HS9.out)).mono ?_
    rintro e w10 ⟨rfl, hb10⟩
    have P10 := hide (o_own P9.out hb10)
    have hB10 := hB9.trans (hb10.mono hB9.size)
    have HS10 := hide (HS9.out.trans (hb10.mono HS9.out.size))
    clear R9 P9
    go_wp2_with fail
    refine (markV_any HX.out (by omega) (by omega) (by omega) P10.out).mono ?_
    rintro e w11 ⟨rfl, H11, hg11⟩
    have HH := hide H11
    have hB11 := hB10.trans (grown_under hg11 P10.out hB4.size hB10.size)
    have HS11 := hide (HS10.out.trans (grown_under hg11 P10.out HS4.out.size HS10.out.size))
    clear P10 hg11 H11
    have m1 : ¬ (1 : Int) + (N : Int) < 0 := by omega
    have m2 : ((1 : Int) + (N : Int) != (1 : Int) + (N : Int)) = false := by simp
    have HHeld := hide fun (w' : World) (hh : HeldV w' (.slice a5 N c5) N 1) => heldV_any (w := w') (by omega) (by omega) (by omega) hh
    generalize (1 : Int) + (N : Int) = q1 at *
    go_wp2_with fail
    refine (HHeld.out _ HH.out).mono ?_
    rintro e w12 ⟨rfl, hw⟩
    obtain rfl : w11 = w12 := hw.symm
    go_wp2_with fail
    refine (toOS_own HN.out h HSh.out (HR.out.below hB11)).mono ?_
    rintro e w13 ⟨gs13, rfl, hb13, own13⟩
    have R13 := hide own13.row
    have HH13 := hide (HH.out.below hb13)
    have hB13 := hB11.trans (hb13.mono hB11.size)
    have HS13 := hide (HS11.out.trans (hb13.mono HS11.out.size))
    clear own13 HH
    go_wp2_with fail
    refine (HG.out _ _ _ R13.out).mono ?_
    rintro e w14 ⟨v', rfl, own14, hb14⟩
    obtain ⟨a14, c14, rfl, r14⟩ := own_row HX.out own14
    have R14 := hide r14
    have HH14 := hide (HH13.out.below hb14)
    have hB14 := hB13.trans (hb14.mono hB13.size)
    have HS14 := hide (HS13.out.trans (hb14.mono HS13.out.size))
    clear own14 r14 R13 HH13
    go_wp2_with fail
    refine (eqI_b HX.out (by omega) R14.out (R0.out.below HS14.out)).mono ?_
    rintro e w15 ⟨rfl, hb15⟩
    have HH15 := hide (HH14.out.below hb15)
    have hB15 := hB14.trans (hb15.mono hB14.size)
    clear R14 HH14
    go_wp2_with fail
    refine (HHeld.out _ HH15.out).mono ?_
    rintro e w16 ⟨rfl, hw⟩
    obtain rfl : w15 = w16 := hw.symm
    go_wp2_with fail
    go_ret
    exact ⟨rfl, hB15⟩
theorem lBt_walk {a : Option Addr} {c : Nat} {k : Int} {L : List (List Int)} {w : World} (hm : L.length ≤ maxLen) (hf : OFits L) (hr : ORow w a L) :
    Calls Try.prog 5 #[.slice a L.length c, .int .i64 k] w fun e w' => e = .returned (.bool true) ∧ Below w.heap.size w w' := by
  by_cases h : L.length ≤ 1048576
  · exact lBt_short rfl h hf hr
  · exact lBt_long hm (by omega)
end Go.Proofs.Ytpabfmcoadolcaa
