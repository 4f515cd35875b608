/-
  At any offers and any two numbers DropOffer answers as the model does: the law's own walk.
-/
import Derived.Test.YtpabfmcoadolcabCt
namespace Go.Proofs.Ytpabfmcoadolcab
open Go.RowKit

def drI (L : List (List Int)) (k p : Int) : Int := if drB L k p then (Of.tab L p.toNat).getD p.toNat 0 - (Of.tab (Of.drop L k.toNat) p.toNat).getD p.toNat 0 else 0
theorem drI_no {L : List (List Int)} {k p : Int} (h : drB L k p = false) : drI L k p = 0 := by simp [drI, h]
theorem drI_yes {L : List (List Int)} {k P : Nat} (h : drB L (k : Int) (P : Int) = true) : drI L (k : Int) (P : Int) = (Of.tab L P).getD P 0 - (Of.tab (Of.drop L k) P).getD P 0 := by simp [drI, h]
theorem drB_yes {L : List (List Int)} {k p : Int} (h : drB L k p = true) : chB L p = true ∧ 0 ≤ k ∧ k < L.length := by
  simp only [drB, Bool.and_eq_true] at h
  have := Pf.inB_yes h.2
  exact ⟨h.1, this.1, by omega⟩
theorem dr_w {a : Option Addr} {n c : Nat} {L : List (List Int)} {k p : Int} {w : World} (hn : L.length = n) (hcap : n ≤ c) (h : ORow w a L) :
    Calls Try.prog 7 #[.slice a n c, .int .i64 k, .int .i64 p] w fun e w' => e = .returned (.tuple #[.int .i64 (drI L k p), .bool (drB L k p)]) ∧ Below w.heap.size w w' := by
  cases hg : drB L k p
  · rw [drI_no hg]; exact dr_no hn h hg
  · obtain ⟨h1, h2, h3⟩ := drB_yes hg
    obtain ⟨P, rfl⟩ : ∃ P : Nat, p = (P : Int) := ⟨p.toNat, by have := chB_yes h1; omega⟩
    obtain ⟨K, rfl⟩ : ∃ K : Nat, k = (K : Int) := ⟨k.toNat, by omega⟩
    have := chB_yes h1
    rw [drI_yes hg]
    exact dr_yes (M := P + 1) hn hcap rfl (by omega) h h1 (by omega)
theorem sdr_w {a : Option Addr} {n c : Nat} {L : List (List Int)} {k p : Int} {w : World} (hn : L.length = n) (hm : n ≤ 1048576) (hcap : n ≤ c) (h : ORow w a L) :
    Calls Try.prog 5 #[.slice a n c, .int .i64 k, .int .i64 p] w fun e w' => e = .returned (.tuple #[.int .i64 (drI L k p), .bool (drB L k p)]) ∧ Below w.heap.size w w' := by
  cases hg : drB L k p
  · rw [drI_no hg]; exact sdr_no hn hm h hg
  · obtain ⟨h1, h2, h3⟩ := drB_yes hg
    obtain ⟨P, rfl⟩ : ∃ P : Nat, p = (P : Int) := ⟨p.toNat, by have := chB_yes h1; omega⟩
    obtain ⟨K, rfl⟩ : ∃ K : Nat, k = (K : Int) := ⟨k.toNat, by omega⟩
    have := chB_yes h1
    rw [drI_yes hg]
    exact sdr_yes (M := P + 1) hn hcap rfl (by omega) h h1 (by omega)
set_option maxHeartbeats 400000 in
theorem lDo_long {a : Option Addr} {n c : Nat} {k p : Int} {w : World} (hm : n ≤ maxLen) (h : 1048576 < n) :
    Calls Try.prog 3 #[.slice a n c, .int .i64 k, .int .i64 p] w fun e w' => e = .returned (.bool true) ∧ Below w.heap.size w w' := by
  go_enter Try.func3, Try.ntmps3
  go_wp2_with fail
  refine (szO_long (by omega) (by omega) hm (by omega)).mono ?_
  rintro e w1 ⟨rfl, rfl⟩
  go_wp2_with fail
  go_ret
  exact ⟨rfl, Below.refl _ _⟩
set_option maxHeartbeats 4000000 in
theorem lDo_short {a : Option Addr} {n c : Nat} {k p : Int} {L : List (List Int)} {w : World} (hn : L.length = n) (h : n ≤ 1048576) (hf : OFits L) (hr : ORow w a L) :
    Calls Try.prog 3 #[.slice a n c, .int .i64 k, .int .i64 p] w fun e w' => e = .returned (.bool true) ∧ Below w.heap.size w w' := by
  have HR := hide hr
  have HN := hide hn
  have HF := hide hf
  have HG := hide fun (W : World) (b : Nat) (r : ORow W (some ⟨b, 0, none⟩) L) => dr_w (c := n) (k := k) (p := p) hn (Nat.le_refl _) r
  have HS := hide fun (W : World) (b : Nat) (r : ORow W (some ⟨b, 0, none⟩) L) => sdr_w (c := n) (k := k) (p := p) hn h (Nat.le_refl _) r
  generalize drI L k p = X at HG HS
  generalize drB L k p = G at HG HS
  have hne : (G != G) = false := by simp
  have hnx : (X != X) = false := by simp
  clear hr hn hf
  go_enter Try.func3, Try.ntmps3
  go_wp2_with fail
  refine (szO_any HN.out (by omega) (by omega) (by omega) HF.out HR.out).mono ?_
  rintro e w1 ⟨r, rfl, hr1, hr2, hb1⟩
  rcases hr2 with rfl | ⟨hr0, hsh⟩
  · go_wp2_with fail
    go_ret
    exact ⟨rfl, hb1⟩
  · have HSh := hide hsh
    have hr3 : ¬ r < 0 := by omega
    clear hsh
    go_wp2_with fail
    refine (toOS_own HN.out h HSh.out (HR.out.below hb1)).mono ?_
    rintro e w2 ⟨gs2, rfl, hb2, own2⟩
    have R2 := hide own2.row
    have hB2 := hb1.trans (hb2.mono hb1.size)
    clear own2
    go_wp2_with fail
    refine (HS.out _ _ R2.out).mono ?_
    rintro e w3 ⟨rfl, hb3⟩
    have hB3 := hB2.trans (hb3.mono hB2.size)
    clear R2
    go_wp2_with fail
    refine (toOS_own HN.out h HSh.out (HR.out.below hB3)).mono ?_
    rintro e w4 ⟨gs4, rfl, hb4, own4⟩
    have R4 := hide own4.row
    have hB4 := hB3.trans (hb4.mono hB3.size)
    clear own4
    go_wp2_with fail
    refine (HG.out _ _ R4.out).mono ?_
    rintro e w5 ⟨rfl, hb5⟩
    have R5 := hide (R4.out.below hb5)
    have hB5 := hB4.trans (hb5.mono hB4.size)
    clear R4
    go_wp2_with fail
    refine (toOS_own HN.out h HSh.out (HR.out.below hB5)).mono ?_
    rintro e w6 ⟨gs6, rfl, hb6, own6⟩
    have R6 := hide own6.row
    have R6' := hide (R5.out.below hb6)
    have hB6 := hB5.trans (hb6.mono hB5.size)
    clear own6 R5
    go_wp2_with fail
    refine (eqOS_b HN.out h HSh.out R6'.out R6.out).mono ?_
    rintro e w7 ⟨rfl, hb7⟩
    go_wp2_with fail
    go_ret
    exact ⟨rfl, hB6.trans (hb7.mono hB6.size)⟩
theorem lDo_walk {a : Option Addr} {c : Nat} {k p : Int} {L : List (List Int)} {w : World} (hm : L.length ≤ maxLen) (hf : OFits L) (hr : ORow w a L) :
    Calls Try.prog 3 #[.slice a L.length c, .int .i64 k, .int .i64 p] w fun e w' => e = .returned (.bool true) ∧ Below w.heap.size w w' := by
  by_cases h : L.length ≤ 1048576
  · exact lDo_short rfl h hf hr
  · exact lDo_long hm (by omega)
end Go.Proofs.Ytpabfmcoadolcab
