/-
  What FindGood of the program answers.
-/
import Derived.Test.YtogkbidphdpjaaaSa15
import Derived.Test.YtogkbidphdpjaaaTj15
namespace Go.Proofs.Ytogkbidphdpjaaa
open Go.RowKit

theorem hasName_h15 {a : Option Addr} {n c : Nat} {gs : List Gd} {x : ByteArray} {w : World} {b : Bool} (hb : Hid (hasB gs x = b)) (hn : Hid (gs.length = n)) (hn' : n ≤ 1048576) (h : Hid (GRow w a gs)) :
    Calls Try.prog 34 #[.slice a n c, .string x] w fun e w' => e = .returned (.bool b) ∧ Below w.heap.size w w' := hb.out ▸ hasName_any hn.out hn' h.out
theorem number_h15 {a : Option Addr} {n c : Nat} {gs : List Gd} {x : ByteArray} {w : World} {F : Int} (hF : Hid (fndI gs x = F)) (hn : Hid (gs.length = n)) (hn' : n ≤ 1048576) (h : Hid (GRow w a gs)) :
    Calls Try.prog 35 #[.slice a n c, .string x] w fun e w' => e = .returned (.int .i64 F) ∧ Below w.heap.size w w' := hF.out ▸ number_any hn.out hn' h.out
set_option maxHeartbeats 2000000 in
theorem fg_any {a a' : Option Addr} {n c n' c' : Nat} {gs : List Gd} {ls : List (Int × Int)} {x : ByteArray} {w : World} (hn : gs.length = n) (hn1 : n ≤ 1048576) (hc : n ≤ c) (hs : Short gs) (h : GRow w a gs)
    (hl : ls.length = n') (h' : LRow w a' ls) :
    Calls Try.prog 13 #[.agg #[.slice a n c, .slice a' n' c'], .string x] w fun e w' => e = .returned (.tuple #[.int .i64 (fgI gs ls x), .bool (fgB gs ls x)]) ∧ Below w.heap.size w w' := by
  have hB1 := below_new w (.cells #[.slice a n c, .slice a' n' c'] 31)
  have HB1 := hide hB1
  have PB := hide (PBox.new w (.slice a n c) (.slice a' n' c') 31)
  have HR := hide (h.below hB1)
  have HR' := hide (h'.below hB1)
  have HN := hide hn
  have HL := hide hl
  have HSh := hide hs
  clear h h' hn hl hs hB1
  cases hg : sheetB gs ls
  · have HF : Hid (fgB gs ls x = false) := hide (by rw [fgB, hg]; rfl)
    have HI : Hid (fgI gs ls x = 0) := hide (by rw [fgI, HF.out]; rfl)
    have HG := hide hg
    clear hg
    go_enter Try.func13, Try.ntmps13
    go_wp2_with ((go_at_call 10; refine (gsh_hid HG HN hc HSh HR HL HR').mono ?_; rintro e w1 ⟨rfl, hw1⟩; have HW1 := hide (HB1.out.trans (hw1.mono HB1.out.size)); clear hw1))
    go_ret2
    exact ⟨by rw [HF.out, HI.out]; rfl, HW1.out⟩
  · have HG := hide hg
    clear hg
    have HHB := hide (fndI_has gs x)
    by_cases hk : fndI gs x < 0
    · have HF : Hid (fgB gs ls x = false) := hide (by rw [fgB, HG.out]; simp; omega)
      have HI : Hid (fgI gs ls x = 0) := hide (by rw [fgI, HF.out]; rfl)
      have HH : Hid (hasB gs x = false) := hide (by rw [← HHB.out]; simp; omega)
      go_enter Try.func13, Try.ntmps13
      go_wp2_with (first
        | (go_at_call 10; refine (gsh_hid HG HN hc HSh HR HL HR').mono ?_; rintro e w1 ⟨rfl, hw1⟩; have hv0 := (PB.out.below hw1).1; have HR2 := hide (HR.out.below hw1); have HW1 := hide (HB1.out.trans (hw1.mono HB1.out.size)); clear hw1)
        | (go_at_call 34; refine (hasName_h15 HH HN hn1 HR2).mono ?_; rintro e w2 ⟨rfl, hw2⟩; have HW2 := hide (HW1.out.trans (hw2.mono HW1.out.size)); clear hw2))
      go_ret2
      exact ⟨by rw [HF.out, HI.out]; rfl, HW2.out⟩
    · have HF : Hid (fgB gs ls x = true) := hide (by rw [fgB, HG.out]; simp; omega)
      have HI : Hid (fgI gs ls x = fndI gs x) := hide (by rw [fgI, HF.out]; rfl)
      have HH : Hid (hasB gs x = true) := hide (by rw [← HHB.out]; simp; omega)
      clear HHB
      generalize hF : fndI gs x = F at hk HI
      have HFD := hide hF
      clear hF
      go_enter Try.func13, Try.ntmps13
      go_wp2_with (first
        | (go_at_call 10; refine (gsh_hid HG HN hc HSh HR HL HR').mono ?_; rintro e w1 ⟨rfl, hw1⟩; have P1 := hide (PB.out.below hw1); have hv0 := P1.out.1; have HR2 := hide (HR.out.below hw1); have HW1 := hide (HB1.out.trans (hw1.mono HB1.out.size)); clear hw1)
        | (go_at_call 34; refine (hasName_h15 HH HN hn1 HR2).mono ?_; rintro e w2 ⟨rfl, hw2⟩; have hv2 := (P1.out.below hw2).1; have HR3 := hide (HR2.out.below hw2); have HW2 := hide (HW1.out.trans (hw2.mono HW1.out.size)); clear hw2)
        | (go_at_call 35; refine (number_h15 HFD HN hn1 HR3).mono ?_; rintro e w3 ⟨rfl, hw3⟩; have HW3 := hide (HW2.out.trans (hw3.mono HW2.out.size)); clear hw3))
      go_ret2
      exact ⟨by rw [HF.out, HI.out]; rfl, HW3.out⟩
end Go.Proofs.Ytogkbidphdpjaaa
