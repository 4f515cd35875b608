/-
  What FindGood of the model answers.
-/
import Derived.Test.YtogkbidphdpjaaaTg15
import Derived.Test.YtogkbidphdpjaaaTi15
namespace Go.Proofs.Ytogkbidphdpjaaa
open Go.RowKit

def fgB (gs : List Gd) (ls : List (Int × Int)) (x : ByteArray) : Bool := sheetB gs ls && decide (0 ≤ fndI gs x)
def fgI (gs : List Gd) (ls : List (Int × Int)) (x : ByteArray) : Int := if fgB gs ls x then fndI gs x else 0
theorem sgsh_hid {a a' : Option Addr} {n c n' c' : Nat} {gs : List Gd} {ls : List (Int × Int)} {w : World} {r : Bool} (hr : Hid (sheetB gs ls = r)) (hn : Hid (gs.length = n)) (hn1 : n ≤ 1048576) (hc : n ≤ c) (hs : Hid (Short gs)) (h : Hid (GRow w a gs))
    (hl : Hid (ls.length = n')) (hl1 : n' ≤ 1048576) (hc' : n' ≤ c') (h' : Hid (LRow w a' ls)) :
    Calls Try.prog 8 #[.agg #[.slice a n c, .slice a' n' c']] w fun e w' => e = .returned (.bool r) ∧ Below w.heap.size w w' := hr.out ▸ sgsh_any hn.out hn1 hc hs.out h.out hl.out hl1 hc' h'.out
theorem sfd_hid {a : Option Addr} {n c : Nat} {gs : List Gd} {x : ByteArray} {w : World} {F : Int} (hF : Hid (fndI gs x = F)) (hn : Hid (gs.length = n)) (hn' : n ≤ 1048576) (hc : n ≤ c) (h : Hid (GRow w a gs)) :
    Calls Try.prog 33 #[.slice a n c, .string x] w fun e w' => e = .returned (.int .i64 F) ∧ Below w.heap.size w w' := hF.out ▸ sfd_any hn.out hn' hc h.out
set_option maxHeartbeats 2000000 in
theorem sfg_any {a a' : Option Addr} {n c n' c' : Nat} {gs : List Gd} {ls : List (Int × Int)} {x : ByteArray} {w : World} (hn : gs.length = n) (hn1 : n ≤ 1048576) (hc : n ≤ c) (hs : Short gs) (h : GRow w a gs)
    (hl : ls.length = n') (hl1 : n' ≤ 1048576) (hc' : n' ≤ c') (h' : LRow w a' ls) :
    Calls Try.prog 12 #[.agg #[.slice a n c, .slice a' n' c'], .string x] w fun e w' => e = .returned (.tuple #[.int .i64 (fgI gs ls x), .bool (fgB gs ls x)]) ∧ Below w.heap.size w w' := by
  have HB1 := hide ((Below.refl w.heap.size w).alloc (Nat.le_refl _) (.cells #[.slice a n c, .slice a' n' c'] 31))
  have HV0 : Hid ((w.alloc (.cells #[.slice a n c, .slice a' n' c'] 31)).cell? ⟨w.heap.size, 0, none⟩ = some (.slice a n c)) := hide (by simp [go_sem])
  have HVl := hide (World.size_alloc w (.cells #[.slice a n c, .slice a' n' c'] 31))
  have HR := hide (h.keep (w' := w.alloc (.cells #[.slice a n c, .slice a' n' c'] 31)) HB1.out.size fun b hb => HB1.out.block b hb)
  have HR' : Hid (LRow (w.alloc (.cells #[.slice a n c, .slice a' n' c'] 31)) a' ls) := hide (h'.below HB1.out)
  have HN := hide hn
  have HL := hide hl
  have HSh := hide hs
  clear h h' hn hl hs
  cases hg : sheetB gs ls
  · have HF : Hid (fgB gs ls x = false) := hide (by rw [fgB, hg]; rfl)
    have HI : Hid (fgI gs ls x = 0) := hide (by rw [fgI, HF.out]; rfl)
    have HG := hide hg
    clear hg
    go_enter Try.func12, Try.ntmps12
    go_wp2_with ((go_at_call 8; refine (sgsh_hid HG HN hn1 hc HSh HR HL hl1 hc' HR').mono ?_; rintro e w1 ⟨rfl, hw1⟩; have HW1 := hide hw1; clear hw1))
    go_ret2
    have HZ := HB1.out.trans (HW1.out.mono HB1.out.size)
    exact ⟨by rw [HF.out, HI.out]; rfl, HZ⟩
  · have HG := hide hg
    clear hg
    by_cases hk : fndI gs x < 0
    · have HF : Hid (fgB gs ls x = false) := hide (by rw [fgB, HG.out]; simp; omega)
      have HI : Hid (fgI gs ls x = 0) := hide (by rw [fgI, HF.out]; rfl)
      have HFD : Hid (fndI gs x = fndI gs x) := hide rfl
      generalize hF : fndI gs x = F at hk HI HFD
      replace HFD := hide hF
      clear hF
      go_enter Try.func12, Try.ntmps12
      go_wp2_with (first
        | (go_at_call 8; refine (sgsh_hid HG HN hn1 hc HSh HR HL hl1 hc' HR').mono ?_; rintro e w1 ⟨rfl, hw1⟩; have hv0 := (hw1.cell (p := ⟨w.heap.size, 0, none⟩) (show w.heap.size < _ by rw [HVl.out]; exact Nat.lt_succ_self _)).trans HV0.out; have HR2 := hide (HR.out.below hw1); have HW1 := hide hw1; clear hw1)
        | (go_at_call 33; refine (sfd_hid HFD HN hn1 hc HR2).mono ?_; rintro e w2 ⟨rfl, hw2⟩; have HW2 := hide hw2; clear hw2))
      go_ret2
      have HZ := HB1.out.trans ((HW1.out.trans (HW2.out.mono HW1.out.size)).mono HB1.out.size)
      exact ⟨by rw [HF.out, HI.out]; rfl, HZ⟩
    · have HF : Hid (fgB gs ls x = true) := hide (by rw [fgB, HG.out]; simp; omega)
      have HI : Hid (fgI gs ls x = fndI gs x) := hide (by rw [fgI, HF.out]; rfl)
      have HFD : Hid (fndI gs x = fndI gs x) := hide rfl
      generalize hF : fndI gs x = F at hk HI HFD
      replace HFD := hide hF
      clear hF
      go_enter Try.func12, Try.ntmps12
      go_wp2_with (first
        | (go_at_call 8; refine (sgsh_hid HG HN hn1 hc HSh HR HL hl1 hc' HR').mono ?_; rintro e w1 ⟨rfl, hw1⟩; have hv0 := (hw1.cell (p := ⟨w.heap.size, 0, none⟩) (show w.heap.size < _ by rw [HVl.out]; exact Nat.lt_succ_self _)).trans HV0.out; have HR2 := hide (HR.out.below hw1); have HW1 := hide hw1; clear hw1)
        | (go_at_call 33; refine (sfd_hid HFD HN hn1 hc HR2).mono ?_; rintro e w2 ⟨rfl, hw2⟩; have HW2 := hide hw2; clear hw2))
      go_ret2
      have HZ := HB1.out.trans ((HW1.out.trans (HW2.out.mono HW1.out.size)).mono HB1.out.size)
      exact ⟨by rw [HF.out, HI.out]; rfl, HZ⟩
end Go.Proofs.Ytogkbidphdpjaaa
