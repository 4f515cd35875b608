/-
  What GoodSheet of the program answers.
-/
import Derived.Test.YtogkbidphdpjaaaDoorTi15
import Derived.Test.YtogkbidphdpjaaaDoorNb
import Derived.Test.YtogkbidphdpjaaaDoorPg
namespace Go.Proofs.YtogkbidphdpjaaaDoor
open Go.RowKit

theorem gg_h15 {a : Option Addr} {n c : Nat} {gs : List Gd} {w w1 : World} {b : Bool} (HN : Hid (gs.length = n)) (hc : n ≤ c) (HS : Hid (Short gs)) (H : Hid (GRow w a gs)) (HG : Hid (goodsB gs = b)) (hB : Below w.heap.size w w1) :
    Calls Tryd.prog 38 #[.slice a n c] w1 fun e w' => e = .returned (.bool b) ∧ Below w1.heap.size w1 w' :=
  HG.out ▸ gg_any HN.out hc HS.out (H.out.below hB)
theorem al_h15 {a : Option Addr} {n c g : Nat} {ls : List (Int × Int)} {w w1 : World} {b : Bool} (HN : Hid (ls.length = n)) (hg : g ≤ 12) (H : Hid (LRow w a ls)) (HG : Hid (linesB g ls = b)) (hB : Below w.heap.size w w1) :
    Calls Tryd.prog 39 #[.slice a n c, .int .i64 g] w1 fun e w' => e = .returned (.bool b) ∧ Below w1.heap.size w1 w' := by
  have := al_any (c := c) hg (H.out.below hB)
  rw [HN.out, HG.out] at this
  exact this
set_option maxHeartbeats 2000000 in
theorem gsh_any {a a' : Option Addr} {n c n' c' : Nat} {gs : List Gd} {ls : List (Int × Int)} {w : World} (hn : gs.length = n) (hc : n ≤ c) (hs : Short gs) (h : GRow w a gs)
    (hl : ls.length = n') (h' : LRow w a' ls) :
    Calls Tryd.prog 20 #[.agg #[.slice a n c, .slice a' n' c']] w fun e w' => e = .returned (.bool (sheetB gs ls)) ∧ Below w.heap.size w w' := by
  have HG0 : Hid (sheetB gs ls = (goodsB gs && linesB n ls)) := hide (by rw [sheetB, hn])
  have H12 := hide (fun h => hn ▸ goodsB_len (gs := gs) h)
  have H := hide h
  have H' := hide h'
  have HN := hide hn
  have HL := hide hl
  have HSh := hide hs
  have hB1 := below_new w (.cells #[.slice a n c, .slice a' n' c'] 32)
  have HB1 := hide hB1
  have PB := hide (PBox.new w (.slice a n c) (.slice a' n' c') 32)
  clear h h' hn hl hs
  cases hg : goodsB gs
  · have HF : Hid (sheetB gs ls = false) := hide (by rw [HG0.out, hg]; rfl)
    have HG := hide hg
    clear hg
    go_enter Tryd.func20, Tryd.ntmps20
    go_wp2_with ((go_at_call 38; refine (gg_h15 HN hc HSh H HG HB1.out).mono ?_; rintro e w1 ⟨rfl, hb1⟩; have HW1 := hide (HB1.out.trans (hb1.mono HB1.out.size)); clear hb1))
    go_ret
    exact ⟨ret_bool HF.out.symm, HW1.out⟩
  · have h12 := H12.out hg
    have HG := hide hg
    obtain ⟨r, hr⟩ : ∃ r, linesB n ls = r := ⟨_, rfl⟩
    have HR := hide hr
    have HF : Hid (sheetB gs ls = r) := hide (by rw [HG0.out, HG.out, HR.out]; rfl)
    clear hg hr HG0 H12
    go_enter Tryd.func20, Tryd.ntmps20
    go_wp2_with (first
      | (go_at_call 38; refine (gg_h15 HN hc HSh H HG HB1.out).mono ?_; rintro e w1 ⟨rfl, hb1⟩; have hv0 := (PB.out.below hb1).1; have hv1 := (PB.out.below hb1).2.1; have HW1 := hide (HB1.out.trans (hb1.mono HB1.out.size)); clear hb1)
      | (go_at_call 39; refine (al_h15 HL h12 H' HR HW1.out).mono ?_; rintro e w2 ⟨rfl, hb2⟩; have HW2 := hide (HW1.out.trans (hb2.mono HW1.out.size)); clear hb2))
    go_ret
    exact ⟨ret_bool HF.out.symm, HW2.out⟩
theorem gsh_hid {a a' : Option Addr} {n c n' c' : Nat} {gs : List Gd} {ls : List (Int × Int)} {w : World} {r : Bool} (hr : Hid (sheetB gs ls = r)) (hn : Hid (gs.length = n)) (hc : n ≤ c) (hs : Hid (Short gs)) (h : Hid (GRow w a gs))
    (hl : Hid (ls.length = n')) (h' : Hid (LRow w a' ls)) :
    Calls Tryd.prog 20 #[.agg #[.slice a n c, .slice a' n' c']] w fun e w' => e = .returned (.bool r) ∧ Below w.heap.size w w' := hr.out ▸ gsh_any hn.out hc hs.out h.out hl.out h'.out
end Go.Proofs.YtogkbidphdpjaaaDoor
