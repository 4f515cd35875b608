/-
  What ProfileOf of the program answers where the goods or the lines are not good.
-/
import Derived.Test.YtogkbidphdpjaaaNa
import Derived.Test.YtogkbidphdpjaaaGq
namespace Go.Proofs.Ytogkbidphdpjaaa
open Go.RowKit

/-- The answer's variable, as yet with no profile. -/
def RV (w w1 : World) : Prop := w1.cell? ⟨w.heap.size, 0, none⟩ = some (.slice none 0 0) ∧ w1.cell? ⟨w.heap.size, 1, none⟩ = some (.slice none 0 0) ∧ w1.frozen? ⟨w.heap.size, 0, none⟩ = false ∧ w1.frozen? ⟨w.heap.size, 1, none⟩ = false ∧ Below w.heap.size w w1 ∧ w.heap.size < w1.heap.size
theorem RV.new (w : World) (t : TypeId) : RV w (w.alloc (.cells #[.slice none 0 0, .slice none 0 0] t)) :=
  ⟨by simp [go_sem], by simp [go_sem], by simp [go_sem], by simp [go_sem], (Below.refl _ _).alloc (Nat.le_refl _) _, by simp⟩
theorem RV.below {w w1 w2 : World} (h : RV w w1) (hb : Below w1.heap.size w1 w2) : RV w w2 := by
  obtain ⟨c0, c1, f0, f1, hB, hl⟩ := h
  obtain ⟨hc, hf⟩ := bcell hb
  exact ⟨(hc _ _ hl).trans c0, (hc _ _ hl).trans c1, (hf _ _ hl).trans f0, (hf _ _ hl).trans f1, hB.trans (hb.mono (by omega)), Nat.lt_of_lt_of_le hl hb.size⟩

theorem gg_h {a : Option Addr} {n c : Nat} {gs : List Gd} {w w1 : World} {b : Bool} (HN : Hid (gs.length = n)) (hc : n ≤ c) (HS : Hid (Short gs)) (H : Hid (GRow w a gs)) (HG : Hid (goodsB gs = b)) (hB : Below w.heap.size w w1) :
    Calls Try.prog 29 #[.slice a n c] w1 fun e w' => e = .returned (.bool b) ∧ Below w1.heap.size w1 w' :=
  HG.out ▸ gg_any HN.out hc HS.out (H.out.below hB)
theorem al_h {a : Option Addr} {n c g : Nat} {ls : List (Int × Int)} {w w1 : World} {b : Bool} (HN : Hid (ls.length = n)) (hg : g ≤ 12) (H : Hid (LRow w a ls)) (HG : Hid (linesB g ls = b)) (hB : Below w.heap.size w w1) :
    Calls Try.prog 30 #[.slice a n c, .int .i64 g] w1 fun e w' => e = .returned (.bool b) ∧ Below w1.heap.size w1 w' := by
  have := al_any (c := c) hg (H.out.below hB)
  rw [HN.out, HG.out] at this
  exact this
set_option maxHeartbeats 2000000 in
theorem po_bad1 {a a' : Option Addr} {n c n' c' : Nat} {gs : List Gd} {w : World} (hn : gs.length = n) (hc : n ≤ c) (hs : Short gs) (h : GRow w a gs) (hg : goodsB gs = false) :
    Calls Try.prog 37 #[.slice a n c, .slice a' n' c'] w fun e w' => e = .returned (.tuple #[.agg #[.slice none 0 0, .slice none 0 0], .bool false]) ∧ Below w.heap.size w w' := by
  have H := hide h
  have HG := hide hg
  have HN := hide hn
  have HS := hide hs
  clear h hg hn hs
  go_enter Try.func37, Try.ntmps37
  go_wp2_with ((go_at_call 29; refine (gg_h HN hc HS H HG ((Below.refl _ _).alloc (Nat.le_refl _) _)).mono ?_; rintro e w1 ⟨rfl, hb1⟩; obtain ⟨p4, p5, f0, f1, hB1, z1⟩ := (RV.new w _).below hb1))
  exact bodyPost_ret (v := .tuple #[.agg #[.slice none 0 0, .slice none 0 0], .bool false]) (by simp [results, Try.results37, go_sem, p4, p5]) rfl ⟨rfl, (hB1.setCell (Nat.le_refl _) _).setCell (Nat.le_refl _) _⟩
set_option maxHeartbeats 2000000 in
theorem po_bad2 {a a' : Option Addr} {n c n' c' : Nat} {gs : List Gd} {ls : List (Int × Int)} {w : World} (hn : gs.length = n) (hc : n ≤ c) (hs : Short gs) (h : GRow w a gs) (hg : goodsB gs = true)
    (hn' : ls.length = n') (h' : LRow w a' ls) (hl : linesB n ls = false) :
    Calls Try.prog 37 #[.slice a n c, .slice a' n' c'] w fun e w' => e = .returned (.tuple #[.agg #[.slice none 0 0, .slice none 0 0], .bool false]) ∧ Below w.heap.size w w' := by
  have h12 : n ≤ 12 := hn ▸ goodsB_len hg
  have H := hide h
  have HG := hide hg
  have HN := hide hn
  have HS := hide hs
  have H' := hide h'
  have HN' := hide hn'
  have HL := hide hl
  clear h hg hn hs h' hn' hl
  go_enter Try.func37, Try.ntmps37
  go_wp2_with (first
    | (go_at_call 29; refine (gg_h HN hc HS H HG ((Below.refl _ _).alloc (Nat.le_refl _) _)).mono ?_; rintro e w1 ⟨rfl, hb1⟩; obtain ⟨p4, p5, f0, f1, hB1, z1⟩ := (RV.new w _).below hb1)
    | (go_at_call 30; refine (al_h HN' h12 H' HL hB1).mono ?_; rintro e w2 ⟨rfl, hb2⟩; obtain ⟨q4, q5, g0, g1, hB2, z2⟩ := RV.below ⟨p4, p5, f0, f1, hB1, z1⟩ hb2))
  exact bodyPost_ret (v := .tuple #[.agg #[.slice none 0 0, .slice none 0 0], .bool false]) (by simp [results, Try.results37, go_sem, q4, q5]) rfl ⟨rfl, (hB2.setCell (Nat.le_refl _) _).setCell (Nat.le_refl _) _⟩
end Go.Proofs.Ytogkbidphdpjaaa
