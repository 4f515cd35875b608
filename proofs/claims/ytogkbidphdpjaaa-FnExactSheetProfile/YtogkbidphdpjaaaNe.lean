/-
  What ProfileOf of the model answers where the goods are not good, or the lines too many.
-/
import Derived.Test.YtogkbidphdpjaaaNb
import Derived.Test.YtogkbidphdpjaaaGr
namespace Go.Proofs.Ytogkbidphdpjaaa
open Go.RowKit

theorem sgg_h {a : Option Addr} {n c : Nat} {gs : List Gd} {w w1 : World} {b : Bool} (HN : Hid (gs.length = n)) (hn : n ≤ 1048576) (hc : n ≤ c) (HS : Hid (Short gs)) (H : Hid (GRow w a gs)) (HG : Hid (goodsB gs = b)) (hB : Below w.heap.size w w1) :
    Calls Try.prog 26 #[.slice a n c] w1 fun e w' => e = .returned (.bool b) ∧ Below w1.heap.size w1 w' :=
  HG.out ▸ sgg_any HN.out hn hc HS.out (H.out.below hB)
set_option maxHeartbeats 2000000 in
theorem spo_bad1 {a a' : Option Addr} {n c n' c' : Nat} {gs : List Gd} {w : World} (hn : gs.length = n) (hn1 : n ≤ 1048576) (hc : n ≤ c) (hs : Short gs) (h : GRow w a gs) (hg : goodsB gs = false) :
    Calls Try.prog 36 #[.slice a n c, .slice a' n' c'] w fun e w' => e = .returned (.tuple #[.agg #[.slice none 0 0, .slice none 0 0], .bool false]) ∧ Below w.heap.size w w' := by
  have H := hide h
  have HG := hide hg
  have HN := hide hn
  have HS := hide hs
  clear h hg hn hs
  go_enter Try.func36, Try.ntmps36
  go_wp2_with ((go_at_call 26; refine (sgg_h HN hn1 hc HS H HG ((Below.refl _ _).alloc (Nat.le_refl _) _)).mono ?_; rintro e w1 ⟨rfl, hb1⟩; obtain ⟨p4, p5, f0, f1, hB1, z1⟩ := (RV.new w _).below hb1))
  exact bodyPost_ret (v := .tuple #[.agg #[.slice none 0 0, .slice none 0 0], .bool false]) (by simp [results, Try.results36, go_sem, p4, p5]) rfl ⟨rfl, (hB1.setCell (Nat.le_refl _) _).setCell (Nat.le_refl _) _⟩
set_option maxHeartbeats 2000000 in
theorem spo_many {a a' : Option Addr} {n c n' c' : Nat} {gs : List Gd} {w : World} (hn : gs.length = n) (hn1 : n ≤ 1048576) (hc : n ≤ c) (hs : Short gs) (h : GRow w a gs) (hg : goodsB gs = true) (hl : 80 < n') :
    Calls Try.prog 36 #[.slice a n c, .slice a' n' c'] w fun e w' => e = .returned (.tuple #[.agg #[.slice none 0 0, .slice none 0 0], .bool false]) ∧ Below w.heap.size w w' := by
  have h80 : (80 : Int) < (n' : Int) := by omega
  have H := hide h
  have HG := hide hg
  have HN := hide hn
  have HS := hide hs
  clear h hg hn hs
  go_enter Try.func36, Try.ntmps36
  go_wp2_with ((go_at_call 26; refine (sgg_h HN hn1 hc HS H HG ((Below.refl _ _).alloc (Nat.le_refl _) _)).mono ?_; rintro e w1 ⟨rfl, hb1⟩; obtain ⟨p4, p5, f0, f1, hB1, z1⟩ := (RV.new w _).below hb1))
  exact bodyPost_ret (v := .tuple #[.agg #[.slice none 0 0, .slice none 0 0], .bool false]) (by simp [results, Try.results36, go_sem, p4, p5]) rfl ⟨rfl, (hB1.setCell (Nat.le_refl _) _).setCell (Nat.le_refl _) _⟩
end Go.Proofs.Ytogkbidphdpjaaa
