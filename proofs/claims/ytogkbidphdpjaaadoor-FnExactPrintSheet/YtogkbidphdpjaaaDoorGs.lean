/-
  What szGoodS, toGoodS and eqGoodS of the laws answer, over goods in memory.
-/
import Derived.Test.YtogkbidphdpjaaaDoorGr
import Derived.OwnWalk
namespace Go.Proofs.YtogkbidphdpjaaaDoor
open Go.RowKit

def Fits (gs : List Gd) : Prop := ∀ i, (gs.getD i gd0).1.size ≤ maxLen

set_option maxHeartbeats 400000 in
theorem szg_yes {s : ByteArray} {z left : Int} {w : World} (h0 : 0 ≤ left) (h1 : left ≤ 1048576) (h : (s.size : Int) ≤ left) :
    Calls Tryd.prog 32 #[.agg #[.string s, .int .i64 z], .int .i64 left] w fun e w' => e = .returned (.int .i64 (left - s.size)) ∧ Below w.heap.size w w' := by
  have h2 : ¬ left - (s.size : Int) < 0 := by omega
  go_enter Tryd.func32, Tryd.ntmps32
  go_wp2
  go_ret
  exact ⟨rfl, (Below.refl _ _).alloc (Nat.le_refl _) _⟩
set_option maxHeartbeats 400000 in
theorem szg_no {s : ByteArray} {z left : Int} {w : World} (h0 : 0 ≤ left) (h1 : left ≤ 1048576) (hm : s.size ≤ maxLen) (h : left < (s.size : Int)) :
    Calls Tryd.prog 32 #[.agg #[.string s, .int .i64 z], .int .i64 left] w fun e w' => e = .returned (.int .i64 (-1)) ∧ Below w.heap.size w w' := by
  unfold maxLen at hm
  have h2 : left - (s.size : Int) < 0 := by omega
  have h3 : wrap64 (left - (s.size : Int)) = left - (s.size : Int) := wrap_id' _ (by omega) (by omega)
  go_enter Tryd.func32, Tryd.ntmps32
  go_wp2
  go_ret
  exact ⟨rfl, (Below.refl _ _).alloc (Nat.le_refl _) _⟩

set_option maxHeartbeats 400000 in
theorem szG_long {a : Option Addr} {n c : Nat} {left : Int} {w : World} (h0 : 0 ≤ left) (h1 : left ≤ 1048576) (hm : n ≤ maxLen) (h : left < (n : Int)) :
    Calls Tryd.prog 14 #[.slice a n c, .int .i64 left] w fun e w' => e = .returned (.int .i64 (-1)) ∧ w' = w := by
  unfold maxLen at hm
  have h2 : left - (n : Int) < 0 := by omega
  have h3 : wrap64 (left - (n : Int)) = left - (n : Int) := wrap_id' _ (by omega) (by omega)
  go_enter Tryd.func14, Tryd.ntmps14
  go_wp2_with fail
  go_ret
  exact ⟨rfl, rfl⟩
set_option maxHeartbeats 2000000 in
theorem szG_any {a : Option Addr} {n c : Nat} {left : Int} {gs : List Gd} {w : World} (hn : gs.length = n) (h0 : 0 ≤ left) (h1 : left ≤ 1048576) (hl : (n : Int) ≤ left) (hf : Fits gs) (h : GRow w a gs) :
    Calls Tryd.prog 14 #[.slice a n c, .int .i64 left] w fun e w' => ∃ r : Int, e = .returned (.int .i64 r) ∧ r ≤ 1048576 ∧ (r = -1 ∨ (0 ≤ r ∧ ∀ i, i < n → (gs.getD i gd0).1.size ≤ 1048576)) ∧ Below w.heap.size w w' := by
  have H := hide h
  have HN := hide hn
  have HF := hide hf
  have h2 : ¬ left - (n : Int) < 0 := by omega
  clear h hn hf
  go_enter Tryd.func14, Tryd.ntmps14
  go_wp2_with fail
  go_loopw [1, 4, 5] (fun s1 _ s wr => ∃ (k : Nat) (r : Int), s1 = .int .i64 r ∧ s = .int .i64 k ∧ k ≤ n ∧ 0 ≤ r ∧ r ≤ 1048576 ∧ Hid (∀ i, i < k → (gs.getD i gd0).1.size ≤ 1048576) ∧ Hid (Below w.heap.size w wr)) (fun _ _ s _ => n - (intOf s).toNat)
  case atStart => exact ⟨0, _, rfl, rfl, Nat.zero_le _, by omega, by omega, hide fun i hi => absurd hi (Nat.not_lt_zero _), hide (Below.refl _ _)⟩
  case round =>
    obtain ⟨k, r, rfl, rfl, hk, r0, r1, HA, HBl⟩ := hrel
    by_cases hlt : k < n
    · obtain ⟨b, off, rfl, hb, c1, c2⟩ := (H.out.below HBl.out).at (i := k) (by rw [HN.out]; exact hlt)
      have i0 : (0 : Int) ≤ (k : Int) := by omega
      have i1 : (k : Int) < (n : Int) := by omega
      have hfk := HF.out k
      generalize hx : (gs.getD k gd0).1 = x at c1 hfk
      generalize (gs.getD k gd0).2 = z at c2
      by_cases hle : (x.size : Int) ≤ r
      · have HA' : Hid (∀ i, i < k + 1 → (gs.getD i gd0).1.size ≤ 1048576) := hide fun i hi => by
          by_cases e : i = k
          · subst e; rw [hx]; omega
          · exact HA.out i (by omega)
        have hnn : ¬ r - (x.size : Int) < 0 := by omega
        clear hx
        go_wp2_with (go_at_call 32; refine (szg_yes r0 r1 hle).mono ?_; rintro e w1 ⟨rfl, hb1⟩)
        go_roundw
        case rel => exact ⟨k + 1, _, rfl, by go_num, by omega, by omega, by omega, HA', hide (HBl.out.trans (hb1.mono HBl.out.size))⟩
        case measure => simp only [intOf]; omega
      · clear hx
        go_wp2_with (go_at_call 32; refine (szg_no r0 r1 hfk (by omega)).mono ?_; rintro e w1 ⟨rfl, hb1⟩)
        go_ret
        exact ⟨-1, rfl, by omega, Or.inl rfl, HBl.out.trans (hb1.mono HBl.out.size)⟩
    · have hke : k = n := by omega
      subst hke
      go_wp2_with fail
      go_ret
      exact ⟨r, rfl, r1, Or.inr ⟨r0, HA.out⟩, HBl.out⟩

set_option maxHeartbeats 400000 in
theorem toGood_any (s : ByteArray) (z : Int) (w : World) :
    Calls Tryd.prog 36 #[.agg #[.string s, .int .i64 z]] w fun e w' => e = .returned (.agg #[.string s, .int .i64 z]) ∧ Below w.heap.size w w' := by
  go_enter Tryd.func36, Tryd.ntmps36
  go_wp2
  exact bodyPost_ret (v := .agg #[.string s, .int .i64 z]) (by simp [results, Tryd.results36, go_sem]) rfl ⟨rfl, by
    first
    | exact ((((Below.refl _ _).alloc (Nat.le_refl _) _).alloc (by simp) _).alloc (by simp; omega) _)
    | exact (((((((Below.refl _ _).alloc (Nat.le_refl _) _).alloc (by simp) _).alloc (by simp; omega) _).setCell (by simp; omega) _).setCell (by simp; omega) _).setCell (by simp; omega) _).setCell (by simp; omega) _⟩
set_option maxHeartbeats 1000000 in
theorem eqGood_same (s : ByteArray) (z : Int) (w : World) :
    Calls Tryd.prog 41 #[.agg #[.string s, .int .i64 z], .agg #[.string s, .int .i64 z]] w fun e w' => e = .returned (.bool true) ∧ Below w.heap.size w w' := by
  have hz : (z != z) = false := by simp
  have hs : (s.toList == s.toList) = true := by simp
  have hs' : (s.toList != s.toList) = false := by simp
  go_enter Tryd.func41, Tryd.ntmps41
  go_wp2_with fail
  go_ret
  exact ⟨rfl, ((Below.refl _ _).alloc (Nat.le_refl _) _).alloc (by simp) _⟩
end Go.Proofs.YtogkbidphdpjaaaDoor
