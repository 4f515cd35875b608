/-
  What areLines of the program answers over a list of order lines in memory.
-/
import Derived.Test.YtogkbidphdpjaaaDoorPa
namespace Go.Proofs.YtogkbidphdpjaaaDoor
open Go.RowKit

def lineB (g : Nat) (x : Int × Int) : Bool := Pf.inB x.1 0 ((g : Int) - 1) && Pf.inB x.2 1 99
def linesB (g : Nat) (ls : List (Int × Int)) : Bool := decide (ls.length ≤ 80) && (List.range ls.length).all fun i => lineB g (ls.getD i (0, 0))
theorem linesB_many {g : Nat} {ls : List (Int × Int)} (h : 80 < ls.length) : linesB g ls = false := by simp [linesB, show ¬ ls.length ≤ 80 by omega]
theorem linesB_at {g : Nat} {ls : List (Int × Int)} (h : linesB g ls = true) {i : Nat} (hi : i < ls.length) : lineB g (ls.getD i (0, 0)) = true := by
  simp only [linesB, Bool.and_eq_true] at h
  exact List.all_eq_true.1 h.2 i (by simpa using hi)
theorem linesB_len {g : Nat} {ls : List (Int × Int)} (h : linesB g ls = true) : ls.length ≤ 80 := by
  simp only [linesB, Bool.and_eq_true, decide_eq_true_eq] at h; exact h.1
theorem linesB_of {g : Nat} {ls : List (Int × Int)} (h1 : ls.length ≤ 80) (h : ∀ i, i < ls.length → lineB g (ls.getD i (0, 0)) = true) : linesB g ls = true := by
  simp only [linesB, Bool.and_eq_true, decide_eq_true_eq]
  exact ⟨h1, List.all_eq_true.2 fun i hi => h i (by simpa using hi)⟩
theorem linesB_not {g : Nat} {ls : List (Int × Int)} {i : Nat} (hi : i < ls.length) (h : lineB g (ls.getD i (0, 0)) = false) : linesB g ls = false := by
  cases e : linesB g ls
  · rfl
  · rw [linesB_at e hi] at h; cases h
/-- A list of pairs of ints, wherever it lies. -/
def LRow (w : World) (a : Option Addr) (ls : List (Int × Int)) : Prop :=
  ls = [] ∨ ∃ b o, a = some ⟨b, o, none⟩ ∧ b < w.heap.size ∧ ∀ i, i < ls.length → w.cell? ⟨b, o + i * 2, none⟩ = some (.int .i64 (ls.getD i (0, 0)).1) ∧ w.cell? ⟨b, o + i * 2 + 1, none⟩ = some (.int .i64 (ls.getD i (0, 0)).2)
theorem LRow.below {w w' : World} {a : Option Addr} {ls : List (Int × Int)} (h : LRow w a ls) (hb : Below w.heap.size w w') : LRow w' a ls := by
  rcases h with h | ⟨b, o, rfl, hl, hc⟩
  · exact Or.inl h
  · exact Or.inr ⟨b, o, rfl, Nat.lt_of_lt_of_le hl hb.size, fun i hi => ⟨(hb.cell (p := ⟨b, o + i * 2, none⟩) hl).trans (hc i hi).1, (hb.cell (p := ⟨b, o + i * 2 + 1, none⟩) hl).trans (hc i hi).2⟩⟩
theorem LRow.at {w : World} {a : Option Addr} {ls : List (Int × Int)} (h : LRow w a ls) {i : Nat} (hi : i < ls.length) : ∃ b o, a = some ⟨b, o, none⟩ ∧ b < w.heap.size ∧ w.cell? ⟨b, o + i * 2, none⟩ = some (.int .i64 (ls.getD i (0, 0)).1) ∧ w.cell? ⟨b, o + i * 2 + 1, none⟩ = some (.int .i64 (ls.getD i (0, 0)).2) := by
  rcases h with rfl | ⟨b, o, rfl, hl, hc⟩
  · exact absurd hi (Nat.not_lt_zero _)
  · exact ⟨b, o, rfl, hl, (hc i hi).1, (hc i hi).2⟩

set_option maxHeartbeats 1000000 in
theorem al_many {a : Option Addr} {n c : Nat} {g : Int} {w : World} (h : 80 < n) :
    Calls Tryd.prog 39 #[.slice a n c, .int .i64 g] w fun e w' => e = .returned (.bool false) ∧ Below w.heap.size w w' := by
  have h1 : (80 : Int) < n := by omega
  go_enter Tryd.func39, Tryd.ntmps39
  go_wp2_with fail
  go_ret
  exact ⟨rfl, Below.refl _ _⟩
set_option maxHeartbeats 4000000 in
theorem al_few {a : Option Addr} {n c g : Nat} {ls : List (Int × Int)} {w : World} (hn : ls.length = n) (hn' : n ≤ 80) (hg : g ≤ 12) (h : LRow w a ls) :
    Calls Tryd.prog 39 #[.slice a n c, .int .i64 g] w fun e w' => e = .returned (.bool (linesB g ls)) ∧ Below w.heap.size w w' := by
  have h1 : ¬ (80 : Int) < n := by omega
  have H := hide h
  have HN := hide hn
  clear h hn
  go_enter Tryd.func39, Tryd.ntmps39
  go_wp2_with fail
  go_loopw [4, 6, 12] (fun s4 _ s wr => ∃ k : Nat, s4 = .bool false ∧ s = .int .i64 k ∧ k ≤ n ∧ Hid (∀ i, i < k → lineB g (ls.getD i (0, 0)) = true) ∧ Hid (Below w.heap.size w wr)) (fun _ _ s _ => n - (intOf s).toNat)
  case atStart => exact ⟨0, rfl, rfl, Nat.zero_le _, hide fun i hi => absurd hi (Nat.not_lt_zero _), hide (Below.refl _ _)⟩
  case round =>
    obtain ⟨k, rfl, rfl, hk, HA, HBl⟩ := hrel
    by_cases hlt : k < n
    · obtain ⟨b, off, rfl, hb, r1, r2⟩ := (H.out.below HBl.out).at (i := k) (by rw [HN.out]; exact hlt)
      have i0 : (0 : Int) ≤ (k : Int) := by omega
      have i1 : (k : Int) < (n : Int) := by omega
      have hklen : k < ls.length := by rw [HN.out]; exact hlt
      have HOK : Hid (lineB g (ls.getD k (0, 0)) = true → ∀ i, i < k + 1 → lineB g (ls.getD i (0, 0)) = true) := hide fun he i hi => by
        by_cases e : i = k
        · subst e; exact he
        · exact HA.out i (by omega)
      have HN1 := hide (fun (h : lineB g (ls.getD k (0, 0)) = false) => linesB_not hklen h)
      generalize hgx : ls.getD k (0, 0) = x at *
      obtain ⟨x1, x2⟩ := x
      have hBz := HBl.out.size
      have HBn := hide (HBl.out.trans (((Below.refl wr.heap.size wr).alloc (Nat.le_refl _) (.cells #[.int .i64 x1, .int .i64 x2] 50)).mono hBz))
      clear hgx hklen
      dsimp only at r1 r2
      cases hp : Pf.inB x1 0 ((g : Int) - 1)
      · have HF := hide (HN1.out (by simp [lineB, hp]))
        go_wp2_with ((go_at_call 52; refine (between_eq hp).mono ?_; rintro e w1 ⟨rfl, rfl⟩))
        go_ret
        exact ⟨ret_bool HF.out.symm, HBn.out⟩
      · cases hq : Pf.inB x2 1 99
        · have HF := hide (HN1.out (by simp [lineB, hq]))
          go_wp2_with (first
            | (go_at_call_of 52 (Value.int IntKind.i64 x1); refine (between_eq hp).mono ?_; rintro e w1 ⟨rfl, rfl⟩)
            | (go_at_call 52; refine (between_eq hq).mono ?_; rintro e w1 ⟨rfl, rfl⟩))
          go_ret
          exact ⟨ret_bool HF.out.symm, HBn.out⟩
        · have HY := hide (HOK.out (by simp [lineB, hp, hq]))
          go_wp2_with (first
            | (go_at_call_of 52 (Value.int IntKind.i64 x1); refine (between_eq hp).mono ?_; rintro e w1 ⟨rfl, rfl⟩)
            | (go_at_call 52; refine (between_eq hq).mono ?_; rintro e w1 ⟨rfl, rfl⟩))
          go_roundw
          case rel => exact ⟨k + 1, rfl, by go_num, by omega, HY, HBn⟩
          case measure => simp only [intOf]; omega
    · have hkn : k = n := by omega
      subst hkn
      have HF := hide (linesB_of (g := g) (ls := ls) (by rw [HN.out]; omega) (by rw [HN.out]; exact HA.out))
      go_wp2_with fail
      go_ret
      exact ⟨ret_bool HF.out.symm, HBl.out⟩
theorem al_any {a : Option Addr} {c g : Nat} {ls : List (Int × Int)} {w : World} (hg : g ≤ 12) (h : LRow w a ls) :
    Calls Tryd.prog 39 #[.slice a ls.length c, .int .i64 g] w fun e w' => e = .returned (.bool (linesB g ls)) ∧ Below w.heap.size w w' := by
  by_cases hn : ls.length ≤ 80
  · exact al_few rfl hn hg h
  · exact (al_many (by omega)).mono fun e w' ⟨he, hb⟩ => ⟨by rw [he, linesB_many (by omega)], hb⟩
end Go.Proofs.YtogkbidphdpjaaaDoor
