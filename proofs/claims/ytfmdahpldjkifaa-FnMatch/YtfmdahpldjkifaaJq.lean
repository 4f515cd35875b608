/-
  What l8Those, CoverOf and LackOf of the model answer.
-/
import Derived.Test.YtfmdahpldjkifaaJn
import Derived.Deep.AppendLies
namespace Go.Proofs.Ytfmdahpldjkifaa
open Go.RowKit

/-- One value more behind an owned list of ints, and where it lies then. -/
theorem push_int8 {w : World} {base n : Nat} {v : Value} {xs : List Value} {x : Int} (hown : w.ownsRow base 3 1 v n xs) (hn : n ≤ 100000) (hb : base ≤ w.heap.size) :
    ∃ v' w', (∀ ty, (Builtin.append_ #[25, 25] ty #[v, .slice (some ⟨w.heap.size, 0, none⟩) 1 1]).run Try.prog (w.alloc (.cells #[.int .i64 x] 3)) = .ok v' w') ∧ w'.ownsRow base 3 1 v' (n + 1) (xs ++ [.int .i64 x]) ∧ w.grownBy w' v.ownBlock ∧ (v'.ownBlock = v.ownBlock ∨ ∃ g, v'.ownBlock = some g ∧ w.heap.size ≤ g) := by
  obtain ⟨i0, hi, hz0, hz1, hz2⟩ := infoI
  obtain ⟨g, cap, w', h1, h2, h3, h4, _⟩ := run_append_lies (P := Try.prog) (w := w.alloc (.cells #[.int .i64 x] 3)) 25 0 base 3 i0 _ 1 8 Try.underlying25 hi hz0 hz1 hz2 rfl (by decide) v n xs (hown.alloc _) ⟨w.heap.size, 0, none⟩ 1 1 [.int .i64 x] rfl (fun j u hj => by
      have hj2 : j = 0 := by
        have := (List.getElem?_eq_some_iff.1 hj).1
        simp at this; omega
      subst hj2
      rw [add_plain']
      simp at hj; subst hj; simp) (fun u hu => by simp at hu; subst hu; rfl) (by omega) (by unfold maxLen; omega) (by omega) (by simp; omega) _ rfl
  refine ⟨_, w', fun _ => h1, h2, ?_, ?_⟩
  · have hg := World.grownBy_alloc w (.cells #[.int .i64 x] 3) v.ownBlock
    exact ⟨h3.os.trans hg.os, h3.tape.trans hg.tape, h3.output.trans hg.output, Nat.le_trans hg.size h3.size, fun b hb hne => (h3.block b (Nat.lt_of_lt_of_le hb hg.size) hne).trans (hg.block b hb hne)⟩
  · rcases h4 with h4 | h4
    · exact Or.inl (by rw [h4]; rfl)
    · exact Or.inr ⟨g, rfl, by rw [h4]; simp⟩
theorem thoseTo_le (l : List Bool) (so : Bool) (k : Nat) : (Ma.thoseTo l so k).length ≤ k := by
  unfold Ma.thoseTo
  rw [List.length_map]
  exact Nat.le_trans (List.length_filter_le _ _) (by simp)
theorem thoseTo_all (l : List Bool) (so : Bool) : Ma.thoseTo l so l.length = Ma.those l so := rfl
set_option maxRecDepth 100000 in
set_option maxHeartbeats 2000000 in
theorem th_any {a : Option Addr} {N c : Nat} {l : List Bool} {so : Bool} {w : World} (hl : l.length = N) (hN : N ≤ 8) (ha : BRow w a l) :
    Calls Try.prog 31 #[.slice a N c, .bool so] w fun e w' => ∃ v, e = .returned v ∧ Below w.heap.size w w' ∧ w'.ownsRow w.heap.size 3 1 v (Ma.those l so).length (ints (Ma.those l so)) := by
  have HA := hide ha
  have HL := hide hl
  have HE : Hid (Ma.thoseTo l so N = Ma.those l so) := hide (by rw [← hl]; rfl)
  clear ha hl
  go_enter Try.func31, Try.ntmps31
  go_wp2_with fail
  go_loopw [5, 6, 7, 10] (fun v _ _ s wr => ∃ (k : Nat), s = .int .i64 k ∧ k ≤ N ∧ Hid (wr.ownsRow w.heap.size 3 1 v (Ma.thoseTo l so k).length (ints (Ma.thoseTo l so k))) ∧ Hid (Below w.heap.size w wr)) (fun _ _ _ s _ => N - (intOf s).toNat)
  case atStart => exact ⟨0, rfl, Nat.zero_le _, hide (World.ownsRow_nil _ _ _ _), hide (Below.refl _ _)⟩
  case round =>
    obtain ⟨k, rfl, hk, HO, HB⟩ := hrel
    by_cases hlt : k < N
    · obtain ⟨b, off, rfl, _, r1⟩ := (HA.out.below HB.out).at (i := k) (by rw [HL.out]; exact hlt)
      have i0 : (0 : Int) ≤ (k : Int) := by omega
      have i1 : (k : Int) < (N : Int) := by omega
      have HS := hide (Ma.thoseTo_step l so k)
      generalize l.getD k false = x at *
      cases hx : (x == so)
      · have HO2 : Hid (wr.ownsRow w.heap.size 3 1 u5 (Ma.thoseTo l so (k + 1)).length (ints (Ma.thoseTo l so (k + 1)))) := hide (by rw [HS.out, hx]; exact HO.out)
        go_wp2_with fail
        go_roundw
        case rel => exact ⟨k + 1, by go_num, by omega, HO2, HB⟩
        case measure => simp only [intOf]; omega
      · obtain ⟨v', w3, hr3, own3, hg3, _⟩ := push_int8 (x := (k : Int)) HO.out (by have := thoseTo_le l so k; omega) HB.out.size
        have HO3 : Hid (w3.ownsRow w.heap.size 3 1 v' (Ma.thoseTo l so (k + 1)).length (ints (Ma.thoseTo l so (k + 1)))) := hide (by
          rw [HS.out, hx, if_pos rfl, List.length_append, ints_snoc]; exact own3)
        have HB3 := hide (HB.out.trans (grown_under' hg3 HO.out (Nat.le_refl _) HB.out.size))
        clear own3 hg3
        go_wp2_with (first | (at_builtin; refine Lib.wpList_append_run _ rfl _ _ _ _ rfl _ _ rfl rfl _ _ (hr3 _) ?_))
        go_roundw
        case rel => exact ⟨k + 1, by go_num, by omega, HO3, HB3⟩
        case measure => simp only [intOf]; omega
    · have hke : k = N := by omega
      subst hke
      have HF : Hid (wr.ownsRow w.heap.size 3 1 u5 (Ma.those l so).length (ints (Ma.those l so))) := hide (by rw [← HE.out]; exact HO.out)
      go_wp2_with fail
      go_ret
      exact ⟨u5, rfl, HB.out, HF.out⟩
/-- What CoverOf and LackOf answer. -/
def cvA (F : List (List Bool)) : List Int := if Ma.goodB F then Ma.those (Ma.rL F (Ma.mat F)) false else []
def cvB (F : List (List Bool)) : List Int := if Ma.goodB F then Ma.those (Ma.rB F (Ma.mat F)) true else []
def lkL (F : List (List Bool)) : List Int := if Ma.goodB F then Ma.those (Ma.rL F (Ma.mat F)) true else []
theorem those_le (l : List Bool) (so : Bool) : (Ma.those l so).length ≤ l.length := thoseTo_le l so l.length
theorem cvA_le (F : List (List Bool)) : (cvA F).length ≤ 1048576 := by
  unfold cvA
  cases hg : Ma.goodB F
  · simp
  · rw [if_pos rfl]; have := those_le (Ma.rL F (Ma.mat F)) false; rw [Ma.rL_len] at this; have := Ma.goodB_len hg; omega
theorem cvB_le (F : List (List Bool)) : (cvB F).length ≤ 1048576 := by
  unfold cvB
  cases hg : Ma.goodB F
  · simp
  · rw [if_pos rfl]; have := those_le (Ma.rB F (Ma.mat F)) true; rw [Ma.rB_len] at this; have := Ma.goodB_bins hg; omega
theorem lkL_le (F : List (List Bool)) : (lkL F).length ≤ 1048576 := by
  unfold lkL
  cases hg : Ma.goodB F
  · simp
  · rw [if_pos rfl]; have := those_le (Ma.rL F (Ma.mat F)) true; rw [Ma.rL_len] at this; have := Ma.goodB_len hg; omega
theorem dj_swap {v v' : Value} (h : v.ownBlock = none ∨ v.ownBlock ≠ v'.ownBlock) : v'.ownBlock = none ∨ v'.ownBlock ≠ v.ownBlock := by
  rcases h with h | h
  · cases e : v'.ownBlock with
    | none => exact Or.inl rfl
    | some g => right; rw [h]; simp
  · exact Or.inr (Ne.symm h)
theorem dj_later {w w' : World} {lo lo' n n' : Nat} {v v' : Value} {xs ys : List Value} (h : w.ownsRow lo 3 1 v n xs) (h' : w'.ownsRow lo' 3 1 v' n' ys) (hs : w.heap.size ≤ lo') : v.ownBlock = none ∨ v.ownBlock ≠ v'.ownBlock := by
  cases e : v.ownBlock with
  | none => exact Or.inl rfl
  | some g =>
    right
    intro e'
    have h1 := h.lt g e
    have h2 := h'.lt g e'.symm
    omega
set_option maxRecDepth 100000 in
set_option maxHeartbeats 2000000 in
theorem scv_w {a : Option Addr} {n c : Nat} {F : List (List Bool)} {w : World} (hn : F.length = n) (hl : n ≤ 1048576) (ha : GRow w a F) :
    Calls Try.prog 21 #[.slice a n c] w fun e w' => ∃ v0 v1, e = .returned (.tuple #[v0, v1, .bool (Ma.goodB F)]) ∧ Below w.heap.size w w' ∧ w'.ownsRow w.heap.size 3 1 v0 (cvA F).length (ints (cvA F)) ∧ w'.ownsRow w.heap.size 3 1 v1 (cvB F).length (ints (cvB F)) ∧ (v0.ownBlock = none ∨ v0.ownBlock ≠ v1.ownBlock) := by
  unfold cvA cvB
  have HA := hide ha
  have HN := hide hn
  cases hg : Ma.goodB F
  · have HG := hide hg
    clear ha hn hg
    go_enter Try.func21, Try.ntmps21
    go_wp2_with fail
    refine (sgf_eq HN hl HA HG).mono ?_
    rintro e w1 ⟨rfl, rfl⟩
    go_wp2_with fail
    go_ret3
    exact ⟨_, _, rfl, Below.refl _ _, World.ownsRow_nil _ _ _ _, World.ownsRow_nil _ _ _ _, Or.inl rfl⟩
  · have HG := hide hg
    have HC := hide (scm_any (c := c) hn rfl hg ha)
    have HL : Hid ((Ma.rL F (Ma.mat F)).length = n) := hide ((Ma.rL_len _ _).trans hn)
    have HL2 := hide (Ma.rB_len F (Ma.mat F))
    have n8 : n ≤ 8 := by rw [← hn]; exact Ma.goodB_len hg
    have hM8 := Ma.goodB_bins hg
    simp only [if_true]
    generalize Ma.rL F (Ma.mat F) = la at *
    generalize Ma.rB F (Ma.mat F) = lb at *
    generalize Ma.bins F = M at *
    clear ha hn hg
    go_enter Try.func21, Try.ntmps21
    go_wp2_with fail
    refine (sgf_eq HN hl HA HG).mono ?_
    rintro e w1 ⟨rfl, hw1⟩
    obtain rfl : w = w1 := hw1.symm
    go_wp2_with fail
    refine HC.out.mono ?_
    rintro e w1 ⟨X, Y, rfl, hb1, r1, r2⟩
    have HR1 := hide r1
    have HR2 := hide r2
    have HB1 := hide hb1
    have hs1 := hb1.size
    clear r1 r2 hb1 HC
    go_wp2_with fail
    refine (th_any HL.out n8 HR1.out).mono ?_
    rintro e w2 ⟨v0, rfl, hb2, own2⟩
    have HO2 := hide own2
    have HR2' := hide (HR2.out.below hb2)
    have HB2 := hide hb2
    have hs2 := hb2.size
    clear own2 hb2 HR1 HR2
    go_wp2_with fail
    refine (th_any HL2.out hM8 HR2'.out).mono ?_
    rintro e w3 ⟨v1, rfl, hb3, own3⟩
    have HO3 := hide own3
    have HB3 := hide hb3
    clear own3 hb3
    go_wp2_with fail
    go_ret3
    have hB12 := HB1.out.trans (HB2.out.mono hs1)
    exact ⟨v0, v1, rfl, hB12.trans (HB3.out.mono hB12.size), owns_low (g_own HO2.out HB3.out) hs1, owns_low HO3.out hB12.size, dj_later HO2.out HO3.out (Nat.le_refl _)⟩
set_option maxRecDepth 100000 in
set_option maxHeartbeats 2000000 in
theorem slk_w {a : Option Addr} {n c : Nat} {F : List (List Bool)} {w : World} (hn : F.length = n) (hl : n ≤ 1048576) (ha : GRow w a F) :
    Calls Try.prog 9 #[.slice a n c] w fun e w' => ∃ v0, e = .returned (.tuple #[v0, .bool (Ma.goodB F)]) ∧ Below w.heap.size w w' ∧ w'.ownsRow w.heap.size 3 1 v0 (lkL F).length (ints (lkL F)) := by
  unfold lkL
  have HA := hide ha
  have HN := hide hn
  cases hg : Ma.goodB F
  · have HG := hide hg
    clear ha hn hg
    go_enter Try.func9, Try.ntmps9
    go_wp2_with fail
    refine (sgf_eq HN hl HA HG).mono ?_
    rintro e w1 ⟨rfl, rfl⟩
    go_wp2_with fail
    go_ret2
    exact ⟨_, rfl, Below.refl _ _, World.ownsRow_nil _ _ _ _⟩
  · have HG := hide hg
    have HC := hide (scm_any (c := c) hn rfl hg ha)
    have HL : Hid ((Ma.rL F (Ma.mat F)).length = n) := hide ((Ma.rL_len _ _).trans hn)
    have n8 : n ≤ 8 := by rw [← hn]; exact Ma.goodB_len hg
    simp only [if_true]
    generalize Ma.rL F (Ma.mat F) = la at *
    generalize Ma.rB F (Ma.mat F) = lb at *
    generalize Ma.bins F = M at *
    clear ha hn hg
    go_enter Try.func9, Try.ntmps9
    go_wp2_with fail
    refine (sgf_eq HN hl HA HG).mono ?_
    rintro e w1 ⟨rfl, hw1⟩
    obtain rfl : w = w1 := hw1.symm
    go_wp2_with fail
    refine HC.out.mono ?_
    rintro e w1 ⟨X, Y, rfl, hb1, r1, r2⟩
    have HR1 := hide r1
    have HB1 := hide hb1
    have hs1 := hb1.size
    clear r1 r2 hb1 HC
    go_wp2_with fail
    refine (th_any HL.out n8 HR1.out).mono ?_
    rintro e w2 ⟨v0, rfl, hb2, own2⟩
    have HO2 := hide own2
    have HB2 := hide hb2
    clear own2 hb2 HR1
    go_wp2_with fail
    go_ret2
    exact ⟨v0, rfl, HB1.out.trans (HB2.out.mono hs1), owns_low HO2.out hs1⟩
end Go.Proofs.Ytfmdahpldjkifaa
