/-
  What binsIn, GoodFits, CountIn, IsMatching and IsCover answer, the program's and the model's; where a number lies in a list.
-/
import Derived.Test.YtfmdahpldjkifaaJc
import Derived.BigQuiet
namespace Go.Proofs.Ytfmdahpldjkifaa
open Go.RowKit

set_option maxRecDepth 100000 in
set_option maxHeartbeats 1000000 in
theorem ix_any {a : Option Addr} {n c : Nat} {xs : List Int} {x : Int} {w : World} (hx : xs.length = n) (hn : n ≤ 1048576) (ha : ARow w a xs) :
    Calls Try.prog 49 #[.slice a n c, .int .i64 x] w fun e w' => e = .returned (.int .i64 (Ma.idx xs x)) ∧ w' = w := by
  have HA := hide ha
  have HX := hide hx
  clear ha hx
  go_enter Try.func49, Try.ntmps49
  go_wp2_with fail
  go_loop [4, 5, 8] (fun s4 _ s => ∃ (k : Nat), s4 = .int .i64 0 ∧ s = .int .i64 k ∧ k ≤ n ∧ Hid (∀ j, j < k → (xs.getD j 0 == x) = false)) (fun _ _ s => n - (intOf s).toNat)
  case atStart => exact ⟨0, rfl, rfl, Nat.zero_le _, hide fun i hi => absurd hi (Nat.not_lt_zero _)⟩
  case round =>
    obtain ⟨k, rfl, rfl, hk, HK⟩ := hrel
    by_cases hlt : k < n
    · obtain ⟨b, off, rfl, r1⟩ := HA.out.at (i := k) (by rw [HX.out]; exact hlt)
      have i0 : (0 : Int) ≤ (k : Int) := by omega
      have i1 : (k : Int) < (n : Int) := by omega
      have HY := hide fun (h : (xs.getD k 0 == x) = true) => Ma.idx_at (show k < xs.length by rw [HX.out]; exact hlt) h HK.out
      generalize hy : xs.getD k 0 = y at *
      cases hb : (y == x)
      · have hb' : (x == y) = false := by rw [beq_eq_false_iff_ne] at hb ⊢; exact fun e => hb e.symm
        have H1 : Hid (∀ j, j < k + 1 → (xs.getD j 0 == x) = false) := hide fun j hj => by
          by_cases e : j = k
          · subst e; rw [hy]; exact hb
          · exact HK.out j (by omega)
        clear hy
        go_wp2_with fail
        go_round
        case rel => exact ⟨k + 1, rfl, by go_num, by omega, H1⟩
        case measure => simp only [intOf]; omega
      · have hb' : (x == y) = true := by rw [beq_iff_eq] at hb ⊢; exact hb.symm
        have H1 := hide (HY.out hb)
        clear hy
        go_wp2_with fail
        go_ret
        exact ⟨ret_int H1.out.symm, rfl⟩
    · have hke : k = n := by omega
      subst hke
      have H1 := hide (Ma.idx_none (xs := xs) (x := x) (by rw [HX.out]; exact HK.out))
      go_wp2_with fail
      go_ret
      exact ⟨ret_int H1.out.symm, rfl⟩
set_option maxRecDepth 100000 in
set_option maxHeartbeats 1000000 in
theorem con_any {a : Option Addr} {n c : Nat} {xs : List Int} {x : Int} {w : World} (hx : xs.length = n) (hn : n ≤ 1048576) (ha : ARow w a xs) :
    Calls Try.prog 41 #[.slice a n c, .int .i64 x] w fun e w' => e = .returned (.bool (xs.contains x)) ∧ w' = w := by
  have HC := hide (ix_any (c := c) (x := x) hx hn ha)
  have HE := hide (Ma.idx_has xs x)
  generalize Ma.idx xs x = q at *
  clear ha hx
  go_enter Try.func41, Try.ntmps41
  go_wp2_with fail
  refine HC.out.mono ?_
  rintro e w1 ⟨rfl, rfl⟩
  go_wp2_with fail
  go_ret
  exact ⟨ret_bool HE.out, rfl⟩
theorem con_eq {a : Option Addr} {n c : Nat} {xs : List Int} {x : Int} {w : World} {r : Bool} (hx : Hid (xs.length = n)) (hn : n ≤ 1048576) (ha : Hid (ARow w a xs)) (h : Hid (xs.contains x = r)) :
    Calls Try.prog 41 #[.slice a n c, .int .i64 x] w fun e w' => e = .returned (.bool r) ∧ w' = w := h.out ▸ con_any hx.out hn ha.out
theorem hasn_eq {F : List (List Bool)} {n : Nat} (h : F.length = n) (h0 : n = 0) : Ma.bins F = 0 := by
  have : F = [] := List.length_eq_zero_iff.1 (h.trans h0)
  subst this; rfl
theorem GRow.zero {w : World} {a : Option Addr} {F : List (List Bool)} (h : GRow w a F) (h0 : 0 < F.length) : ∃ b off a0 c0, a = some ⟨b, off, none⟩ ∧ b < w.heap.size ∧ w.cell? ⟨b, off, none⟩ = some (.slice a0 (Ma.bins F) c0) := by
  obtain ⟨b, off, ai, ci, h1, h2, h3, _⟩ := h.at h0
  exact ⟨b, off, ai, ci, h1, h2, h3⟩
set_option maxRecDepth 100000 in
set_option maxHeartbeats 1000000 in
theorem bi_any {a : Option Addr} {n c : Nat} {F : List (List Bool)} {w : World} (hn : F.length = n) (h : GRow w a F) :
    Calls Try.prog 32 #[.slice a n c] w fun e w' => e = .returned (.int .i64 (Ma.bins F)) ∧ w' = w := by
  by_cases h0 : n = 0
  · have HE := hide (hasn_eq hn h0)
    subst h0
    clear h hn
    go_enter Try.func32, Try.ntmps32
    go_wp2_with fail
    go_ret
    exact ⟨ret_int (by rw [HE.out]; rfl), rfl⟩
  · obtain ⟨b, off, a0, c0, rfl, _, hc⟩ := h.zero (by omega)
    have i0 : ((n : Int) == 0) = false := by simp; omega
    have i1 : (0 : Int) < (n : Int) := by omega
    generalize Ma.bins F = m at *
    clear h hn
    go_enter Try.func32, Try.ntmps32
    go_wp2_with fail
    go_ret
    exact ⟨rfl, rfl⟩
set_option maxRecDepth 100000 in
set_option maxHeartbeats 1000000 in
theorem sbi_any {a : Option Addr} {n c : Nat} {F : List (List Bool)} {w : World} (hn : F.length = n) (h : GRow w a F) :
    Calls Try.prog 44 #[.slice a n c] w fun e w' => e = .returned (.int .i64 (Ma.bins F)) ∧ w' = w := by
  by_cases h0 : n = 0
  · have HE := hide (hasn_eq hn h0)
    subst h0
    clear h hn
    go_enter Try.func44, Try.ntmps44
    go_wp2_with fail
    go_ret
    exact ⟨ret_int (by rw [HE.out]; rfl), rfl⟩
  · obtain ⟨b, off, a0, c0, rfl, _, hc⟩ := h.zero (by omega)
    have i0 : ((n : Int) == 0) = false := by simp; omega
    have i1 : (0 : Int) < (n : Int) := by omega
    generalize Ma.bins F = m at *
    clear h hn
    go_enter Try.func44, Try.ntmps44
    go_wp2_with fail
    go_ret
    exact ⟨rfl, rfl⟩
set_option maxRecDepth 100000 in
set_option maxHeartbeats 2000000 in
theorem gf_any {a : Option Addr} {n c : Nat} {F : List (List Bool)} {w : World} (hn : F.length = n) (h : GRow w a F) :
    Calls Try.prog 11 #[.slice a n c] w fun e w' => e = .returned (.bool (Ma.goodB F)) ∧ w' = w := by
  have HC := hide (bi_any (c := c) hn h)
  have HN := hide hn
  have H := hide h
  by_cases h8 : n ≤ 8
  · by_cases hb8 : Ma.bins F ≤ 8
    · have HNOT := hide fun (l : Nat) (hl : l < F.length) (hh : (F.getD l []).length ≠ Ma.bins F ∨ 8 < (F.getD l []).length) => Ma.goodB_not hl hh
      have HOF := hide (@Ma.goodB_of F)
      have i0 : ¬ (8 : Int) < (n : Int) := by omega
      have i1 : ¬ (8 : Int) < (Ma.bins F : Int) := by omega
      generalize Ma.bins F = m at *
      clear h hn
      go_enter Try.func11, Try.ntmps11
      go_wp2_with fail
      refine HC.out.mono ?_
      rintro e w1 ⟨rfl, hw1⟩
      obtain rfl : w = w1 := hw1.symm
      go_wp2_with fail
      go_loop [2, 5, 17] (fun s2 _ s => ∃ (k : Nat), s2 = .bool false ∧ s = .int .i64 k ∧ k ≤ n ∧ Hid (∀ i, i < k → (F.getD i []).length = m)) (fun _ _ s => n - (intOf s).toNat)
      case atStart => exact ⟨0, rfl, rfl, Nat.zero_le _, hide fun i hi => absurd hi (Nat.not_lt_zero _)⟩
      case round =>
        obtain ⟨k, rfl, rfl, hk, HK⟩ := hrel
        by_cases hlt : k < n
        · obtain ⟨b, off, ai, ci, rfl, hb, r1, _⟩ := H.out.at (i := k) (by rw [HN.out]; exact hlt)
          have j0 : (0 : Int) ≤ (k : Int) := by omega
          have j1 : (k : Int) < (n : Int) := by omega
          have HX := hide (rfl : (F.getD k []).length = (F.getD k []).length)
          generalize hq : (F.getD k []).length = q at r1
          by_cases e : q = m
          · subst e
            have he : ((q : Int) != (q : Int)) = false := by simp
            have H1 : Hid (∀ i, i < k + 1 → (F.getD i []).length = q) := hide fun i hi => by
              by_cases e : i = k
              · subst e; exact hq
              · exact HK.out i (by omega)
            clear hq
            go_wp2_with fail
            go_round
            case rel => exact ⟨k + 1, rfl, by go_num, by omega, H1⟩
            case measure => simp only [intOf]; omega
          · have he : ((q : Int) != (m : Int)) = true := by simp; omega
            have H1 := hide (HNOT.out _ (by rw [HN.out]; exact hlt) (Or.inl (by rw [hq]; exact e)))
            clear hq
            go_wp2_with fail
            go_ret
            exact ⟨ret_bool H1.out.symm, rfl⟩
        · have hke : k = n := by omega
          subst hke
          have H1 := hide (HOF.out (by rw [HN.out]; exact h8) (fun l hl => ⟨HK.out l (by rw [← HN.out]; exact hl), by have := HK.out l (by rw [← HN.out]; exact hl); omega⟩))
          go_wp2_with fail
          go_ret
          exact ⟨ret_bool H1.out.symm, rfl⟩
    · have HE := hide (Ma.goodB_wide (F := F) (by omega))
      have i0 : ¬ (8 : Int) < (n : Int) := by omega
      have i1 : (8 : Int) < (Ma.bins F : Int) := by omega
      generalize Ma.bins F = m at *
      clear h hn
      go_enter Try.func11, Try.ntmps11
      go_wp2_with fail
      refine HC.out.mono ?_
      rintro e w1 ⟨rfl, rfl⟩
      go_wp2_with fail
      go_ret
      exact ⟨ret_bool HE.out.symm, rfl⟩
  · have HE := hide (Ma.goodB_many (F := F) (by omega))
    have i0 : (8 : Int) < (n : Int) := by omega
    generalize Ma.bins F = m at *
    clear h hn
    go_enter Try.func11, Try.ntmps11
    go_wp2_with fail
    refine HC.out.mono ?_
    rintro e w1 ⟨rfl, rfl⟩
    go_wp2_with fail
    go_ret
    exact ⟨ret_bool HE.out.symm, rfl⟩
theorem gf_eq {a : Option Addr} {n c : Nat} {F : List (List Bool)} {w : World} {r : Bool} (hn : Hid (F.length = n)) (h : Hid (GRow w a F)) (hr : Hid (Ma.goodB F = r)) :
    Calls Try.prog 11 #[.slice a n c] w fun e w' => e = .returned (.bool r) ∧ w' = w := hr.out ▸ gf_any hn.out h.out
set_option maxRecDepth 100000 in
set_option maxHeartbeats 2000000 in
theorem sgf_any {a : Option Addr} {n c : Nat} {F : List (List Bool)} {w : World} (hn : F.length = n) (hl : n ≤ 1048576) (h : GRow w a F) :
    Calls Try.prog 27 #[.slice a n c] w fun e w' => e = .returned (.bool (Ma.goodB F)) ∧ w' = w := by
  have HN := hide hn
  have H := hide h
  have HNOT := hide fun (l : Nat) (hl : l < F.length) (hh : (F.getD l []).length ≠ Ma.bins F ∨ 8 < (F.getD l []).length) => Ma.goodB_not hl hh
  have HOF := hide (@Ma.goodB_of F)
  have HMANY := hide (@Ma.goodB_many F)
  have HZ := hide (h.zero)
  generalize Ma.bins F = m at *
  clear h hn
  go_enter Try.func27, Try.ntmps27
  go_wp2_with fail
  go_loop [2, 4, 7] (fun s2 _ s => ∃ (k : Nat), s2 = .bool false ∧ s = .int .i64 k ∧ k ≤ n ∧ Hid (∀ i, i < k → (F.getD i []).length = m ∧ (F.getD i []).length ≤ 8)) (fun _ _ s => n - (intOf s).toNat)
  case atStart => exact ⟨0, rfl, rfl, Nat.zero_le _, hide fun i hi => absurd hi (Nat.not_lt_zero _)⟩
  case round =>
    obtain ⟨k, rfl, rfl, hk, HK⟩ := hrel
    by_cases hlt : k < n
    · obtain ⟨b, off, ai, ci, rfl, hb, r1, _⟩ := H.out.at (i := k) (by rw [HN.out]; exact hlt)
      obtain ⟨b', off', a0, c0, e0, _, r0⟩ := HZ.out (by rw [HN.out]; omega)
      cases e0
      have j0 : (0 : Int) ≤ (k : Int) := by omega
      have j1 : (k : Int) < (n : Int) := by omega
      have j2 : (0 : Int) < (n : Int) := by omega
      generalize hq : (F.getD k []).length = q at r1
      by_cases e : q = m
      · subst e
        have he : ((q : Int) != (q : Int)) = false := by simp
        by_cases e8 : q ≤ 8
        · have i8 : ¬ (8 : Int) < (q : Int) := by omega
          have H1 : Hid (∀ i, i < k + 1 → (F.getD i []).length = q ∧ (F.getD i []).length ≤ 8) := hide fun i hi => by
            by_cases e : i = k
            · subst e; exact ⟨hq, by omega⟩
            · exact HK.out i (by omega)
          clear hq
          go_wp2_with fail
          go_round
          case rel => exact ⟨k + 1, rfl, by go_num, by omega, H1⟩
          case measure => simp only [intOf]; omega
        · have i8 : (8 : Int) < (q : Int) := by omega
          have H1 := hide (HNOT.out _ (by rw [HN.out]; exact hlt) (Or.inr (by rw [hq]; omega)))
          clear hq
          go_wp2_with fail
          go_ret
          exact ⟨ret_bool H1.out.symm, rfl⟩
      · have he : ((q : Int) != (m : Int)) = true := by simp; omega
        have H1 := hide (HNOT.out _ (by rw [HN.out]; exact hlt) (Or.inl (by rw [hq]; exact e)))
        clear hq
        go_wp2_with fail
        go_ret
        exact ⟨ret_bool H1.out.symm, rfl⟩
    · have hke : k = n := by omega
      subst hke
      by_cases h8 : k ≤ 8
      · have H1 := hide (HOF.out (by rw [HN.out]; exact h8) (fun l hl => HK.out l (by rw [← HN.out]; exact hl)))
        have i8 : (k : Int) ≤ 8 := by omega
        go_wp2_with fail
        go_ret
        exact ⟨ret_bool H1.out.symm, rfl⟩
      · have H1 := hide (HMANY.out (by rw [HN.out]; omega))
        have i8 : ¬ (k : Int) ≤ 8 := by omega
        go_wp2_with fail
        go_ret
        exact ⟨ret_bool H1.out.symm, rfl⟩
theorem sgf_eq {a : Option Addr} {n c : Nat} {F : List (List Bool)} {w : World} {r : Bool} (hn : Hid (F.length = n)) (hl : n ≤ 1048576) (h : Hid (GRow w a F)) (hr : Hid (Ma.goodB F = r)) :
    Calls Try.prog 27 #[.slice a n c] w fun e w' => e = .returned (.bool r) ∧ w' = w := hr.out ▸ sgf_any hn.out hl h.out
end Go.Proofs.Ytfmdahpldjkifaa
