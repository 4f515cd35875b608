/-
  What HeronSteps answers, the program's (by goto) and the model's: the same list, in memory of its own.
-/
import Derived.Test.YtdmdhmcnedmnbaaXo
import Derived.Test.YtdmdhmcnedmnbaaXi
import Derived.OwnWalk
import Derived.Laws.AppendOwn
import Derived.WalkMore
import Derived.ScopeJumps
namespace Go.Proofs.Ytdmdhmcnedmnbaa
open Go.RowKit

theorem info3 : (Try.prog.info? 3).map (fun i => (i.zero, i.size, i.bytes)) = some (some (.int .i64 0), 1, 8) := by kernel_rfl

theorem one_row (w : World) (n : Int) : (w.alloc (.cells #[.int .i64 n] 3)).ownsRow w.heap.size 3 1 (.slice (some ⟨w.heap.size, 0, none⟩) 1 1) 1 (ints [n]) :=
  ⟨by simp [ints], .inr ⟨w.heap.size, 1, #[.int .i64 n], rfl, Nat.le_refl _, heap_alloc_new w _, Nat.le_refl _, by unfold maxLen; omega, rfl, by simp [ints]⟩⟩
theorem grow_below {w wr w4 : World} {o : Obj} {e n : Nat} {v : Value} {xs : List Value} (hB : Below w.heap.size w wr) (own : wr.ownsRow w.heap.size e 1 v n xs) (hg : (wr.alloc o).grownBy w4 v.ownBlock) : Below w.heap.size w w4 := by
  have hs := hB.size
  have hb : Below w.heap.size (wr.alloc o) w4 := ⟨hg.os, hg.tape, hg.output, hg.size, fun k hk => hg.block k (by simp; omega) (fun he => by
    have := own.lt k he.symm
    omega)⟩
  exact (hB.alloc hs o).trans hb

theorem one_new (w : World) (x : Int) : ∀ (j : Nat) (u : Value), ([.int .i64 x] : List Value)[j]? = some u → (w.alloc (.cells #[.int .i64 x] 3)).cell? ((⟨w.heap.size, 0, none⟩ : Addr).add j) = some u := by
  intro j u hj
  match j, hj with
  | 0, hj => simp at hj; subst hj; simp [Addr.add]
theorem one_cell (x : Int) : ∀ u ∈ ([.int .i64 x] : List Value), u.oneCell' = true := by
  intro u hu; simp at hu; subst hu; rfl
theorem le_alloc {w wr : World} {o : Obj} (h : w.heap.size ≤ wr.heap.size) : w.heap.size ≤ (wr.alloc o).heap.size := by simp; omega


set_option maxHeartbeats 400000 in
theorem sheron_no {n : Int} {w : World} (h : Rt.sqB n = false) :
    Calls Try.prog 24 #[.int .i64 n] w fun e w' => e = .returned (.tuple #[.slice none 0 0, .bool false]) ∧ w' = w := by
  go_enter Try.func24, Try.ntmps24
  go_wp2_with fail
  refine (sq2_no h).mono ?_
  rintro e w1 ⟨rfl, rfl⟩
  go_wp2_with fail
  go_ret2
  exact ⟨rfl, rfl⟩
set_option maxHeartbeats 400000 in
theorem sheron_zero {w : World} :
    Calls Try.prog 24 #[.int .i64 0] w fun e w' => e = .returned (.tuple #[.slice none 0 0, .bool false]) ∧ w' = w := by
  go_enter Try.func24, Try.ntmps24
  go_wp2_with fail
  refine (sq2_yes (by decide)).mono ?_
  rintro e w1 ⟨rfl, rfl⟩
  go_wp2_with fail
  go_ret2
  exact ⟨rfl, rfl⟩
set_option maxHeartbeats 1000000 in
set_option maxRecDepth 100000 in
theorem sheron_yes {n : Int} {w : World} (h : Rt.sqB n = true) (hn : 1 ≤ n) :
    Calls Try.prog 24 #[.int .i64 n] w fun e w' => ∃ v, e = .returned (.tuple #[v, .bool true]) ∧ Below w.heap.size w w' ∧ w'.ownsRow w.heap.size 3 1 v (Rt.from_ n n).length (ints (Rt.from_ n n)) := by
  obtain ⟨b0, b1⟩ := sqB_bd h
  have hne : (n == 0) = false := by simp; omega
  obtain ⟨i0, hi, hz0, hz1, hz2⟩ := info_parts info3
  go_enter Try.func24, Try.ntmps24
  go_wp2_with fail
  refine (sq2_yes h).mono ?_
  rintro e w1 ⟨rfl, hw⟩
  obtain rfl : w = w1 := hw.symm
  go_wp2_with fail
  go_loopw [4, 5] (fun s v wr => ∃ (x : Int) (ps : List Int), s = .int .i64 x ∧ 1 ≤ x ∧ x ≤ n ∧ (ps.length : Int) + x ≤ n ∧ wr.ownsRow w.heap.size 3 1 v (ps.length + 1) (ints (ps ++ [x])) ∧ Hid (ps ++ Rt.from_ n x = Rt.from_ n n) ∧ Below w.heap.size w wr) (fun s _ _ => (intOf s).toNat)
  case atStart => exact ⟨n, [], rfl, hn, by omega, by simp, one_row w n, hide rfl, (Below.refl _ _).alloc (Nat.le_refl _) _⟩
  case round =>
    obtain ⟨x, ps, rfl, hx0, hx1, hlen, hown, HE, hB⟩ := hrel
    obtain ⟨d0, d1⟩ := Rt.div_bd b0 hx0
    have HY := hide (show (x + n / x) / 2 = Rt.next n x from rfl)
    have hdt : n.tdiv x = n / x := Int.tdiv_eq_ediv_of_nonneg b0
    have HP := hide (Rt.next_pos hn hx0)
    have hs := hB.size
    generalize hd : n / x = d at *
    generalize hy : Rt.next n x = y at *
    have hxz : (x == 0) = false := by simp; omega
    have HYY := hide hy
    have HPP := HP.out
    have hyy := HY.out
    clear hd hy HY HP
    by_cases hlt : y < x
    · have HN := hide (Rt.from_step hn hx0 (HYY.out ▸ hlt))
      rw [HYY.out] at HN
      have hge : ¬ x ≤ y := by omega
      go_wp2_with (first
        | (at_builtin; refine wpList_append_own _ rfl _ _ 41 rfl w.heap.size 3 i0 (.int .i64 0) 1 8 Try.underlying41 hi hz0 hz1 hz2 rfl (by decide) _ _ _ rfl (hown.alloc _) ⟨wr.heap.size, 0, none⟩ 1 1 [.int .i64 y] rfl rfl (one_new _ _) (one_cell _) (by unfold maxLen; omega) (by omega) (le_alloc hs) ?_))
      · intro v' w4 hown' hgrow _
        go_wp2_with fail
        go_roundw
        case rel =>
          refine ⟨y, ps ++ [x], rfl, HPP, by omega, by simp; omega, ?_, hide ?_, ?_⟩
          · have : ints (ps ++ [x] ++ [y]) = ints (ps ++ [x]) ++ [.int .i64 y] := ints_snoc _ _
            rw [this]; simpa using hown'
          · rw [List.append_assoc, ← HE.out, HN.out]; rfl
          · exact grow_below hB hown hgrow
        case measure => simp only [intOf]; omega
    · have HN := hide (Rt.from_last (n := n) hx0 (HYY.out ▸ hlt))
      go_wp2_with fail
      go_ret2
      refine ⟨_, rfl, hB, ?_⟩
      have := HE.out
      rw [HN.out] at this
      rw [← this]; simpa using hown

set_option maxHeartbeats 400000 in
theorem heron_no {n : Int} {w : World} (h : Rt.sqB n = false) :
    Calls Try.prog 23 #[.int .i64 n] w fun e w' => e = .returned (.tuple #[.slice none 0 0, .bool false]) ∧ w' = w := by
  go_enter Try.func23, Try.ntmps23
  go_wp2_with fail
  go_step3
  go_wp2_with fail
  refine (has_no h).mono ?_
  rintro e w1 ⟨rfl, rfl⟩
  go_wp2_with fail
  rw [Exit.noGoto_ret]
  go_ret2
  exact ⟨rfl, rfl⟩
set_option maxHeartbeats 400000 in
theorem heron_zero {w : World} :
    Calls Try.prog 23 #[.int .i64 0] w fun e w' => e = .returned (.tuple #[.slice none 0 0, .bool false]) ∧ w' = w := by
  go_enter Try.func23, Try.ntmps23
  go_wp2_with fail
  go_step3
  go_wp2_with fail
  refine (has_yes (by decide)).mono ?_
  rintro e w1 ⟨rfl, rfl⟩
  go_wp2_with fail
  rw [Exit.noGoto_ret]
  go_ret2
  exact ⟨rfl, rfl⟩
set_option maxHeartbeats 1000000 in
set_option maxRecDepth 100000 in
theorem heron_yes {n : Int} {w : World} (h : Rt.sqB n = true) (hn : 1 ≤ n) :
    Calls Try.prog 23 #[.int .i64 n] w fun e w' => ∃ v, e = .returned (.tuple #[v, .bool true]) ∧ Below w.heap.size w w' ∧ w'.ownsRow w.heap.size 3 1 v (Rt.from_ n n).length (ints (Rt.from_ n n)) := by
  obtain ⟨b0, b1⟩ := sqB_bd h
  have hne : (n == 0) = false := by simp; omega
  obtain ⟨i0, hi, hz0, hz1, hz2⟩ := info_parts info3
  go_enter Try.func23, Try.ntmps23
  go_wp2_with fail
  refine wp_scope_jumps 0 (fun a' wr => ∃ (x : Int) (v : Value) (ps : List Int), 1 ≤ x ∧ x ≤ n ∧ (ps.length : Int) + x ≤ n ∧ wr.ownsRow w.heap.size 3 1 v ps.length (ints ps) ∧ Hid (ps ++ Rt.from_ n x = Rt.from_ n n) ∧ Below w.heap.size w wr ∧ ∃ u6 u15 u16 u17 u18 u19 u20 u21 u22 u23 u24 u25 u26 u27 u28 : Value, a' = { tmps := #[.int .i64 n, undef, .slice none 0 0, .bool false, v, .int .i64 x, u6, .int .i64 n, .bool true, .bool false, .bool false, .int .i64 n, .bool false, .bool false, .int .i64 n, u15, u16, u17, u18, u19, u20, u21, u22, u23, u24, u25, u26, u27, u28, undef], defers := [] }) (fun a' _ => (intOf (a'.tmps.getD 5 undef)).toNat) rfl ?_ ?_
  · go_wp2_with fail
    refine (has_yes h).mono ?_
    rintro e w1 ⟨rfl, hw⟩
    obtain rfl : w = w1 := hw.symm
    go_wp2_with fail
    go_step3
    obtain ⟨d0, d1⟩ := Rt.div_bd (n := n) (x := n) b0 hn
    have HY := hide (show (n + n / n) / 2 = Rt.next n n from rfl)
    have hdt : n.tdiv n = n / n := Int.tdiv_eq_ediv_of_nonneg b0
    have HP := hide (Rt.next_pos hn hn)
    have hs := (Below.refl w.heap.size w).size
    generalize hd : n / n = d at *
    generalize hy : Rt.next n n = y at *
    have hxz : (n == 0) = false := by simp; omega
    have HYY := hide hy
    have HPP := HP.out
    have hyy := HY.out
    clear hd hy HY HP
    by_cases hlt : y < n
    · have HN := hide (Rt.from_step hn hn (HYY.out ▸ hlt))
      rw [HYY.out] at HN
      go_wp2_with (first
        | (at_builtin; refine wpList_append_own _ rfl _ _ 41 rfl w.heap.size 3 i0 (.int .i64 0) 1 8 Try.underlying41 hi hz0 hz1 hz2 rfl (by decide) _ _ _ rfl ((World.ownsRow_nil w w.heap.size 3 1).alloc _) ⟨w.heap.size, 0, none⟩ 1 1 [.int .i64 n] rfl rfl (one_new _ _) (one_cell _) (by unfold maxLen; omega) (by omega) (le_alloc hs) ?_))
      · intro v' w4 hown' hgrow _
        go_wp2_with fail
        go_step3
        rw [hyy]
        refine ⟨rfl, y, v', [n], HPP, by omega, by simp; omega, ?_, hide ?_, ?_, _, _, _, _, _, _, _, _, _, _, _, _, _, _, _, rfl⟩
        · simpa [ints_snoc, ints] using hown'
        · rw [HN.out]; rfl
        · exact grow_below (Below.refl w.heap.size w) (World.ownsRow_nil w w.heap.size 3 1) hgrow
    · have HN := hide (Rt.from_last (n := n) hn (HYY.out ▸ hlt))
      go_wp2_with (first
        | (at_builtin; refine wpList_append_own _ rfl _ _ 41 rfl w.heap.size 3 i0 (.int .i64 0) 1 8 Try.underlying41 hi hz0 hz1 hz2 rfl (by decide) _ _ _ rfl ((World.ownsRow_nil w w.heap.size 3 1).alloc _) ⟨w.heap.size, 0, none⟩ 1 1 [.int .i64 n] rfl rfl (one_new _ _) (one_cell _) (by unfold maxLen; omega) (by omega) (le_alloc hs) ?_))
      · intro v' w4 hown' hgrow _
        go_wp2_with fail
        simp only [Exit.jump]
        go_ret2
        refine ⟨_, rfl, grow_below (Below.refl w.heap.size w) (World.ownsRow_nil w w.heap.size 3 1) hgrow, ?_⟩
        rw [HN.out]
        simpa [ints_snoc, ints] using hown'
  · rintro a' wr ⟨x, v, ps, hx0, hx1, hlen, hown, HE, hB, u6, u15, u16, u17, u18, u19, u20, u21, u22, u23, u24, u25, u26, u27, u28, rfl⟩
    obtain ⟨d0, d1⟩ := Rt.div_bd (n := n) (x := x) b0 hx0
    have HY := hide (show (x + n / x) / 2 = Rt.next n x from rfl)
    have hdt : n.tdiv x = n / x := Int.tdiv_eq_ediv_of_nonneg b0
    have HP := hide (Rt.next_pos hn hx0)
    have hs := hB.size
    generalize hd : n / x = d at *
    generalize hy : Rt.next n x = y at *
    have hxz : (x == 0) = false := by simp; omega
    have HYY := hide hy
    have HPP := HP.out
    have hyy := HY.out
    clear hd hy HY HP
    by_cases hlt : y < x
    · have HN := hide (Rt.from_step hn hx0 (HYY.out ▸ hlt))
      rw [HYY.out] at HN
      go_wp2_with (first
        | (at_builtin; refine wpList_append_own _ rfl _ _ 41 rfl w.heap.size 3 i0 (.int .i64 0) 1 8 Try.underlying41 hi hz0 hz1 hz2 rfl (by decide) _ _ _ rfl (hown.alloc _) ⟨wr.heap.size, 0, none⟩ 1 1 [.int .i64 x] rfl rfl (one_new _ _) (one_cell _) (by unfold maxLen; omega) (by omega) (le_alloc hs) ?_))
      · intro v' w4 hown' hgrow _
        go_wp2_with fail
        go_step3
        rw [hyy]
        refine ⟨rfl, ⟨y, v', ps ++ [x], HPP, by omega, by simp; omega, ?_, hide ?_, ?_, _, _, _, _, _, _, _, _, _, _, _, _, _, _, _, rfl⟩, ?_⟩
        · simpa [ints_snoc, ints] using hown'
        · rw [List.append_assoc, ← HE.out, HN.out]; rfl
        · exact grow_below hB hown hgrow
        · simp only [intOf, Array.getD]; simp; omega
    · have HN := hide (Rt.from_last (n := n) hx0 (HYY.out ▸ hlt))
      go_wp2_with (first
        | (at_builtin; refine wpList_append_own _ rfl _ _ 41 rfl w.heap.size 3 i0 (.int .i64 0) 1 8 Try.underlying41 hi hz0 hz1 hz2 rfl (by decide) _ _ _ rfl (hown.alloc _) ⟨wr.heap.size, 0, none⟩ 1 1 [.int .i64 x] rfl rfl (one_new _ _) (one_cell _) (by unfold maxLen; omega) (by omega) (le_alloc hs) ?_))
      · intro v' w4 hown' hgrow _
        go_wp2_with fail
        simp only [Exit.jump]
        go_ret2
        refine ⟨_, rfl, grow_below hB hown hgrow, ?_⟩
        have := HE.out
        rw [HN.out] at this
        rw [← this]
        simpa [ints_snoc, ints] using hown'
end Go.Proofs.Ytdmdhmcnedmnbaa
