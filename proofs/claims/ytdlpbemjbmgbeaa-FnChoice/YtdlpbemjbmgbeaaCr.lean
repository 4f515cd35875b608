/-
  Offers put behind one another (the library's Concat and Grow, as in Cd).
-/
import Derived.Test.YtdlpbemjbmgbeaaCm
namespace Go.Proofs.Ytdlpbemjbmgbeaa
open Go.RowKit

theorem infoO : ∃ i, Try.prog.info? 36 = some i ∧ i.zero = some (.agg #[.slice none 0 0]) ∧ i.size = 1 ∧ i.bytes = 24 := by
  have h : (Try.prog.info? 36).map (fun i => (i.zero, i.size, i.bytes)) = some (some (.agg #[.slice none 0 0]), 1, 24) := by kernel_rfl
  obtain ⟨i, hi, hzz⟩ := Option.map_eq_some_iff.1 h
  simp only [Prod.mk.injEq] at hzz
  exact ⟨i, hi, hzz.1, hzz.2.1, hzz.2.2⟩

set_option maxRecDepth 100000 in
set_option maxHeartbeats 1000000 in
theorem grow_zeroO (w : World) :
    Calls Try.prog 51 #[.slice none 0 0, .int .i64 0] w fun e w' => e = .returned (.slice none 0 0) ∧ w' = w := by
  go_enter Try.func51, Try.ntmps51
  go_wp2_with fail
  go_ret
  exact ⟨rfl, rfl⟩
set_option maxRecDepth 100000 in
set_option maxHeartbeats 1000000 in
theorem grow_someO {n : Nat} {w : World} (h0 : 0 < n) (hn : n ≤ 4000000) :
    Calls Try.prog 51 #[.slice none 0 0, .int .i64 n] w fun e w' => ∃ v, e = .returned v ∧ w'.ownsRow w.heap.size 36 1 v 0 [] ∧ Below w.heap.size w w' := by
  obtain ⟨i0, hi, hz0, hz1, hz2⟩ := infoO
  have hr := fun ty => Lib.run_append_nil_zeros (P := Try.prog) w 23 3 ty 36 i0 (.agg #[.slice none 0 0]) .i64 .i64 Try.underlying23 Try.underlying3 hi hz0 n h0 (by rw [hz1]; decide) (by omega) (by rw [hz2]; omega)
  have HO := hide (grown_zero_own w n hn 36 (.agg #[.slice none 0 0]) rfl)
  have HB : Hid (Below w.heap.size w (w.drew.alloc (.cells (Builtin.zeroCells (Value.agg #[.slice none 0 0]).cells n ++ Builtin.zeroCells (Value.agg #[.slice none 0 0]).cells (grownCap w n 0 36 - n)) 36))) := hide ((below_drewN (Below.refl _ _) 1).alloc (Nat.le_refl _) _)
  generalize hW : w.drew.alloc (.cells (Builtin.zeroCells (Value.agg #[.slice none 0 0]).cells n ++ Builtin.zeroCells (Value.agg #[.slice none 0 0]).cells (grownCap w n 0 36 - n)) 36) = W at *
  generalize grownCap w n 0 36 = cap at *
  have h1 : (0 : Int) < n := by omega
  have h2 : ¬ (n : Int) < 0 := by omega
  clear hW
  go_enter Try.func51, Try.ntmps51
  go_wp2_with (first | (at_builtin; refine Lib.wpList_append_run _ rfl _ _ _ _ rfl _ _ rfl rfl _ _ (hr _) ?_))
  go_ret
  exact ⟨_, rfl, HO.out, HB.out⟩
theorem grow_anyO {n : Nat} {w : World} (hn : n ≤ 4000000) :
    Calls Try.prog 51 #[.slice none 0 0, .int .i64 n] w fun e w' => ∃ v, e = .returned v ∧ w'.ownsRow w.heap.size 36 1 v 0 [] ∧ Below w.heap.size w w' := by
  by_cases h : n = 0
  · subst h
    refine (grow_zeroO w).mono ?_
    rintro e w' ⟨rfl, rfl⟩
    exact ⟨_, rfl, World.ownsRow_nil _ _ _ _, Below.refl _ _⟩
  · exact grow_someO (by omega) hn

set_option maxRecDepth 100000 in
set_option maxHeartbeats 2000000 in
theorem concat_anyO {B m c N : Nat} {LL : List (List Value)} {w : World} (hm : LL.length = m) (hm' : m ≤ 1000) (hN : LL.flatten.length = N) (hN' : N ≤ 1000000) (h1 : ∀ i, i < m → ∀ u ∈ LL.getD i [], u.oneCell' = true) (h : VVRow w B LL) :
    Calls Try.prog 47 #[.slice (some ⟨B, 0, none⟩) m c] w fun e w' => ∃ v, e = .returned v ∧ w'.ownsRow w.heap.size 36 1 v N LL.flatten ∧ Below w.heap.size w w' := by
  obtain ⟨i0, hi, hz0, hz1, hz2⟩ := infoO
  have H := hide h
  have HM := hide hm
  have HN := hide hN
  have H1 := hide h1
  clear h hm hN h1
  go_enter Try.func47, Try.ntmps47
  go_wp2_with fail
  go_loop [3, 5, 11] (fun s3 _ s => ∃ (k q : Nat), s3 = .int .i64 q ∧ s = .int .i64 k ∧ k ≤ m ∧ Hid (q = (LL.take k).flatten.length) ∧ q ≤ 1000000) (fun _ _ s => m - (intOf s).toNat)
  case atStart => exact ⟨0, 0, rfl, rfl, Nat.zero_le _, hide (by simp), by omega⟩
  case round =>
    obtain ⟨k, q, rfl, rfl, hk, HQ, hq⟩ := hrel
    by_cases hlt : k < m
    · obtain ⟨ai, ci, r1, _⟩ := H.out k (by rw [HM.out]; exact hlt)
      have e1 := flat_take LL (k := k) (by rw [HM.out]; exact hlt)
      have e2 := flat_le LL (k + 1)
      have HQ2 : Hid (q + (LL.getD k []).length = (LL.take (k + 1)).flatten.length ∧ q + (LL.getD k []).length ≤ 1000000) := hide (by
        have := HQ.out
        have := HN.out
        rw [e1, List.length_append] at *
        omega)
      generalize (LL.getD k []).length = x at *
      have i0' : (0 : Int) ≤ (k : Int) := by omega
      have i1' : (k : Int) < (m : Int) := by omega
      have hx := HQ2.out.2
      have hx2 : ¬ (q : Int) + (x : Int) < 0 := by omega
      clear e1 e2
      go_wp2_with fail
      go_round
      case rel => exact ⟨k + 1, q + x, by go_num, by go_num, by omega, hide HQ2.out.1, by omega⟩
      case measure => simp only [intOf]; omega
    · have hke : k = m := by omega
      have hqn : q = N := by
        have h2 := HQ.out
        have h3 := HN.out
        have h4 := HM.out
        rw [hke, ← h4, List.take_length] at h2
        omega
      subst hqn
      clear hke HQ
      go_wp2_with fail
      refine (grow_anyO (n := q) (by omega)).mono ?_
      rintro e w1 ⟨v1, rfl, own1, hb1⟩
      go_wp2_with fail
      go_loopw [6, 8, 27] (fun s6 _ s wr => ∃ (k n : Nat), s = .int .i64 k ∧ k ≤ m ∧ Hid (n = (LL.take k).flatten.length) ∧ Hid (wr.ownsRow w.heap.size 36 1 s6 n (LL.take k).flatten) ∧ Hid (Below w.heap.size w wr)) (fun _ _ s _ => m - (intOf s).toNat)
      case atStart => exact ⟨0, 0, rfl, Nat.zero_le _, hide (by simp), hide (by simpa using own1), hide hb1⟩
      case round =>
        obtain ⟨k, n, rfl, hk, HQ, HO, HB⟩ := hrel
        by_cases hlt : k < m
        · obtain ⟨ai, ci, r1, R1, _⟩ := (H.out.below HB.out) k (by rw [HM.out]; exact hlt)
          have e1 := flat_take LL (k := k) (by rw [HM.out]; exact hlt)
          have e2 := flat_le LL (k + 1)
          have hle : n + (LL.getD k []).length ≤ 1000000 := by
            have := HQ.out
            have := HN.out
            rw [e1, List.length_append] at e2
            omega
          obtain ⟨v', w', hr, own', hg'⟩ : ∃ v' w', (∀ ty, (Builtin.append_ #[23, 23] ty #[_, .slice ai (LL.getD k []).length ci]).run Try.prog wr = .ok v' w') ∧ w'.ownsRow w.heap.size 36 1 v' (n + (LL.getD k []).length) ((LL.take k).flatten ++ LL.getD k []) ∧ wr.grownBy w' _ := by
            obtain ⟨v', w', hr, h2, h3⟩ := run_append_v (P := Try.prog) wr w.heap.size 23 0 36 i0 (.agg #[.slice none 0 0]) 24 Try.underlying23 hi hz0 hz1 hz2 rfl _ n _ HO.out ai (LL.getD k []).length ci (LL.getD k []) rfl R1 (H1.out k hlt) (by unfold maxLen; omega) (by omega) HB.out.size
            exact ⟨v', w', fun ty => hr, h2, h3⟩
          have HQ2 : Hid (n + (LL.getD k []).length = (LL.take (k + 1)).flatten.length) := hide (by
            have := HQ.out
            rw [e1, List.length_append]
            omega)
          rw [← e1] at own'
          have HO2 := hide own'
          have HB2 := hide (HB.out.trans ((grown_under' hg' HO.out (Nat.le_refl _) HB.out.size)))
          generalize (LL.getD k []).length = x at *
          have i0' : (0 : Int) ≤ (k : Int) := by omega
          have i1' : (k : Int) < (m : Int) := by omega
          clear e1 e2 own' hg' R1
          go_wp2_with (first | (at_builtin; refine Lib.wpList_append_run _ rfl _ _ _ _ rfl _ _ rfl rfl _ _ (hr _) ?_))
          go_roundw
          case rel => exact ⟨k + 1, n + x, by go_num, by omega, HQ2, HO2, HB2⟩
          case measure => simp only [intOf]; omega
        · have hke : k = m := by omega
          have HE : Hid (wr.ownsRow w.heap.size 36 1 _ q LL.flatten) := hide (by
            have h1 := HO.out
            have h2 := HQ.out
            have h3 := HN.out
            have h4 := HM.out
            rw [hke, ← h4, List.take_length] at h1 h2
            rw [h2, h3] at h1
            exact h1)
          clear hke
          go_wp2_with fail
          go_ret
          exact ⟨_, rfl, HE.out, HB.out⟩
end Go.Proofs.Ytdlpbemjbmgbeaa
