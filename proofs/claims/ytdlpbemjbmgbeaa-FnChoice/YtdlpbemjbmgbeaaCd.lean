/-
  Lists put behind one another (the library's Concat and Grow), an offer's gains by count, the sums with an offer, the greatest of a list and where it lies.
-/
import Derived.Test.YtdlpbemjbmgbeaaShelf
import Derived.Test.YtdlpbemjbmgbeaaCc
import Derived.Test.YtdlpbemjbmgbeaaHv
import Derived.Lib.AppendZeros
import Derived.Laws.AppendOwn
import Derived.Laws.OwnMore
namespace Go.Proofs.Ytdlpbemjbmgbeaa
open Go.RowKit

/-- Lists in a list that was made for a call. -/
def VVRow (w : World) (B : Nat) (LL : List (List Value)) : Prop := ∀ i, i < LL.length → ∃ ai ci, w.cell? ⟨B, i, none⟩ = some (.slice ai (LL.getD i []).length ci) ∧ VRow w ai (LL.getD i []) ∧ B < w.heap.size
theorem VVRow.below {w w' : World} {B : Nat} {LL : List (List Value)} (h : VVRow w B LL) (hb : Below w.heap.size w w') : VVRow w' B LL := fun i hi => by
  obtain ⟨ai, ci, h1, h2, h3⟩ := h i hi
  exact ⟨ai, ci, (hb.cell (p := ⟨B, i, none⟩) h3).trans h1, h2.below hb, Nat.lt_of_lt_of_le h3 hb.size⟩
theorem flat_take (LL : List (List Value)) {k : Nat} (h : k < LL.length) : (LL.take (k + 1)).flatten = (LL.take k).flatten ++ LL.getD k [] := by
  rw [List.take_add_one, List.getElem?_eq_getElem h, Pf.getD_lt _ _ h, List.flatten_append]; simp
theorem flat_le (LL : List (List Value)) (k : Nat) : (LL.take k).flatten.length ≤ LL.flatten.length := by
  have e : LL.flatten = (LL.take k).flatten ++ (LL.drop k).flatten := by rw [← List.flatten_append, List.take_append_drop]
  rw [e, List.length_append]; omega

set_option maxRecDepth 100000 in
set_option maxHeartbeats 1000000 in
theorem grow_zero (w : World) :
    Calls Try.prog 52 #[.slice none 0 0, .int .i64 0] w fun e w' => e = .returned (.slice none 0 0) ∧ w' = w := by
  go_enter Try.func52, Try.ntmps52
  go_wp2_with fail
  go_ret
  exact ⟨rfl, rfl⟩
theorem grown_zero_own (w : World) (n : Nat) (hn : n ≤ 4000000) (e : TypeId) (z : Value) (hz : z.cells.size = 1) :
    (w.drew.alloc (.cells (Builtin.zeroCells z.cells n ++ Builtin.zeroCells z.cells (grownCap w n 0 e - n)) e)).ownsRow w.heap.size e 1 (.slice (some ⟨w.heap.size, 0, none⟩) 0 (grownCap w n 0 e)) 0 [] := by
  have h1 := grownCap_ge w n 0 e
  have h2 := grownCap_le_maxLen w n 0 e (by unfold maxLen; omega)
  refine ⟨rfl, .inr ⟨w.heap.size, _, _, rfl, Nat.le_refl _, heap_alloc_new w.drew _, Nat.zero_le _, h2, ?_, by simp⟩⟩
  simp [Builtin.zeroCells, hz]
  omega
set_option maxRecDepth 100000 in
set_option maxHeartbeats 1000000 in
theorem grow_some {n : Nat} {w : World} (h0 : 0 < n) (hn : n ≤ 4000000) :
    Calls Try.prog 52 #[.slice none 0 0, .int .i64 n] w fun e w' => ∃ v, e = .returned v ∧ w'.ownsRow w.heap.size 3 1 v 0 [] ∧ Below w.heap.size w w' := by
  obtain ⟨i0, hi, hz0, hz1, hz2⟩ := infoI
  have hr := fun ty => Lib.run_append_nil_zeros (P := Try.prog) w 26 3 ty 3 i0 (.int .i64 0) .i64 .i64 Try.underlying26 Try.underlying3 hi hz0 n h0 (by rw [hz1]; decide) (by omega) (by rw [hz2]; omega)
  have HO := hide (grown_zero_own w n hn 3 (.int .i64 0) rfl)
  have HB : Hid (Below w.heap.size w (w.drew.alloc (.cells (Builtin.zeroCells (Value.int .i64 0).cells n ++ Builtin.zeroCells (Value.int .i64 0).cells (grownCap w n 0 3 - n)) 3))) := hide ((below_drewN (Below.refl _ _) 1).alloc (Nat.le_refl _) _)
  generalize hW : w.drew.alloc (.cells (Builtin.zeroCells (Value.int .i64 0).cells n ++ Builtin.zeroCells (Value.int .i64 0).cells (grownCap w n 0 3 - n)) 3) = W at *
  generalize grownCap w n 0 3 = cap at *
  have h1 : (0 : Int) < n := by omega
  have h2 : ¬ (n : Int) < 0 := by omega
  clear hW
  go_enter Try.func52, Try.ntmps52
  go_wp2_with (first | (at_builtin; refine Lib.wpList_append_run _ rfl _ _ _ _ rfl _ _ rfl rfl _ _ (hr _) ?_))
  go_ret
  exact ⟨_, rfl, HO.out, HB.out⟩
theorem grow_any {n : Nat} {w : World} (hn : n ≤ 4000000) :
    Calls Try.prog 52 #[.slice none 0 0, .int .i64 n] w fun e w' => ∃ v, e = .returned v ∧ w'.ownsRow w.heap.size 3 1 v 0 [] ∧ Below w.heap.size w w' := by
  by_cases h : n = 0
  · subst h
    refine (grow_zero w).mono ?_
    rintro e w' ⟨rfl, rfl⟩
    exact ⟨_, rfl, World.ownsRow_nil _ _ _ _, Below.refl _ _⟩
  · exact grow_some (by omega) hn

set_option maxRecDepth 100000 in
set_option maxHeartbeats 2000000 in
theorem concat_any {B m c N : Nat} {LL : List (List Value)} {w : World} (hm : LL.length = m) (hm' : m ≤ 1000) (hN : LL.flatten.length = N) (hN' : N ≤ 1000000) (h1 : ∀ i, i < m → ∀ u ∈ LL.getD i [], u.oneCell' = true) (h : VVRow w B LL) :
    Calls Try.prog 48 #[.slice (some ⟨B, 0, none⟩) m c] w fun e w' => ∃ v, e = .returned v ∧ w'.ownsRow w.heap.size 3 1 v N LL.flatten ∧ Below w.heap.size w w' := by
  obtain ⟨i0, hi, hz0, hz1, hz2⟩ := infoI
  have H := hide h
  have HM := hide hm
  have HN := hide hN
  have H1 := hide h1
  clear h hm hN h1
  go_enter Try.func48, Try.ntmps48
  go_wp2_with fail
  go_loop [3, 5, 11] (fun s3 _ s => ∃ (k q : Nat), s3 = .int .i64 q ∧ s = .int .i64 k ∧ k ≤ m ∧ Hid (q = (LL.take k).flatten.length) ∧ q ≤ 1000000) (fun _ _ s => m - (intOf s).toNat)
  case atStart => exact ⟨0, 0, rfl, rfl, Nat.zero_le _, hide (by simp), by omega⟩
  case round =>
    obtain ⟨k, q, rfl, rfl, hk, HQ, hq⟩ := hrel
    by_cases hlt : k < m
    · obtain ⟨ai, ci, r1, _⟩ := H.out k (by rw [HM.out]; exact hlt)
      have e1 := flat_take LL (k := k) (by rw [HM.out]; exact hlt)
      have e2 := flat_le LL (k + 1)
      have HQ2 : Hid (q + (LL.getD k []).length = (LL.take (k + 1)).flatten.length ∧ q + (LL.getD k []).length ≤ 1000000) := hide (by
        have := HQ.out
        have := HN.out
        rw [e1, List.length_append] at *
        omega)
      generalize (LL.getD k []).length = x at *
      have i0' : (0 : Int) ≤ (k : Int) := by omega
      have i1' : (k : Int) < (m : Int) := by omega
      have hx := HQ2.out.2
      have hx2 : ¬ (q : Int) + (x : Int) < 0 := by omega
      clear e1 e2
      go_wp2_with fail
      go_round
      case rel => exact ⟨k + 1, q + x, by go_num, by go_num, by omega, hide HQ2.out.1, by omega⟩
      case measure => simp only [intOf]; omega
    · have hke : k = m := by omega
      have hqn : q = N := by
        have h2 := HQ.out
        have h3 := HN.out
        have h4 := HM.out
        rw [hke, ← h4, List.take_length] at h2
        omega
      subst hqn
      clear hke HQ
      go_wp2_with fail
      refine (grow_any (n := q) (by omega)).mono ?_
      rintro e w1 ⟨v1, rfl, own1, hb1⟩
      go_wp2_with fail
      go_loopw [6, 8, 27] (fun s6 _ s wr => ∃ (k n : Nat), s = .int .i64 k ∧ k ≤ m ∧ Hid (n = (LL.take k).flatten.length) ∧ Hid (wr.ownsRow w.heap.size 3 1 s6 n (LL.take k).flatten) ∧ Hid (Below w.heap.size w wr)) (fun _ _ s _ => m - (intOf s).toNat)
      case atStart => exact ⟨0, 0, rfl, Nat.zero_le _, hide (by simp), hide (by simpa using own1), hide hb1⟩
      case round =>
        obtain ⟨k, n, rfl, hk, HQ, HO, HB⟩ := hrel
        by_cases hlt : k < m
        · obtain ⟨ai, ci, r1, R1, _⟩ := (H.out.below HB.out) k (by rw [HM.out]; exact hlt)
          have e1 := flat_take LL (k := k) (by rw [HM.out]; exact hlt)
          have e2 := flat_le LL (k + 1)
          have hle : n + (LL.getD k []).length ≤ 1000000 := by
            have := HQ.out
            have := HN.out
            rw [e1, List.length_append] at e2
            omega
          obtain ⟨v', w', hr, own', hg'⟩ : ∃ v' w', (∀ ty, (Builtin.append_ #[26, 26] ty #[_, .slice ai (LL.getD k []).length ci]).run Try.prog wr = .ok v' w') ∧ w'.ownsRow w.heap.size 3 1 v' (n + (LL.getD k []).length) ((LL.take k).flatten ++ LL.getD k []) ∧ wr.grownBy w' _ := by
            obtain ⟨v', w', hr, h2, h3⟩ := run_append_v (P := Try.prog) wr w.heap.size 26 0 3 i0 (.int .i64 0) 8 Try.underlying26 hi hz0 hz1 hz2 rfl _ n _ HO.out ai (LL.getD k []).length ci (LL.getD k []) rfl R1 (H1.out k hlt) (by unfold maxLen; omega) (by omega) HB.out.size
            exact ⟨v', w', fun ty => hr, h2, h3⟩
          have HQ2 : Hid (n + (LL.getD k []).length = (LL.take (k + 1)).flatten.length) := hide (by
            have := HQ.out
            rw [e1, List.length_append]
            omega)
          rw [← e1] at own'
          have HO2 := hide own'
          have HB2 := hide (HB.out.trans ((grown_under' hg' HO.out (Nat.le_refl _) HB.out.size)))
          generalize (LL.getD k []).length = x at *
          have i0' : (0 : Int) ≤ (k : Int) := by omega
          have i1' : (k : Int) < (m : Int) := by omega
          clear e1 e2 own' hg' R1
          go_wp2_with (first | (at_builtin; refine Lib.wpList_append_run _ rfl _ _ _ _ rfl _ _ rfl rfl _ _ (hr _) ?_))
          go_roundw
          case rel => exact ⟨k + 1, n + x, by go_num, by omega, HQ2, HO2, HB2⟩
          case measure => simp only [intOf]; omega
        · have hke : k = m := by omega
          have HE : Hid (wr.ownsRow w.heap.size 3 1 _ q LL.flatten) := hide (by
            have h1 := HO.out
            have h2 := HQ.out
            have h3 := HN.out
            have h4 := HM.out
            rw [hke, ← h4, List.take_length] at h1 h2
            rw [h2, h3] at h1
            exact h1)
          clear hke
          go_wp2_with fail
          go_ret
          exact ⟨_, rfl, HE.out, HB.out⟩
end Go.Proofs.Ytdlpbemjbmgbeaa
