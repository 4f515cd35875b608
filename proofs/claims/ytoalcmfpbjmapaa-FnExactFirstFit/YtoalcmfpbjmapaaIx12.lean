/-
  What numbersIn of the program answers; FirstFit and FitSorted of both.
-/
import Derived.Test.YtoalcmfpbjmapaaIw12
import Derived.Test.YtoalcmfpbjmapaaIs12
import Derived.Test.YtoalcmfpbjmapaaIi12
namespace Go.Proofs.Ytoalcmfpbjmapaa
open Go.RowKit

/-- A list more, which lies behind all. -/
theorem LL.pushRow {W V : World} {base : Nat} {v : Value} {us : List Value} {R : List (List Int)} {r : List Int} {u : Value} (h : LL W base 22 3 1 ints v us R) (hV : Below W.heap.size W V) (hu : V.ownsRow W.heap.size 3 1 u r.length (ints r)) (hu1 : u.oneCell' = true) (hn : R.length ≤ 1000) (hb : base ≤ W.heap.size) :
    ∃ G cap w1, (∀ ty, (Builtin.append_ #[26, 26] ty #[v, .slice (some ⟨V.heap.size, 0, none⟩) 1 1]).run Try.prog (V.alloc (.cells #[u] 22)) = .ok (.slice (some ⟨G, 0, none⟩) (R.length + 1) cap) w1) ∧
      LL w1 base 22 3 1 ints (.slice (some ⟨G, 0, none⟩) (R.length + 1) cap) (us ++ [u]) (R ++ [r]) ∧ Below base W w1 := by
  have hv := own_below2 h.1 hV
  obtain ⟨G, cap, w1, r1, o1, g1, f1⟩ := push_9 (x := u) Try.underlying26 infoS rfl hu1 (by omega) hv (by omega) (Nat.le_trans hb hV.size)
  have k1 : ∀ b, b < V.heap.size → some b ≠ v.ownBlock → w1.heap[b]? = V.heap[b]? := fun b hb' hne => (g1.block b (by simp; omega) hne).trans ((below_alloc V _).block b hb')
  have z1 : V.heap.size ≤ w1.heap.size := Nat.le_trans (by simp) g1.size
  have z0 := hV.size
  have hG : (Value.slice (some ⟨G, 0, none⟩) (R.length + 1) cap).ownBlock = some G := rfl
  refine ⟨G, cap, w1, r1, h.snoc o1 (fun b hb' hne => (k1 b (by omega) hne).trans (hV.block b hb')) (fun g e => ?_) (own_low2 (own_keep2 hu fun g hv' hl => k1 g hl (fun e => ?_)) hb) (fun g e => ⟨(hu.lt g e).1, fun e2 => ?_⟩), ?_⟩
  · rw [hG] at e; cases e
    rcases f1 with f1 | f1
    · exact Or.inl f1
    · exact Or.inr (by omega)
  · have h1 := (hu.lt g hv').1
    have h2 := (h.1.lt g e.symm).2
    omega
  · rw [hG] at e2; cases e2
    have h1 := hu.lt G e
    rcases f1 with f1 | f1
    · have := (h.1.lt G f1).2; omega
    · omega
  · exact ⟨g1.os.trans hV.os, g1.tape.trans hV.tape, g1.output.trans hV.output, by omega, fun b hb' => (k1 b (by omega) (fun e => by have := (hv.lt b e.symm).1; omega)).trans (hV.block b (by omega))⟩
theorem nums_take {B : List (List (Int × Int))} {j : Nat} (h : j < B.length) : (It.nums B).take (j + 1) = (It.nums B).take j ++ [(B.getD j []).map Prod.fst] := by
  rw [List.take_add_one]; simp [It.nums, h]
set_option maxHeartbeats 1000000 in
theorem ni_any {base N : Nat} {us : List Value} {B : List (List (Int × Int))} {v : Value} {w : World} (h : LL w base 53 51 2 ite v us B) (hN : B.length = N) (hn : N ≤ 900) (hb9 : ∀ i, i < N → (B.getD i []).length ≤ 900) :
    Calls Try.prog 52 #[v] w fun e w' => ∃ v' us', e = .returned v' ∧ LL w' w.heap.size 22 3 1 ints v' us' (It.nums B) ∧ Below w.heap.size w w' := by
  obtain ⟨av, cv, ev⟩ := h.form
  rw [hN] at ev
  subst ev
  have HL := hide h
  have HN := hide hN
  have HB9 := hide hb9
  clear h hN hb9
  go_enter Try.func52, Try.ntmps52
  go_wp2_with fail
  go_loopw [3, 5, 6, 8, 11] (fun s3 _ _ _ s11 wr => ∃ (j : Nat) (us' : List Value), s11 = .int .i64 j ∧ j ≤ N ∧ Hid (LL wr w.heap.size 22 3 1 ints s3 us' ((It.nums B).take j)) ∧ Hid (Below w.heap.size w wr)) (fun _ _ _ _ s11 _ => N - (intOf s11).toNat)
  case atStart => exact ⟨0, [], rfl, Nat.zero_le _, hide (LL.nil _ _ _ _ _ _), hide (Below.refl _ _)⟩
  case round =>
    obtain ⟨j, us', rfl, hj, HA, HB⟩ := hrel
    by_cases hlt : j < N
    · have hjB : j < B.length := by rw [HN.out]; exact hlt
      have LW := HL.out.below HB.out
      have i0 : (0 : Int) ≤ (j : Int) := by omega
      have i1 : (j : Int) < (N : Int) := by omega
      obtain ⟨G, cap, ea⟩ : ∃ G cap, Value.slice av N cv = .slice (some ⟨G, 0, none⟩) N cap := by
        have ho := LW.1
        rw [HN.out] at ho
        obtain ⟨G, cap, e, _, _⟩ := ho.form (by omega)
        exact ⟨G, cap, e⟩
      cases ea
      have q1 : wr.cell? ⟨G, j, none⟩ = some (us.getD j nilS) := by
        have LW' := LW
        rw [← HN.out] at LW'
        exact LW'.cell hjB
      obtain ⟨ar, cr, er, hr⟩ := own_items rfl (LW.2.1 j hjB)
      rw [er] at q1
      have HR := hide fun (W : World) (h : Below wr.heap.size wr W) => hr.below h
      obtain ⟨M, hM⟩ : ∃ M, (B.getD j []).length = M := ⟨_, rfl⟩
      have h9 := HB9.out j hlt
      rw [hM] at q1 h9
      have HM := hide hM
      obtain ⟨b, hbe⟩ : ∃ b, B.getD j [] = b := ⟨_, rfl⟩
      rw [hbe] at HR HM
      have HBE := hide hbe
      clear LW er hr hM hbe
      obtain ⟨W0, rfl⟩ : ∃ W0, wr = W0 := ⟨wr, rfl⟩
      go_wp2_with fail
      go_loopw [6, 8, 17] (fun s6 _ s17 wq => ∃ (k : Nat), s17 = .int .i64 k ∧ k ≤ M ∧ Hid (wq.ownsRow wr.heap.size 3 1 s6 k (ints ((b.map Prod.fst).take k))) ∧ Hid (Below wr.heap.size wr wq)) (fun _ _ s17 _ => M - (intOf s17).toNat)
      case atStart => exact ⟨0, rfl, Nat.zero_le _, hide (World.ownsRow_nil _ _ _ _), hide (Below.refl _ _)⟩
      case round =>
        clear q1
        obtain ⟨k, rfl, hk, HO, HQ⟩ := hrel
        obtain ⟨a6, c6, e6⟩ := own_form2 HO.out
        subst e6
        by_cases hkl : k < M
        · have hkb : k < b.length := by rw [HM.out]; exact hkl
          obtain ⟨q, o, eq, hq, r1, r2⟩ := (HR.out _ HQ.out).at (i := k) hkb
          subst eq
          have j0 : (0 : Int) ≤ (k : Int) := by omega
          have j1 : (k : Int) < (M : Int) := by omega
          have HS : Hid ((b.map Prod.fst).take (k + 1) = (b.map Prod.fst).take k ++ [(b.getD k (0, 0)).1]) := hide (by rw [List.take_add_one]; simp [hkb])
          generalize (b.getD k (0, 0)).1 = x at *
          generalize (b.getD k (0, 0)).2 = y at *
          have HAL := hide (HQ.out.alloc HQ.out.size (.cells #[.int .i64 x, .int .i64 y] 51))
          obtain ⟨v6, w6, p6, o6, g6⟩ := push_int (x := x) (own_below2 HO.out (below_alloc _ (.cells #[.int .i64 x, .int .i64 y] 51))) (by omega) HAL.out.size
          have HO6 : Hid (w6.ownsRow _ 3 1 v6 (k + 1) (ints ((b.map Prod.fst).take (k + 1)))) := hide (by rw [HS.out, ints_snoc]; exact o6)
          have HB6 := hide (HAL.out.trans (grown_under' g6 (own_below2 HO.out (below_alloc _ (.cells #[.int .i64 x, .int .i64 y] 51))) (Nat.le_refl _) HAL.out.size))
          rw [World.size_alloc] at p6
          clear o6 g6 HO HQ HAL HS
          go_wp2_with (first | (at_builtin; refine Lib.wpList_append_run _ rfl (.tmp 21) (.tmp 24) 22 22 rfl _ _ rfl rfl _ _ (p6 _) ?_))
          go_roundw
          case rel => exact ⟨k + 1, by go_num, by omega, HO6, HB6⟩
          case measure => simp only [intOf]; omega
        · have hke : k = M := by omega
          subst hke
          have hrow : Hid ((b.map Prod.fst).take k = b.map Prod.fst) := hide (List.take_of_length_le (by rw [List.length_map, HM.out]; exact Nat.le_refl _))
          have HS : Hid ((It.nums B).take (j + 1) = (It.nums B).take j ++ [b.map Prod.fst]) := hide (by rw [← HBE.out]; exact nums_take (by rw [HN.out]; exact hlt))
          have hlj : ((It.nums B).take j).length = j := by rw [List.length_take, It.nums_len, HN.out]; omega
          obtain ⟨G7, cap7, w7, p7, l7, b7⟩ := HA.out.pushRow (r := b.map Prod.fst) HQ.out (by have := HO.out; rw [hrow.out] at this; rw [List.length_map, HM.out]; exact this) rfl (by rw [hlj]; omega) HB.out.size
          rw [hlj] at p7 l7
          obtain ⟨a3, c3, e3⟩ := own_form2 HA.out.1
          subst e3
          rw [hlj] at p7
          have HL7 : Hid (LL w7 w.heap.size 22 3 1 ints (.slice (some ⟨G7, 0, none⟩) (j + 1) cap7) _ ((It.nums B).take (j + 1))) := hide (by rw [HS.out]; exact l7)
          have HB7 := hide (HB.out.trans b7)
          rw [hlj]
          clear l7 b7 HA HO HQ hrow HS
          go_wp2_with (first | (at_builtin; refine Lib.wpList_append_run _ rfl (.tmp 27) (.tmp 29) 26 26 rfl _ _ rfl rfl _ _ (p7 _) ?_))
          go_roundw
          case rel => exact ⟨j + 1, _, by go_num, by omega, HL7, HB7⟩
          case measure => simp only [intOf]; omega
    · have hke : j = N := by omega
      subst hke
      have HE : Hid (LL wr w.heap.size 22 3 1 ints u3 us' (It.nums B)) := hide (by
        have := HA.out
        rwa [List.take_of_length_le (by rw [It.nums_len, HN.out]; exact Nat.le_refl _)] at this)
      clear HA
      go_wp2_with fail
      go_ret
      exact ⟨u3, us', rfl, HE.out, HB.out⟩
end Go.Proofs.Ytoalcmfpbjmapaa
