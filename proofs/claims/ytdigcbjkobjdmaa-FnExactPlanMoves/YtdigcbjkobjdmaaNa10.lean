/-
  What l10Next and PlanMoves of the model answer.
-/
import Derived.Test.YtdigcbjkobjdmaaMo10
namespace Go.Proofs.Ytdigcbjkobjdmaa
open Go.RowKit

theorem home_gt {xs ws : List Int} {n k : Nat} (h2 : Mv.Two n (Mx.fn xs) (Mx.fn ws)) (hk : k < n) : Mx.homeAt xs ws k = (decide (0 < ws.getD k 0) && (xs.getD k 0 == 0)) := by
  have := h2.sb.ge k hk
  have h' : 0 ≤ ws.getD k 0 := this
  unfold Mx.homeAt
  by_cases h : ws.getD k 0 = 0
  · rw [h]; simp
  · rw [show (ws.getD k 0 != 0) = true from bne_iff_ne.2 h, show decide (0 < ws.getD k 0) = true by simp only [decide_eq_true_eq]; omega]
theorem aside_gt {xs ws : List Int} {n k : Nat} (h2 : Mv.Two n (Mx.fn xs) (Mx.fn ws)) (hk : k < n) (hh : Mx.homeAt xs ws k = false) : Mx.asideAt xs ws k = (decide (0 < xs.getD k 0) && (ws.getD k 0 != xs.getD k 0)) := by
  have hx' : 0 ≤ xs.getD k 0 := h2.sa.ge k hk
  unfold Mx.homeAt at hh
  unfold Mx.asideAt
  by_cases h : xs.getD k 0 = 0
  · rw [h] at hh ⊢
    have hw : ws.getD k 0 = 0 := by
      rw [Bool.and_eq_false_iff] at hh
      rcases hh with hh | hh
      · exact bne_eq_false_iff_eq.1 hh
      · simp at hh
    rw [hw]; simp
  · rw [show decide (0 < xs.getD k 0) = true by simp only [decide_eq_true_eq]; omega, Bool.true_and]
    by_cases e : xs.getD k 0 = ws.getD k 0
    · rw [e]
    · rw [bne_iff_ne.2 e, bne_iff_ne.2 (Ne.symm e)]
def NsP (w : World) (o : Option (Int × Int)) (e : Ending) (w' : World) : Prop := ∃ F T, e = .returned (.agg #[.int .i64 F, .int .i64 T]) ∧ ((o = some (F, T) ∧ 0 ≤ F) ∨ (o = none ∧ F = -1)) ∧ Below w.heap.size w w'
set_option maxHeartbeats 4000000 in
theorem ln_any {a b : Option Addr} {n c d : Nat} {xs ws : List Int} {w : World} (hx : xs.length = n) (hy : ws.length = n) (hn : n ≤ 1000) (h2 : Mv.Two n (Mx.fn xs) (Mx.fn ws)) (ha : ARow w a xs) (hbw : ARow w b ws) :
    Calls Try.prog 44 #[.slice a n c, .slice b n d] w (NsP w (Mx.nextM xs ws)) := by
  have hb := below_new w (.cells #[.int .i64 0, .int .i64 0] 30)
  have r0 : (w.alloc (.cells #[.int .i64 0, .int .i64 0] 30)).cell? ⟨w.heap.size, 0, none⟩ = some (.int .i64 0) := by simp
  have r1 : (w.alloc (.cells #[.int .i64 0, .int .i64 0] 30)).cell? ⟨w.heap.size, 1, none⟩ = some (.int .i64 0) := by simp
  have r2 : (w.alloc (.cells #[.int .i64 0, .int .i64 0] 30)).frozen? ⟨w.heap.size, 0, none⟩ = false := by simp [go_sem]
  have r3 : (w.alloc (.cells #[.int .i64 0, .int .i64 0] 30)).frozen? ⟨w.heap.size, 1, none⟩ = false := by simp [go_sem]
  obtain ⟨W2, hW2⟩ : ∃ W, W = w.alloc (.cells #[.int .i64 0, .int .i64 0] 30) := ⟨_, rfl⟩
  rw [← hW2] at hb r0 r1 r2 r3
  have HA := hide (ha.below hb)
  have HBB := hide (hbw.below hb)
  have HB := hide hb
  have HW2 := hide hW2.symm
  obtain ⟨B, hB⟩ : ∃ B, B = w.heap.size := ⟨_, rfl⟩
  rw [← hB] at r0 r1 r2 r3
  have HBe := hide hB.symm
  have HBS := hide fun (x y : Value) => ((hb.setCell (p := ⟨B, 0, none⟩) (by show w.heap.size ≤ B; omega) x).setCell (p := ⟨B, 1, none⟩) (by show w.heap.size ≤ B; omega) y)
  have HX := hide hx
  have HY := hide hy
  have HT := hide h2
  have HNXT := hide fun (m : Int × Int) (h : Mx.nextM xs ws = some m) => show 0 ≤ m.1 by
    obtain ⟨⟨f, t, hq⟩, _⟩ := Mx.next_yes hx hy h2 h
    rw [hq.e]; simp
  have HNH := hide fun (m : Int × Int) (h : homeM xs ws = some m) => next_h h
  have HNA := hide fun (h : homeM xs ws = none) => next_a h
  generalize Mx.nextM xs ws = ON at *
  clear hb hW2 hB ha hbw hx hy h2
  go_enter Try.func44, Try.ntmps44
  go_upto_region 1 with fail
  rw [HW2.out, HBe.out]
  clear HW2 HBe
  go_wp2_with fail
  go_loop [5, 6, 11] (fun _ _ s => ∃ k : Nat, s = .int .i64 k ∧ k ≤ n ∧ Hid (∀ j, j < k → Mx.homeAt xs ws j = false)) (fun _ _ s => n - (intOf s).toNat)
  case atStart => exact ⟨0, rfl, Nat.zero_le _, hide fun j hj => absurd hj (Nat.not_lt_zero _)⟩
  case round =>
    obtain ⟨k, rfl, hk, HK⟩ := hrel
    by_cases hlt : k < n
    · obtain ⟨b1, o1, rfl, q1⟩ := HBB.out.at (i := k) (by rw [HY.out]; exact hlt)
      obtain ⟨b2, o2, rfl, q2⟩ := HA.out.at (i := k) (by rw [HX.out]; exact hlt)
      have i0 : (0 : Int) ≤ (k : Int) := by omega
      have i1 : (k : Int) < (n : Int) := by omega
      have HNX := hide fun (h : Mx.homeAt xs ws k = false) => show ∀ j, j < k + 1 → Mx.homeAt xs ws j = false from fun j hj => by
        by_cases e : j = k
        · subst e; exact h
        · exact HK.out j (by omega)
      have HYS := hide fun (h : Mx.homeAt xs ws k = true) => HNH.out _ (home_is HY.out hlt h HK.out)
      have HDF := hide (home_gt HT.out hlt)
      have HIX := hide (sp_any (w := W2) (c := c) (x := ws.getD k 0) HX.out (by omega) HA.out)
      generalize Ma.idx xs (ws.getD k 0) = J at *
      generalize ws.getD k 0 = g at *
      generalize xs.getD k 0 = x at *
      by_cases hg : 0 < g
      · have hg' : decide (0 < g) = true := by simp [hg]
        cases hx0 : (x == 0)
        · have H1 := hide (HNX.out (by rw [HDF.out, hx0]; simp))
          clear hg'
          go_wp2_with fail
          go_round
          case rel => exact ⟨k + 1, by go_num, by omega, H1⟩
          case measure => simp only [intOf]; omega
        · have H1 := hide (HYS.out (by rw [HDF.out, hg', hx0]; rfl))
          have H2 := hide (HNXT.out _ H1.out)
          have HFIN := hide (HBS.out (.int .i64 J) (.int .i64 (k : Int)))
          clear hg'
          go_wp2_with fail
          refine HIX.out.mono ?_
          rintro e w3 ⟨rfl, hw3⟩
          obtain rfl : W2 = w3 := hw3.symm
          go_wp2_with fail
          exact bodyPost_ret (v := .agg #[.int .i64 J, .int .i64 (k : Int)]) (by simp [results, Try.results44, go_sem, *]) rfl ⟨J, (k : Int), rfl, Or.inl ⟨H1.out, H2.out⟩, HFIN.out⟩
      · have hg' : decide (0 < g) = false := by simp; omega
        have H1 := hide (HNX.out (by rw [HDF.out, hg']; rfl))
        clear hg'
        go_wp2_with fail
        go_round
        case rel => exact ⟨k + 1, by go_num, by omega, H1⟩
        case measure => simp only [intOf]; omega
    · have hke : k = n := by omega
      subst hke
      have HNO := hide (HNA.out (home_no HY.out HK.out))
      clear HNH HNA
      go_wp2_with fail
      go_loop [7, 8, 33] (fun _ _ s => ∃ i : Nat, s = .int .i64 i ∧ i ≤ k ∧ Hid (∀ j, j < i → Mx.asideAt xs ws j = false)) (fun _ _ s => k - (intOf s).toNat)
      case atStart => exact ⟨0, rfl, Nat.zero_le _, hide fun j hj => absurd hj (Nat.not_lt_zero _)⟩
      case round =>
        obtain ⟨i, rfl, hi, HI⟩ := hrel
        by_cases hli : i < k
        · obtain ⟨b1, o1, rfl, q1⟩ := HBB.out.at (i := i) (by rw [HY.out]; exact hli)
          obtain ⟨b2, o2, rfl, q2⟩ := HA.out.at (i := i) (by rw [HX.out]; exact hli)
          have i0 : (0 : Int) ≤ (i : Int) := by omega
          have i1 : (i : Int) < (k : Int) := by omega
          have HNX := hide fun (h : Mx.asideAt xs ws i = false) => show ∀ j, j < i + 1 → Mx.asideAt xs ws j = false from fun j hj => by
            by_cases e : j = i
            · subst e; exact h
            · exact HI.out j (by omega)
          have HYS := hide fun (h : Mx.asideAt xs ws i = true) => HNO.out.trans (aside_is HX.out hli h HI.out)
          have HDF := hide (aside_gt HT.out hli (HK.out i hli))
          have HIX := hide (sp_any (w := W2) (c := c) (x := 0) HX.out (by omega) HA.out)
          generalize Ma.idx xs 0 = J at *
          generalize ws.getD i 0 = g at *
          generalize xs.getD i 0 = x at *
          by_cases hg : 0 < x
          · have hg' : decide (0 < x) = true := by simp [hg]
            cases hx0 : (g != x)
            · have H1 := hide (HNX.out (by rw [HDF.out, hx0]; simp))
              clear hg'
              go_wp2_with fail
              go_round
              case rel => exact ⟨i + 1, by go_num, by omega, H1⟩
              case measure => simp only [intOf]; omega
            · have H1 := hide (HYS.out (by rw [HDF.out, hg', hx0]; rfl))
              have H2 := hide (HNXT.out _ H1.out)
              have HFIN := hide (HBS.out (.int .i64 (i : Int)) (.int .i64 J))
              clear hg'
              go_wp2_with fail
              refine HIX.out.mono ?_
              rintro e w3 ⟨rfl, hw3⟩
              obtain rfl : W2 = w3 := hw3.symm
              go_wp2_with fail
              exact bodyPost_ret (v := .agg #[.int .i64 (i : Int), .int .i64 J]) (by simp [results, Try.results44, go_sem, *]) rfl ⟨(i : Int), J, rfl, Or.inl ⟨H1.out, H2.out⟩, HFIN.out⟩
          · have hg' : decide (0 < x) = false := by simp; omega
            have H1 := hide (HNX.out (by rw [HDF.out, hg']; rfl))
            clear hg'
            go_wp2_with fail
            go_round
            case rel => exact ⟨i + 1, by go_num, by omega, H1⟩
            case measure => simp only [intOf]; omega
        · have hie : i = k := by omega
          subst hie
          have H1 := hide (HNO.out.trans (aside_no HX.out HI.out))
          have HFIN := hide (HBS.out (.int .i64 (-1)) (.int .i64 0))
          go_wp2_with fail
          exact bodyPost_ret (v := .agg #[.int .i64 (-1), .int .i64 0]) (by simp [results, Try.results44, go_sem, *]) rfl ⟨-1, 0, rfl, Or.inr ⟨H1.out, rfl⟩, HFIN.out⟩
end Go.Proofs.Ytdigcbjkobjdmaa
