/-
  What the tests of a house answer, the program's and the model's: counts of slots, slots, owners that fit.
-/
import Derived.Test.YtlbagigghpiifaaHa17
import Derived.Deep.QuietTactic
import Derived.BigQuiet
namespace Go.Proofs.Ytlbagigghpiifaa
open Go.RowKit

/-- A house in a variable. -/
def HBox (w : World) (B : Nat) (v0 v1 v2 : Value) : Prop := w.cell? ⟨B, 0, none⟩ = some v0 ∧ w.cell? ⟨B, 1, none⟩ = some v1 ∧ w.cell? ⟨B, 2, none⟩ = some v2 ∧ B < w.heap.size
theorem HBox.new (w : World) (v0 v1 v2 : Value) (t : TypeId) : HBox (w.alloc (.cells #[v0, v1, v2] t)) w.heap.size v0 v1 v2 := ⟨by simp [go_sem], by simp [go_sem], by simp [go_sem], by simp⟩
theorem HBox.below {w w' : World} {B : Nat} {v0 v1 v2 : Value} (h : HBox w B v0 v1 v2) (hb : Below w.heap.size w w') : HBox w' B v0 v1 v2 :=
  ⟨(hb.cell h.2.2.2).trans h.1, (hb.cell h.2.2.2).trans h.2.1, (hb.cell h.2.2.2).trans h.2.2.1, Nat.lt_of_lt_of_le h.2.2.2 hb.size⟩
theorem and_false17 {a b : Bool} (h : a = false) : (a && b) = false := by rw [h]; rfl
theorem eq_upto17 {n : Nat} {xs ys : List Int} (hx : xs.length = n) (hy : ys.length = n) (h : ∀ j, j < n → xs.getD j 0 = ys.getD j 0) : xs = ys := by
  apply List.ext_getElem
  · omega
  · intro j h1 h2
    have := h j (by omega)
    rwa [Pf.getD_lt _ 0 h1, Pf.getD_lt _ 0 h2] at this
set_option maxHeartbeats 400000 in
theorem asc_any {b : Option Addr} {m d : Nat} {cs : List Int} {w : World} (g : Hid (ARow w b cs)) (hm : Hid (cs.length = m)) :
    Calls Try.prog 39 #[.slice b m d] w fun e w' => e = .returned (.bool (Hs.cntB cs)) ∧ w' = w := by
  have HE : Hid (Hs.cntB cs = (Pf.inB m 1 8 && countsB cs 10)) := hide (by unfold Hs.cntB countsB; rw [hm.out])
  cases h1 : Pf.inB m 1 8
  · have HF : Hid (false = Hs.cntB cs) := hide (by rw [HE.out, h1]; rfl)
    go_enter Try.func39, Try.ntmps39
    go_wp2_with (go_at_call 42; refine (between_eq h1).mono ?_; rintro e w1 ⟨rfl, rfl⟩)
    go_ret
    exact ⟨ret_bool HF.out, rfl⟩
  · have hl : m ≤ 1000 := by have := Pf.inB_yes h1; omega
    have HF : Hid (countsB cs 10 = Hs.cntB cs) := hide (by rw [HE.out, h1]; rfl)
    go_enter Try.func39, Try.ntmps39
    go_wp2_with (first
      | (go_at_call 42; refine (between_eq h1).mono ?_; rintro e w1 ⟨rfl, rfl⟩)
      | (go_at_call 62; refine (counts_eq (by omega) g hm hl HF).mono ?_; rintro e w1 ⟨rfl, rfl⟩))
    go_ret
    exact ⟨rfl, rfl⟩
theorem asc_eq {b : Option Addr} {m d : Nat} {cs : List Int} {w : World} {r : Bool} (g : Hid (ARow w b cs)) (hm : Hid (cs.length = m)) (hr : Hid (Hs.cntB cs = r)) :
    Calls Try.prog 39 #[.slice b m d] w fun e w' => e = .returned (.bool r) ∧ w' = w := hr.out ▸ asc_any g hm
theorem cnt_few {cs : List Int} {m : Nat} (hm : Hid (cs.length = m)) (h : Hs.cntB cs = true) : 1 ≤ m ∧ m ≤ 8 ∧ Pf.allB cs (-10000000) 10000000 = true := by
  obtain ⟨h1, h2, h3, _⟩ := Hs.cntB_yes h
  have := hm.out
  exact ⟨by omega, by omega, Pf.allB_of fun i hi => by have := Pf.inB_yes (Pf.allB_get h3 hi); exact Pf.inB_of (by omega) (by omega)⟩
set_option maxHeartbeats 1000000 in
theorem hs_any {a b o : Option Addr} {n m q c d e : Nat} {ws cs : List Int} {w : World} (HN : Hid (ws.length = n)) (HM : Hid (cs.length = m)) (HA : Hid (ARow w a ws)) (HB : Hid (ARow w b cs)) :
    Calls Try.prog 29 #[.agg #[.slice a n c, .slice b m d, .slice o q e]] w fun e w' => e = .returned (.bool (Hs.slotsB cs ws)) ∧ Below w.heap.size w w' := by
  have HE : Hid (Hs.slotsB cs ws = (Hs.cntB cs && decide (cs.sum = (n : Int)) && Pf.allB ws 0 1000)) := hide (by unfold Hs.slotsB; rw [HN.out])
  have hb0 := below_new w (.cells #[.slice a n c, .slice b m d, .slice o q e] 41)
  have HA1 := hide (HA.out.below hb0)
  have HB1 := hide (HB.out.below hb0)
  have HB0 := hide hb0
  clear hb0
  cases h1 : Hs.cntB cs
  · have HF : Hid (false = Hs.slotsB cs ws) := hide (by rw [HE.out, h1]; rfl)
    have H1 := hide h1
    clear h1
    go_enter Try.func29, Try.ntmps29
    go_wp2_with fail
    go_quiet ((go_at_call 39; exact Calls.quiet_of_same (asc_eq (hide (HB1.out.drewN _)) HM H1)))
    go_wp2_with fail
    go_ret
    exact ⟨ret_bool HF.out, below_drewN HB0.out _⟩
  · have H1 := hide h1
    obtain ⟨m1, m8, hs⟩ := cnt_few HM h1
    have HS := hide hs
    by_cases hn : (n : Int) = cs.sum
    · have he : ((n : Int) == cs.sum) = true := by simpa using hn
      have hl : n ≤ 1000 := by have := (Hs.cntB_yes h1).2.2.2; omega
      have HF : Hid (Pf.allB ws 0 1000 = Hs.slotsB cs ws) := hide (by rw [HE.out, h1, hn]; simp)
      clear h1 hn hs
      go_enter Try.func29, Try.ntmps29
      go_wp2_with fail
      go_quiet (first
        | (go_at_call 39; exact Calls.quiet_of_same (asc_eq (hide (HB1.out.drewN _)) HM H1))
        | (go_at_call 50; exact Calls.quiet_of_same (isum17 (hide (HB1.out.drewN _)) HM (by omega) HS))
        | (go_at_call 51; exact Calls.quiet_of_same (areb_eqn (hide (HA1.out.drewN _)) HN hl HF)))
      go_wp2_with fail
      go_ret
      exact ⟨rfl, below_drewN HB0.out _⟩
    · have he : ((n : Int) == cs.sum) = false := by simpa using hn
      have HF : Hid (false = Hs.slotsB cs ws) := hide (by rw [HE.out, h1]; simp [show ¬ cs.sum = (n : Int) from fun h => hn h.symm])
      clear h1 hn hs
      go_enter Try.func29, Try.ntmps29
      go_wp2_with fail
      go_quiet (first
        | (go_at_call 39; exact Calls.quiet_of_same (asc_eq (hide (HB1.out.drewN _)) HM H1))
        | (go_at_call 50; exact Calls.quiet_of_same (isum17 (hide (HB1.out.drewN _)) HM (by omega) HS)))
      go_wp2_with fail
      go_ret
      exact ⟨ret_bool HF.out, below_drewN HB0.out _⟩
theorem hs_eq {a b o : Option Addr} {n m q c d e : Nat} {ws cs : List Int} {w : World} {r : Bool} (HN : Hid (ws.length = n)) (HM : Hid (cs.length = m)) (HA : Hid (ARow w a ws)) (HB : Hid (ARow w b cs)) (hr : Hid (Hs.slotsB cs ws = r)) :
    Calls Try.prog 29 #[.agg #[.slice a n c, .slice b m d, .slice o q e]] w fun e w' => e = .returned (.bool r) ∧ Below w.heap.size w w' := hr.out ▸ hs_any HN HM HA HB
/-- Two lists of ints, held against each other. -/
theorem eqr17 {a b : Option Addr} {n m c d : Nat} {xs ys : List Int} {w : World} (hx : xs.length = n) (hy : ys.length = m) (hn : n ≤ 1000) (hm : m ≤ 1000) (h1 : 1 ≤ n) (h2 : 1 ≤ m) (ha : ARow w a xs) (hb : ARow w b ys) :
    Calls Try.prog 56 #[.slice a n c, .slice b m d] w fun e w' => e = .returned (.bool (decide (xs = ys))) ∧ Below w.heap.size w w' := by
  obtain ⟨g, o, rfl, _, r1⟩ := ha.resolve_left (fun e => by rw [e] at hx; simp at hx; omega)
  obtain ⟨g', o', rfl, _, r2⟩ := hb.resolve_left (fun e => by rw [e] at hy; simp at hy; omega)
  refine (Try.slices_Equal_int g o n c g' o' m d xs ys w (by omega) (by omega) (by omega) (by omega) (fun j hj => r1 j hj) (fun j hj => r2 j hj)).mono ?_
  rintro e w' ⟨rfl, q, rfl⟩
  rw [← hx, ← hy, List.take_length, List.take_length]
  exact ⟨ret_bool (by rw [Bool.eq_iff_iff]; simp), below_drewN (Below.refl _ _) q⟩
set_option maxHeartbeats 4000000 in
theorem ho_any {a b o : Option Addr} {n m q c d e : Nat} {cs os : List Int} {w : World} (HM : Hid (cs.length = m)) (m1 : 1 ≤ m) (m8 : m ≤ 8) (HQ : Hid (os.length = q)) (hq : q ≤ 1048576) (HB : Hid (ARow w b cs)) (HO : Hid (ARow w o os)) :
    Calls Try.prog 34 #[.agg #[.slice a n c, .slice b m d, .slice o q e]] w fun e w' => e = .returned (.bool (Hs.fitB cs os)) ∧ Below w.heap.size w w' := by
  have hmk := makeI_run m (by omega)
  have hb0 := below_new w (.cells #[.slice a n c, .slice b m d, .slice o q e] 41)
  have hx0 := HBox.new w (.slice a n c) (.slice b m d) (.slice o q e) 41
  have hz0 : (w.alloc (.cells #[.slice a n c, .slice b m d, .slice o q e] 41)).heap.size = w.heap.size + 1 := by simp
  have hm0 := made_own (w.alloc (.cells #[.slice a n c, .slice b m d, .slice o q e] 41)) m (by omega)
  have hb1 := below_new (w.alloc (.cells #[.slice a n c, .slice b m d, .slice o q e] 41)) (.cells (madeCells #[.int .i64 0] m) 3)
  have HX := hide (hx0.below hb1)
  have HW := hide (hb0.trans (hb1.mono hb0.size))
  rw [hz0] at hm0
  have HM0 := hide hm0
  have hz1 : ((w.alloc (.cells #[.slice a n c, .slice b m d, .slice o q e] 41)).alloc (.cells (madeCells #[.int .i64 0] m) 3)).heap.size = w.heap.size + 2 := by simp
  have HZ := hide hz1
  have HYES : Hid (∀ ys, ys = Hs.ownN m os q → (∀ i, i < q → Pf.inB (os.getD i 0) 0 ((m : Int) - 1) = true) → decide (ys = cs) = Hs.fitB cs os) := hide fun ys h1 h2 => by
    unfold Hs.fitB
    rw [HM.out, Pf.allB_of (xs := os) (by rw [HQ.out]; exact h2), HQ.out, h1]; rfl
  clear hb0 hx0 hz0 hm0 hb1 hz1
  go_enter Try.func34, Try.ntmps34
  go_wp2_with fail
  generalize hW1 : (w.alloc (.cells #[.slice a n c, .slice b m d, .slice o q e] 41)).alloc (.cells (madeCells #[.int .i64 0] m) 3) = W1 at *
  clear hW1 hmk
  go_loopw [2, 5, 13] (fun s2 _ s wr => ∃ (k : Nat) (ys : List Int), s2 = .bool false ∧ s = .int .i64 k ∧ k ≤ q ∧ Hid (ys = Hs.ownN m os k) ∧ Hid (∀ i, i < k → Pf.inB (os.getD i 0) 0 ((m : Int) - 1) = true) ∧ Hid (wr.ownsRow (w.heap.size + 1) 3 1 (.slice (some ⟨w.heap.size + 1, 0, none⟩) m m) m (ints ys)) ∧ Hid (Below (w.heap.size + 1) W1 wr)) (fun _ _ s _ => q - (intOf s).toNat)
  case atStart => exact ⟨0, List.replicate m 0, rfl, rfl, Nat.zero_le _, hide rfl, hide fun i hi => absurd hi (Nat.not_lt_zero _), HM0, hide (Below.refl _ _)⟩
  case round =>
    obtain ⟨k, ys, rfl, rfl, hk, HY, HAL, HOW, HBW⟩ := hrel
    have HBB := hide (HW.out.trans (HBW.out.mono (by have := HZ.out; omega)))
    have hwz : w.heap.size + 2 ≤ wr.heap.size := by have := HBW.out.size; rw [HZ.out] at this; exact this
    have HXr : Hid (HBox wr w.heap.size (.slice a n c) (.slice b m d) (.slice o q e)) := hide (by
      obtain ⟨x0, x1, x2, x3⟩ := HX.out
      have hk (i : Nat) : wr.cell? ⟨w.heap.size, i, none⟩ = W1.cell? ⟨w.heap.size, i, none⟩ := HBW.out.cell (p := ⟨w.heap.size, i, none⟩) (by show w.heap.size < w.heap.size + 1; omega)
      exact ⟨(hk 0).trans x0, (hk 1).trans x1, (hk 2).trans x2, by omega⟩)
    obtain ⟨x0, x1, x2, _⟩ := HXr.out
    by_cases hlt : k < q
    · obtain ⟨ba, oa, rfl, r1⟩ := (HO.out.below HBB.out).at (i := k) (by rw [HQ.out]; exact hlt)
      have i0 : (0 : Int) ≤ (k : Int) := by omega
      have i1 : (k : Int) < (q : Int) := by omega
      have HX1 := hide (rfl : os.getD k 0 = os.getD k 0)
      generalize hx : os.getD k 0 = x at r1
      cases hin : Pf.inB x 0 ((m : Int) - 1)
      · have HF : Hid (false = Hs.fitB cs os) := hide (Hs.fit_no (i := k) (by rw [HQ.out]; exact hlt) (by rw [hx, HM.out]; exact hin)).symm
        have hml : wrap64 ((m : Int) - 1) = (m : Int) - 1 := wrap_id _ (by omega) (by omega)
        clear hx
        go_wp2_with fail
        refine (between_eq hin).mono ?_
        rintro _ w1 ⟨rfl, rfl⟩
        go_wp2_with fail
        go_ret
        exact ⟨ret_bool HF.out, HBB.out⟩
      · have hml : wrap64 ((m : Int) - 1) = (m : Int) - 1 := wrap_id _ (by omega) (by omega)
        obtain ⟨hx0, hx1⟩ := Pf.inB_yes hin
        obtain ⟨j, rfl⟩ := Int.eq_ofNat_of_zero_le hx0
        have j0 : (0 : Int) ≤ (j : Int) := by omega
        have j1 : (j : Int) < (m : Int) := by omega
        have hyl : ys.length = m := by rw [HY.out, Hs.ownN_len]
        have HY1 : Hid (ys.set j (ys.getD j 0 + 1) = Hs.ownN m os (k + 1)) := hide (by rw [HY.out]; show _ = List.set _ _ _; rw [hx]; rfl)
        have HAL1 : Hid (∀ i, i < k + 1 → Pf.inB (os.getD i 0) 0 ((m : Int) - 1) = true) := hide fun i hi => by
          by_cases e : i = k
          · subst e; rw [hx]; exact hin
          · exact HAL.out i (by omega)
        have hyb := Hs.ownN_le (m := m) (os := os) k j
        rw [← HY.out] at hyb
        have c0 : wr.cell? ⟨w.heap.size + 1, j, none⟩ = some (.int .i64 (ys.getD j 0)) := by rw [HOW.out.cellAt j (by omega), ints_get ys j (by omega)]
        have f0 := HOW.out.frozenAt j
        obtain ⟨st1, st2⟩ := HOW.out.stored j (.int .i64 (ys.getD j 0 + 1))
        rw [ints_set] at st1
        have HST := hide st1
        have HB3 := hide (HBW.out.setCell (p := ⟨w.heap.size + 1, j, none⟩) (Nat.le_refl _) (.int .i64 (ys.getD j 0 + 1)))
        generalize ys.getD j 0 = y at *
        have hy1 : wrap64 (y + 1) = y + 1 := wrap_id _ (by omega) (by omega)
        clear hx st1 st2 HXr
        go_wp2_with fail
        refine (between_eq hin).mono ?_
        rintro _ w1 ⟨rfl, rfl⟩
        go_wp2_with fail
        go_roundw
        case rel => exact ⟨k + 1, ys.set j (y + 1), rfl, by go_num, by omega, HY1, HAL1, HST, HB3⟩
        case measure => simp only [intOf]; omega
    · have hke : k = q := by omega
      subst hke
      have hyl : ys.length = m := by rw [HY.out, Hs.ownN_len]
      have hrow := (arow_owns hyl.symm HOW.out)
      have HE := hide (eqr17 (c := m) (d := d) hyl HM.out (by omega) (by omega) m1 m1 hrow (HB.out.below HBB.out))
      have HF := hide (HYES.out ys HY.out HAL.out)
      clear hrow
      go_wp2_with fail
      refine HE.out.mono ?_
      rintro _ w2 ⟨rfl, hb2⟩
      have HBf := hide (HBB.out.trans (hb2.mono HBB.out.size))
      clear hb2
      go_wp2_with fail
      go_ret
      exact ⟨ret_bool HF.out, HBf.out⟩
theorem ho_eq {a b o : Option Addr} {n m q c d e : Nat} {cs os : List Int} {w : World} {r : Bool} (HM : Hid (cs.length = m)) (m1 : 1 ≤ m) (m8 : m ≤ 8) (HQ : Hid (os.length = q)) (hq : q ≤ 1048576) (HB : Hid (ARow w b cs)) (HO : Hid (ARow w o os)) (hr : Hid (Hs.fitB cs os = r)) :
    Calls Try.prog 34 #[.agg #[.slice a n c, .slice b m d, .slice o q e]] w fun e w' => e = .returned (.bool r) ∧ Below w.heap.size w w' := hr.out ▸ ho_any HM m1 m8 HQ hq HB HO
end Go.Proofs.Ytlbagigghpiifaa
