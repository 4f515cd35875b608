/-
  What the model's tests of a house answer, and OwnersFit and GoodHouse of both.
-/
import Derived.Test.YtlbagigghpiifaaHb17
namespace Go.Proofs.Ytlbagigghpiifaa
open Go.RowKit

namespace Hs
/-- What counts are together, for the model: -1 where they are none. -/
def sumI (cs : List Int) : Int := if Pf.allB cs 1 10 = true ∧ cs.length ≤ 8 then cs.sum else -1
theorem sumI_yes {cs : List Int} (h : cntB cs = true) : sumI cs = cs.sum := by
  obtain ⟨_, h2, h3, _⟩ := cntB_yes h
  rw [sumI, if_pos ⟨h3, h2⟩]
theorem cnt_sumI (cs : List Int) : (cntB cs && decide (cs.sum = sumI cs)) = cntB cs := by
  cases h : cntB cs
  · rfl
  · rw [sumI_yes h]; simp
end Hs
theorem sall17 {a : Option Addr} {n c : Nat} {xs : List Int} {lo hi : Int} {w : World} {r : Bool} (h : Hid (ARow w a xs)) (hn : Hid (xs.length = n)) (hl : n ≤ 4000000000000) (hr : Hid (Pf.allB xs lo hi = r)) :
    Calls Try.prog 41 #[.slice a n c, .int .i64 lo, .int .i64 hi] w fun e w' => e = .returned (.bool r) ∧ w' = w := by
  have := hn.out
  subst this
  exact all_eq h.out (by omega) hr.out
theorem ssum17 {a : Option Addr} {n c : Nat} {xs : List Int} {w : World} (h : Hid (ARow w a xs)) (hn : Hid (xs.length = n)) (hl : n ≤ 1000) (hr : Hid (Pf.allB xs (-10000000) 10000000 = true)) :
    Calls Try.prog 61 #[.slice a n c] w fun e w' => e = .returned (.int .i64 xs.sum) ∧ w' = w := by
  have := hn.out
  subst this
  exact sisum_any h.out (by omega) hr.out
set_option maxHeartbeats 1000000 in
theorem scnt_any {b : Option Addr} {m d : Nat} {N : Int} {cs : List Int} {w : World} (g : Hid (ARow w b cs)) (hm : Hid (cs.length = m)) :
    Calls Try.prog 37 #[.slice b m d, .int .i64 N] w fun e w' => e = .returned (.bool (Hs.cntB cs && decide (cs.sum = N))) ∧ w' = w := by
  have HE : Hid ((Hs.cntB cs && decide (cs.sum = N)) = (Pf.inB m 1 8 && (Pf.allB cs 1 10 && (decide (cs.sum = N) && decide (N ≤ 10))))) := hide (by
    unfold Hs.cntB; rw [hm.out]
    by_cases e : cs.sum = N
    · rw [e]; cases Pf.inB (m : Int) 1 8 <;> cases Pf.allB cs 1 10 <;> simp
    · simp [e])
  generalize (Hs.cntB cs && decide (cs.sum = N)) = G at *
  cases h1 : Pf.inB m 1 8
  · have HF : Hid (false = G) := hide (by rw [HE.out, h1]; rfl)
    go_enter Try.func37, Try.ntmps37
    go_wp2_with (go_at_call 60; refine (in_eq h1).mono ?_; rintro e w1 ⟨rfl, rfl⟩)
    go_ret
    exact ⟨ret_bool HF.out, rfl⟩
  · have hl : m ≤ 8 := by have := Pf.inB_yes h1; omega
    cases h2 : Pf.allB cs 1 10
    · have HF : Hid (false = G) := hide (by rw [HE.out, h1, h2]; rfl)
      have H2 := hide h2
      clear h2
      go_enter Try.func37, Try.ntmps37
      go_wp2_with (first
        | (go_at_call 60; refine (in_eq h1).mono ?_; rintro e w1 ⟨rfl, rfl⟩)
        | (go_at_call 41; refine (sall17 g hm (by omega) H2).mono ?_; rintro e w1 ⟨rfl, rfl⟩))
      go_ret
      exact ⟨ret_bool HF.out, rfl⟩
    · have H2 := hide h2
      have HS : Hid (Pf.allB cs (-10000000) 10000000 = true) := hide (Pf.allB_of fun i hi => by have := Pf.inB_yes (Pf.allB_get h2 hi); exact Pf.inB_of (by omega) (by omega))
      by_cases hn : cs.sum = N
      · have he : (cs.sum == N) = true := by simpa using hn
        have HF : Hid (decide (N ≤ 10) = G) := hide (by rw [HE.out, h1, h2, hn]; simp)
        clear h2 hn
        go_enter Try.func37, Try.ntmps37
        go_wp2_with (first
          | (go_at_call 60; refine (in_eq h1).mono ?_; rintro e w1 ⟨rfl, rfl⟩)
          | (go_at_call 41; refine (sall17 g hm (by omega) H2).mono ?_; rintro e w1 ⟨rfl, rfl⟩)
          | (go_at_call 61; refine (ssum17 g hm (by omega) HS).mono ?_; rintro e w1 ⟨rfl, rfl⟩))
        go_ret
        exact ⟨ret_bool HF.out, rfl⟩
      · have he : (cs.sum == N) = false := by simpa using hn
        have HF : Hid (false = G) := hide (by rw [HE.out, h1, h2]; simp [hn])
        clear h2 hn
        go_enter Try.func37, Try.ntmps37
        go_wp2_with (first
          | (go_at_call 60; refine (in_eq h1).mono ?_; rintro e w1 ⟨rfl, rfl⟩)
          | (go_at_call 41; refine (sall17 g hm (by omega) H2).mono ?_; rintro e w1 ⟨rfl, rfl⟩)
          | (go_at_call 61; refine (ssum17 g hm (by omega) HS).mono ?_; rintro e w1 ⟨rfl, rfl⟩))
        go_ret
        exact ⟨ret_bool HF.out, rfl⟩
theorem scnt_eq {b : Option Addr} {m d : Nat} {N : Int} {cs : List Int} {w : World} {r : Bool} (g : Hid (ARow w b cs)) (hm : Hid (cs.length = m)) (hr : Hid ((Hs.cntB cs && decide (cs.sum = N)) = r)) :
    Calls Try.prog 37 #[.slice b m d, .int .i64 N] w fun e w' => e = .returned (.bool r) ∧ w' = w := hr.out ▸ scnt_any g hm
set_option maxHeartbeats 1000000 in
theorem ssumI_any {b : Option Addr} {m d : Nat} {cs : List Int} {w : World} (g : Hid (ARow w b cs)) (hm : Hid (cs.length = m)) (hl : m ≤ 4000000000000) :
    Calls Try.prog 38 #[.slice b m d] w fun e w' => e = .returned (.int .i64 (Hs.sumI cs)) ∧ w' = w := by
  cases h2 : Pf.allB cs 1 10
  · have HF : Hid ((-1 : Int) = Hs.sumI cs) := hide (by unfold Hs.sumI; rw [if_neg]; rw [h2]; simp)
    generalize Hs.sumI cs = S at *
    obtain rfl := HF.out
    have H2 := hide h2
    clear h2 HF
    go_enter Try.func38, Try.ntmps38
    go_wp2_with (go_at_call 41; refine (sall17 g hm hl H2).mono ?_; rintro e w1 ⟨rfl, rfl⟩)
    go_ret
    exact ⟨rfl, rfl⟩
  · by_cases h8 : m ≤ 8
    · have HF : Hid (cs.sum = Hs.sumI cs) := hide (by unfold Hs.sumI; rw [if_pos ⟨h2, by rw [hm.out]; exact h8⟩])
      have h9 : ¬ (8 : Int) < (m : Int) := by omega
      have H2 := hide h2
      have HS : Hid (Pf.allB cs (-10000000) 10000000 = true) := hide (Pf.allB_of fun i hi => by have := Pf.inB_yes (Pf.allB_get h2 hi); exact Pf.inB_of (by omega) (by omega))
      clear h2
      go_enter Try.func38, Try.ntmps38
      go_wp2_with (first
        | (go_at_call 41; refine (sall17 g hm hl H2).mono ?_; rintro e w1 ⟨rfl, rfl⟩)
        | (go_at_call 61; refine (ssum17 g hm (by omega) HS).mono ?_; rintro e w1 ⟨rfl, rfl⟩))
      go_ret
      exact ⟨by rw [HF.out]; rfl, rfl⟩
    · have HF : Hid ((-1 : Int) = Hs.sumI cs) := hide (by unfold Hs.sumI; rw [if_neg]; rw [hm.out]; exact fun h => h8 h.2)
      have h9 : (8 : Int) < (m : Int) := by omega
      generalize Hs.sumI cs = S at *
      obtain rfl := HF.out
      have H2 := hide h2
      clear h2 HF
      go_enter Try.func38, Try.ntmps38
      go_wp2_with (go_at_call 41; refine (sall17 g hm hl H2).mono ?_; rintro e w1 ⟨rfl, rfl⟩)
      go_ret
      exact ⟨rfl, rfl⟩
set_option maxHeartbeats 1000000 in
theorem sm17_some (xs ys : List Int) (b o c b' o' c' n : Nat) (w : World) (hx : Hid (xs.length = n)) (hy : Hid (ys.length = n)) (hl : n ≤ 4000000000000) (h1 : ∀ i, i < xs.length → w.cell? ⟨b, o + i, none⟩ = some (.int .i64 (xs.getD i 0))) (h2 : ∀ i, i < ys.length → w.cell? ⟨b', o' + i, none⟩ = some (.int .i64 (ys.getD i 0))) :
    Calls Try.prog 53 #[.slice (some ⟨b, o, none⟩) n c, .slice (some ⟨b', o', none⟩) n c'] w fun e w' => e = .returned (.bool (decide (xs = ys))) ∧ ∃ m, w' = w.drewN m := by
  have hne : ((n : Int) != (n : Int)) = false := by simp
  rw [hx.out] at h1
  rw [hy.out] at h2
  have H1 := hide h1
  have H2 := hide h2
  clear h1 h2
  go_enter Try.func53, Try.ntmps53
  go_wp2_with fail
  go_loopw [13] (fun s wr => ∃ k : Nat, s = .int .i64 k ∧ k ≤ n ∧ Hid (∀ j, j < k → xs.getD j 0 = ys.getD j 0) ∧ ∃ m, wr = w.drewN m) (fun s _ => n - (intOf s).toNat)
  case atStart => exact ⟨0, rfl, Nat.zero_le _, hide (fun j h => by omega), 0, rfl⟩
  case round =>
    obtain ⟨k, rfl, hk, HE, m, rfl⟩ := hrel
    by_cases hlt : k < n
    · have r1 := H1.out k hlt
      have r2 := H2.out k hlt
      have i0 : (0 : Int) ≤ (k : Int) := by omega
      have i1 : (k : Int) < (n : Int) := by omega
      by_cases he : xs.getD k 0 = ys.getD k 0
      · have HE2 : Hid (∀ j, j < k + 1 → xs.getD j 0 = ys.getD j 0) := hide (fun j hj => by
          by_cases e : j = k
          · subst e; exact he
          · exact HE.out j (by omega))
        rw [← he] at r2
        generalize xs.getD k 0 = x at *
        have hxx : (x != x) = false := by simp
        clear he HE
        go_wp2_with fail
        go_region
        go_wp2_with fail
        exact ⟨⟨k + 1, by go_num, by omega, HE2, m + 1, rfl⟩, by simp only [intOf]; omega⟩
      · have HD : Hid (false = decide (xs = ys)) := hide (by
          symm; rw [decide_eq_false_iff_not]
          exact fun e => he (by rw [e]))
        have hxx : (xs.getD k 0 != ys.getD k 0) = true := by simpa using he
        generalize xs.getD k 0 = x at *
        generalize ys.getD k 0 = y at *
        clear he HE
        go_wp2_with fail
        go_region
        go_wp2_with fail
        go_ret
        exact ⟨ret_bool HD.out, m + 1, rfl⟩
    · have HD : Hid (true = decide (xs = ys)) := hide (by
        symm; rw [decide_eq_true_eq]
        exact eq_upto17 hx.out hy.out (fun j hj => HE.out j (by omega)))
      go_wp2_with fail
      go_ret
      exact ⟨ret_bool HD.out, m, rfl⟩
theorem sm17 {a b : Option Addr} {c d n : Nat} {xs ys : List Int} {w : World} (hx : Hid (xs.length = n)) (hy : Hid (ys.length = n)) (h0 : 1 ≤ n) (hl : n ≤ 1048576) (h1 : ARow w a xs) (h2 : ARow w b ys) :
    Calls Try.prog 53 #[.slice a n c, .slice b n d] w fun e w' => e = .returned (.bool (decide (xs = ys))) ∧ Below w.heap.size w w' := by
  have lx := hx.out
  have ly := hy.out
  rcases h1 with rfl | ⟨b1, o1, rfl, hb1, c1⟩
  · simp at lx; omega
  · rcases h2 with rfl | ⟨b2, o2, rfl, hb2, c2⟩
    · simp at ly; omega
    · exact (sm17_some xs ys b1 o1 c b2 o2 d n w hx hy (by omega) c1 c2).mono fun e w' ⟨h, m, hw⟩ => ⟨h, hw ▸ below_drewN (Below.refl _ _) m⟩
set_option maxHeartbeats 4000000 in
theorem sfit_any {b o : Option Addr} {m q d e : Nat} {cs os : List Int} {w : World} (HM : Hid (cs.length = m)) (m1 : 1 ≤ m) (m8 : m ≤ 8) (HQ : Hid (os.length = q)) (hq : q ≤ 1048576) (HB : Hid (ARow w b cs)) (HO : Hid (ARow w o os)) :
    Calls Try.prog 31 #[.slice b m d, .slice o q e] w fun e w' => e = .returned (.bool (Hs.fitB cs os)) ∧ Below w.heap.size w w' := by
  have hmk := makeI_run m (by omega)
  have HM0 := hide (made_own w m (by omega))
  have HW := hide (below_new w (.cells (madeCells #[.int .i64 0] m) 3))
  have hz1 : (w.alloc (.cells (madeCells #[.int .i64 0] m) 3)).heap.size = w.heap.size + 1 := by simp
  have HZ := hide hz1
  have HYES : Hid (∀ ys, ys = Hs.ownN m os q → (∀ i, i < q → Pf.inB (os.getD i 0) 0 ((m : Int) - 1) = true) → decide (ys = cs) = Hs.fitB cs os) := hide fun ys h1 h2 => by
    unfold Hs.fitB
    rw [HM.out, Pf.allB_of (xs := os) (by rw [HQ.out]; exact h2), HQ.out, h1]; rfl
  clear hz1
  go_enter Try.func31, Try.ntmps31
  go_wp2_with fail
  generalize hW1 : w.alloc (.cells (madeCells #[.int .i64 0] m) 3) = W1 at *
  clear hW1 hmk
  go_loopw [4, 7, 13] (fun s2 _ s wr => ∃ (k : Nat) (ys : List Int), s2 = .bool false ∧ s = .int .i64 k ∧ k ≤ q ∧ Hid (ys = Hs.ownN m os k) ∧ Hid (∀ i, i < k → Pf.inB (os.getD i 0) 0 ((m : Int) - 1) = true) ∧ Hid (wr.ownsRow w.heap.size 3 1 (.slice (some ⟨w.heap.size, 0, none⟩) m m) m (ints ys)) ∧ Hid (Below w.heap.size w wr)) (fun _ _ s _ => q - (intOf s).toNat)
  case atStart => exact ⟨0, List.replicate m 0, rfl, rfl, Nat.zero_le _, hide rfl, hide fun i hi => absurd hi (Nat.not_lt_zero _), HM0, HW⟩
  case round =>
    obtain ⟨k, ys, rfl, rfl, hk, HY, HAL, HOW, HBB⟩ := hrel
    by_cases hlt : k < q
    · obtain ⟨ba, oa, rfl, r1⟩ := (HO.out.below HBB.out).at (i := k) (by rw [HQ.out]; exact hlt)
      have i0 : (0 : Int) ≤ (k : Int) := by omega
      have i1 : (k : Int) < (q : Int) := by omega
      generalize hx : os.getD k 0 = x at r1
      cases hin : Pf.inB x 0 ((m : Int) - 1)
      · have HF : Hid (false = Hs.fitB cs os) := hide (Hs.fit_no (i := k) (by rw [HQ.out]; exact hlt) (by rw [hx, HM.out]; exact hin)).symm
        clear hx
        by_cases hx0 : x < 0
        · go_wp2_with fail
          go_ret
          exact ⟨ret_bool HF.out, HBB.out⟩
        · have hx1 : (m : Int) ≤ x := by have := Pf.inB_no hin; omega
          go_wp2_with fail
          go_ret
          exact ⟨ret_bool HF.out, HBB.out⟩
      · obtain ⟨hx0, hx1⟩ := Pf.inB_yes hin
        obtain ⟨j, rfl⟩ := Int.eq_ofNat_of_zero_le hx0
        have j0 : (0 : Int) ≤ (j : Int) := by omega
        have j1 : (j : Int) < (m : Int) := by omega
        have j2 : ¬ (j : Int) < 0 := by omega
        have j3 : ¬ (m : Int) ≤ (j : Int) := by omega
        have hyl : ys.length = m := by rw [HY.out, Hs.ownN_len]
        have HY1 : Hid (ys.set j (ys.getD j 0 + 1) = Hs.ownN m os (k + 1)) := hide (by rw [HY.out]; show _ = List.set _ _ _; rw [hx]; rfl)
        have HAL1 : Hid (∀ i, i < k + 1 → Pf.inB (os.getD i 0) 0 ((m : Int) - 1) = true) := hide fun i hi => by
          by_cases e : i = k
          · subst e; rw [hx]; exact hin
          · exact HAL.out i (by omega)
        have hyb := Hs.ownN_le (m := m) (os := os) k j
        rw [← HY.out] at hyb
        have c0 : wr.cell? ⟨w.heap.size, j, none⟩ = some (.int .i64 (ys.getD j 0)) := by rw [HOW.out.cellAt j (by omega), ints_get ys j (by omega)]
        have f0 := HOW.out.frozenAt j
        obtain ⟨st1, st2⟩ := HOW.out.stored j (.int .i64 (ys.getD j 0 + 1))
        rw [ints_set] at st1
        have HST := hide st1
        have HB3 := hide (HBB.out.setCell (p := ⟨w.heap.size, j, none⟩) (Nat.le_refl _) (.int .i64 (ys.getD j 0 + 1)))
        generalize ys.getD j 0 = y at *
        have hy1 : wrap64 (y + 1) = y + 1 := wrap_id _ (by omega) (by omega)
        clear hx st1 st2 hin
        go_wp2_with fail
        go_roundw
        case rel => exact ⟨k + 1, ys.set j (y + 1), rfl, by go_num, by omega, HY1, HAL1, HST, HB3⟩
        case measure => simp only [intOf]; omega
    · have hke : k = q := by omega
      subst hke
      have hyl : ys.length = m := by rw [HY.out, Hs.ownN_len]
      have hrow := (arow_owns hyl.symm HOW.out)
      have HE := hide (sm17 (c := m) (d := d) (hide hyl) HM m1 (by omega) hrow (HB.out.below HBB.out))
      have HF := hide (HYES.out ys HY.out HAL.out)
      clear hrow
      go_wp2_with fail
      refine HE.out.mono ?_
      rintro _ w2 ⟨rfl, hb2⟩
      have HBf := hide (HBB.out.trans (hb2.mono HBB.out.size))
      clear hb2
      go_wp2_with fail
      go_ret
      exact ⟨ret_bool HF.out, HBf.out⟩
theorem sfit_eq {b o : Option Addr} {m q d e : Nat} {cs os : List Int} {w : World} {r : Bool} (HM : Hid (cs.length = m)) (m1 : 1 ≤ m) (m8 : m ≤ 8) (HQ : Hid (os.length = q)) (hq : q ≤ 1048576) (HB : Hid (ARow w b cs)) (HO : Hid (ARow w o os)) (hr : Hid (Hs.fitB cs os = r)) :
    Calls Try.prog 31 #[.slice b m d, .slice o q e] w fun e w' => e = .returned (.bool r) ∧ Below w.heap.size w w' := hr.out ▸ sfit_any HM m1 m8 HQ hq HB HO
set_option maxHeartbeats 1000000 in
theorem of17_any {b o : Option Addr} {m q d e : Nat} {cs os : List Int} {w : World} (HM : Hid (cs.length = m)) (HQ : Hid (os.length = q)) (hq : q ≤ 1048576) (HB : Hid (ARow w b cs)) (HO : Hid (ARow w o os)) :
    Calls Try.prog 18 #[.slice b m d, .slice o q e] w fun e w' => e = .returned (.tuple #[.bool (Hs.cntB cs && Hs.fitB cs os), .bool (Hs.cntB cs)]) ∧ Below w.heap.size w w' := by
  cases h : Hs.cntB cs
  · have H := hide h
    clear h
    go_enter Try.func18, Try.ntmps18
    go_wp2_with (go_at_call 39; refine (asc_eq HB HM H).mono ?_; rintro e w1 ⟨rfl, rfl⟩)
    go_ret2
    exact ⟨rfl, Below.refl _ _⟩
  · obtain ⟨m1, m8, _⟩ := cnt_few HM h
    have H := hide h
    have HC := hide (ho_any (a := none) (n := 0) (c := 0) (d := d) (e := e) HM m1 m8 HQ hq HB HO)
    clear h
    go_enter Try.func18, Try.ntmps18
    go_wp2_with fail
    refine (asc_eq HB HM H).mono ?_
    rintro _ w1 ⟨rfl, hw⟩
    obtain rfl : w = w1 := hw.symm
    go_wp2_with fail
    refine HC.out.mono ?_
    rintro _ w2 ⟨rfl, hb2⟩
    go_wp2_with fail
    go_ret2
    exact ⟨rfl, hb2⟩
set_option maxHeartbeats 1000000 in
theorem sof17_any {b o : Option Addr} {m q d e : Nat} {cs os : List Int} {w : World} (HM : Hid (cs.length = m)) (hm : m ≤ 4000000000000) (HQ : Hid (os.length = q)) (hq : q ≤ 1048576) (HB : Hid (ARow w b cs)) (HO : Hid (ARow w o os)) :
    Calls Try.prog 17 #[.slice b m d, .slice o q e] w fun e w' => e = .returned (.tuple #[.bool (Hs.cntB cs && Hs.fitB cs os), .bool (Hs.cntB cs)]) ∧ Below w.heap.size w w' := by
  have HSI := hide (ssumI_any (d := d) HB HM hm)
  have HCN := hide (Hs.cnt_sumI cs)
  cases h : Hs.cntB cs
  · have H : Hid ((Hs.cntB cs && decide (cs.sum = Hs.sumI cs)) = false) := hide (HCN.out.trans h)
    generalize Hs.sumI cs = S at *
    clear h HCN
    go_enter Try.func17, Try.ntmps17
    go_wp2_with fail
    refine HSI.out.mono ?_
    rintro _ w1 ⟨rfl, hw⟩
    obtain rfl : w = w1 := hw.symm
    go_wp2_with fail
    refine (scnt_eq HB HM H).mono ?_
    rintro _ w1 ⟨rfl, hw⟩
    obtain rfl : w = w1 := hw.symm
    go_wp2_with fail
    go_ret2
    exact ⟨rfl, Below.refl _ _⟩
  · obtain ⟨m1, m8, _⟩ := cnt_few HM h
    have H : Hid ((Hs.cntB cs && decide (cs.sum = Hs.sumI cs)) = true) := hide (HCN.out.trans h)
    have HC := hide (sfit_any (d := d) (e := e) HM m1 m8 HQ hq HB HO)
    generalize Hs.sumI cs = S at *
    clear h HCN
    go_enter Try.func17, Try.ntmps17
    go_wp2_with fail
    refine HSI.out.mono ?_
    rintro _ w1 ⟨rfl, hw⟩
    obtain rfl : w = w1 := hw.symm
    go_wp2_with fail
    refine (scnt_eq HB HM H).mono ?_
    rintro _ w1 ⟨rfl, hw⟩
    obtain rfl : w = w1 := hw.symm
    go_wp2_with fail
    refine HC.out.mono ?_
    rintro _ w2 ⟨rfl, hb2⟩
    go_wp2_with fail
    go_ret2
    exact ⟨rfl, hb2⟩
end Go.Proofs.Ytlbagigghpiifaa
