/-
  Draws of chapter 4: countsFor of the model's cursor, and what its Draw functions hand out: some lists, some number.
-/
import Derived.Test.YtljccbnkibfimaaDa
namespace Go.Proofs.Ytljccbnkibfimaa
open Go.RowKit

def shareO (fs : List Int) (p : Int) : List Int := if Sh.kindsB fs p = true then shareL fs p else []
theorem shareO_bd (fs : List Int) (p : Int) : (shareO fs p).length ≤ 9 ∧ Pf.allB (shareO fs p) 0 100 = true := by
  unfold shareO
  split
  · rename_i h
    obtain ⟨h1, h2, h3⟩ := Sh.kindsB_yes h
    have hf := Sh.flowB_yes h1
    have hs := Sh.share_shared h1 (p - fs.length).toNat (by omega)
    refine ⟨by rw [shareL_len]; omega, Pf.allB_of fun i hi => ?_⟩
    have := Sh.sharedB_at hs (i := i) (by rw [shareL_len] at hi; exact hi)
    exact Pf.inB_of (by show 0 ≤ (Sh.share fs _).getD i 0; omega) (by show (Sh.share fs _).getD i 0 ≤ 100; omega)
  · exact ⟨by simp, rfl⟩
theorem sso_one {a : Option Addr} {n c : Nat} {p : Int} {fs : List Int} {w : World} (h : Hid (ARow w a fs)) (hn : Hid (fs.length = n)) :
    Calls Try.prog 8 #[.slice a n c, .int .i64 p] w fun e w' => ∃ v, e = .returned (.tuple #[v, .bool (Sh.kindsB fs p)]) ∧ Below w.heap.size w w' ∧ w'.ownsRow w.heap.size 3 1 v (shareO fs p).length (ints (shareO fs p)) := by
  unfold shareO
  cases hk : Sh.kindsB fs p
  · exact (sso_no h hn (hide hk)).mono fun e w' ⟨h1, h2⟩ => ⟨_, h1, h2, World.ownsRow_nil _ _ _ _⟩
  · refine (sso_yes h hn (hide hk)).mono fun e w' ⟨v, h1, h2, h3⟩ => ⟨v, h1, h2, ?_⟩
    rw [if_pos rfl, shareL_len, hn.out]; exact h3
theorem allB_snoc {xs : List Int} {x lo hi : Int} (h : Pf.allB xs lo hi = true) (h1 : lo ≤ x) (h2 : x ≤ hi) : Pf.allB (xs ++ [x]) lo hi = true := by
  unfold Pf.allB at *
  rw [List.all_append, h]
  simp [Pf.inB_of h1 h2]

set_option maxRecDepth 100000 in
set_option maxHeartbeats 4000000 in
theorem countsFor_any {c len cap N n cf : Nat} {a aa : Option Addr} {fs : List Int} {w : World} (hc : Cur w c a len cap N) (hN : N ≤ 700000000) (hn : Hid (fs.length = n)) (hn9 : n ≤ 9) (hf : w.ownsRow (c + 1) 3 1 (.slice aa n cf) n (ints fs)) :
    Calls Try.prog 64 #[.pointer (some ⟨c, 0, none⟩), .slice aa n cf] w fun e w' => ∃ v xs, e = .returned v ∧ xs.length ≤ 9 ∧ w'.ownsRow w.heap.size 3 1 v xs.length (ints xs) ∧ Cur w' c a len cap (N + 60) ∧ Kp c w w' := by
  obtain ⟨i0, hi, hz0, hz1, hz2⟩ := info_parts infI
  have hcw := hc.1
  have HOLD := hide hc.old
  have HC := hide hc
  have HF := hide hf
  clear hc hf
  go_enter Try.func64, Try.ntmps64
  go_wp2_with fail
  refine (placesFor_any HC.out (by omega) hn9).mono ?_
  rintro e w1 ⟨p, rfl, p0, p1, hc1, hk1⟩
  have HC1 := hide hc1
  have HK1 := hide hk1
  have HR1 : Hid (ARow w1 aa fs) := hide (by
    obtain ⟨a', c', e, r⟩ := own_slice hn.out (own_kp HF.out hk1 (Nat.lt_succ_self _))
    cases e; exact r)
  have hs1 := hk1.size
  clear hc1 hk1
  go_upto_if 18 with (go_at_call 8; refine (sso_one HR1 hn).mono ?_; rintro e w2 ⟨v, rfl, hb2, own2⟩; have HO2 := hide (owns_low own2 hs1); have HC2 := hide (HC1.out.below hb2); have HK2 := hide (HK1.out.trans (Kp.of_below hb2)); clear own2 hb2)
  have HBD := hide (shareO_bd fs p)
  go_cut [5, 6] (fun s5 _ wc => ∃ xs : List Int, xs.length ≤ 9 ∧ Hid (Pf.allB xs 0 100 = true) ∧ Hid (wc.ownsRow w.heap.size 3 1 s5 xs.length (ints xs)) ∧ Hid (Cur wc c a len cap (N + 30)) ∧ Hid (Kp c w wc))
  case first =>
    cases hk : Sh.kindsB fs p
    · have HO2' : Hid (w2.ownsRow w.heap.size 3 1 v 0 (ints [])) := hide (by have := HO2.out; simp only [shareO, hk] at this; exact this)
      clear hk HO2
      simp only [Bool.not_false]
      go_wp2_with fail
      go_loopw [5, 21] (fun v s wr => ∃ (k : Nat) (xs : List Int), s = .int .i64 k ∧ k ≤ n ∧ xs.length = k ∧ Hid (Pf.allB xs 0 100 = true) ∧ wr.ownsRow w.heap.size 3 1 v k (ints xs) ∧ Hid (Cur wr c a len cap (N + 4 + 2 * k)) ∧ Hid (Kp c w wr)) (fun _ s _ => n - (intOf s).toNat)
      case atStart => exact ⟨0, [], rfl, Nat.zero_le _, rfl, hide rfl, HO2'.out, hide (HC2.out.le (by omega)), HK2⟩
      case round =>
        obtain ⟨k, xs, rfl, hkn, hxl, HA, hown, HCR, HKR⟩ := hrel
        by_cases hlt : k < n
        · go_wp2_with fail
          refine (pick_any 4 (by omega) HCR.out (by omega)).mono ?_
          rintro e w3 ⟨r3, rfl, q0, q1, hc3, hk3⟩
          have own3 := own_kp hown hk3 hcw
          have HC3 := hide hc3
          have HK3 := hide (HKR.out.trans hk3)
          have hs3 := HK3.out.size
          have HA3 := hide (allB_snoc (x := 1 + r3) HA.out (by omega) (by omega))
          clear hc3 hk3
          go_wp2_with (first
            | (at_builtin; refine wpList_append_own _ rfl _ _ 23 rfl w.heap.size 3 i0 (.int .i64 0) 1 8 Try.underlying23 hi hz0 hz1 hz2 rfl (by decide) _ _ _ rfl (own3.alloc _) ⟨w3.heap.size, 0, none⟩ 1 1 (ints [1 + r3]) rfl rfl (newI_one _ _ rfl) (intI_cells _) (by unfold maxLen; omega) (by omega) (by simp; omega) ?_))
          intro v' w4 hown' hgrow _
          have HK5 := hide (kp_grow HK3.out own3 hgrow)
          have HC5 := hide (cur_grow HC3.out hcw HOLD.out hs3 own3 hgrow)
          have HO5 : Hid (w4.ownsRow w.heap.size 3 1 v' (k + 1) (ints (xs ++ [1 + r3]))) := hide (by rw [ints_snoc]; exact hown')
          clear hown' hgrow own3
          go_wp2_with fail
          go_roundw
          case rel => exact ⟨k + 1, xs ++ [1 + r3], by go_num, by omega, by simp [hxl], HA3, HO5.out, hide (HC5.out.le (by omega)), HK5⟩
          case measure => simp only [intOf]; omega
        · have hke : k = n := by omega
          subst hke
          have HO := hide hown
          clear hown
          go_wp2_with fail
          go_meet
          case rel => exact ⟨xs, by omega, HA, hide (by rw [hxl]; exact HO.out), hide (HCR.out.le (by omega)), HKR⟩
    · clear hk
      go_wp2_with fail
      go_meet
      case rel => exact ⟨shareO fs p, HBD.out.1, hide HBD.out.2, HO2, hide (HC2.out.le (by omega)), HK2⟩
  case rest =>
    obtain ⟨xs, hx9, HA, HO, HC4, HK4⟩ := hcut
    obtain ⟨av, cv, rfl, _⟩ := own_slice rfl HO.out
    clear HBD HR1 HC1 HK1 HC2 HK2 HO2
    by_cases hl1 : (1 : Int) < (xs.length : Int)
    · obtain ⟨g, cap', e1, hg0, hg1⟩ := own_some HO.out (by omega)
      cases e1
      go_wp2_with fail
      refine (one_any 2 (by omega) HC4.out (by omega)).mono ?_
      rintro e w3 ⟨r3, rfl, hc3, hk3⟩
      have HO3 := hide (own_kp HO.out hk3 hcw)
      have HC3 := hide hc3
      have HK3 := hide (HK4.out.trans hk3)
      clear hc3 hk3
      cases r3
      · go_wp2_with fail
        go_ret
        exact ⟨_, xs, rfl, hx9, HO3.out, HC3.out.le (by omega), HK3.out⟩
      · go_wp2_with fail
        refine (pick_any (xs.length : Int) (by omega) HC3.out (by omega)).mono ?_
        rintro e w4 ⟨ri, rfl, q0, q1, hc4, hk4⟩
        have HO4 := hide (own_kp HO3.out hk4 hcw)
        have HC4' := hide hc4
        have HK4' := hide (HK3.out.trans hk4)
        clear hc4 hk4
        go_wp2_with fail
        refine (pick_any (xs.length : Int) (by omega) HC4'.out (by omega)).mono ?_
        rintro e w5 ⟨rk, rfl, t0, t1, hc5, hk5⟩
        have own5 := own_kp HO4.out hk5 hcw
        have HO5 := hide own5
        have HC5 := hide hc5
        have HK5 := hide (HK4'.out.trans hk5)
        clear hc5 hk5 HO4 HC4' HK4' HO3 HC3 HK3
        obtain ⟨i, rfl⟩ := Int.eq_ofNat_of_zero_le q0
        obtain ⟨k, rfl⟩ := Int.eq_ofNat_of_zero_le t0
        have hi1 : (i : Int) < (xs.length : Int) := by omega
        have hk1 : (k : Int) < (xs.length : Int) := by omega
        have hi0 : (0 : Int) ≤ (i : Int) := by omega
        have hk0 : (0 : Int) ≤ (k : Int) := by omega
        have ci : w5.cell? ⟨g, i, none⟩ = some (.int .i64 (xs.getD i 0)) := by rw [own5.cellAt i (by omega), ints_get xs i (by omega)]
        obtain ⟨x0, x1⟩ := Pf.inB_yes (Pf.allB_get HA.out (i := i) (by omega))
        clear own5 q1 t1
        have fin : ∀ (w6 : World) (M : Nat), M ≤ N + 50 → Hid (w6.ownsRow w.heap.size 3 1 (.slice (some ⟨g, 0, none⟩) xs.length cv) xs.length (ints xs)) → Hid (Cur w6 c a len cap M) → Hid (Kp c w w6) →
            ∃ f1 y f2, w6.cell? ⟨g, i, none⟩ = some (.int .i64 (xs.getD i 0)) ∧ w6.frozen? ⟨g, i, none⟩ = f1 ∧ f1 = false ∧ (w6.setCell ⟨g, i, none⟩ (.int .i64 (xs.getD i 0 - 1))).cell? ⟨g, k, none⟩ = some (.int .i64 y) ∧ -1 ≤ y ∧ y ≤ 100 ∧ (w6.setCell ⟨g, i, none⟩ (.int .i64 (xs.getD i 0 - 1))).frozen? ⟨g, k, none⟩ = f2 ∧ f2 = false ∧
              ∃ zs : List Int, zs.length = xs.length ∧ Hid (((w6.setCell ⟨g, i, none⟩ (.int .i64 (xs.getD i 0 - 1))).setCell ⟨g, k, none⟩ (.int .i64 (y + 1))).ownsRow w.heap.size 3 1 (.slice (some ⟨g, 0, none⟩) xs.length cv) xs.length (ints zs)) ∧
                Hid (Cur ((w6.setCell ⟨g, i, none⟩ (.int .i64 (xs.getD i 0 - 1))).setCell ⟨g, k, none⟩ (.int .i64 (y + 1))) c a len cap (N + 60)) ∧ Hid (Kp c w ((w6.setCell ⟨g, i, none⟩ (.int .i64 (xs.getD i 0 - 1))).setCell ⟨g, k, none⟩ (.int .i64 (y + 1)))) := by
          intro w6 M hM HO6 HC6 HK6
          obtain ⟨st1, _⟩ := HO6.out.stored i (.int .i64 (xs.getD i 0 - 1))
          rw [ints_set] at st1
          obtain ⟨st2, _⟩ := st1.stored k (.int .i64 ((xs.set i (xs.getD i 0 - 1)).getD k 0 + 1))
          rw [ints_set] at st2
          have hk9 : k < xs.length := by omega
          have hb : -1 ≤ (xs.set i (xs.getD i 0 - 1)).getD k 0 ∧ (xs.set i (xs.getD i 0 - 1)).getD k 0 ≤ 100 := by
            rw [Sh.set_get _ _ _ _ (by omega)]
            have := Pf.inB_yes (Pf.allB_get HA.out (i := k) hk9)
            split <;> omega
          exact ⟨_, (xs.set i (xs.getD i 0 - 1)).getD k 0, _, by rw [HO6.out.cellAt i (by omega), ints_get xs i (by omega)], rfl, HO6.out.frozenAt i, by rw [st1.cellAt k (by omega), ints_get _ k (by simp; omega)], hb.1, hb.2, rfl, st1.frozenAt k,
            _, by simp, hide st2, hide ((cur_set (cur_set HC6.out hcw HOLD.out hg0) hcw HOLD.out hg0).le (by omega)), hide (kp_set (kp_set HK6.out hg0) hg0)⟩
        have FIN := hide fin
        clear fin
        generalize hxi : xs.getD i 0 = x at *
        by_cases hx1 : (1 : Int) < x
        · obtain ⟨f1, y, f2, c1, fe1, rfl, c2, y0, y1, fe2, rfl, zs, hz, HZ, HCZ, HKZ⟩ := FIN.out w5 _ (by omega) HO5 HC5 HK5
          clear FIN
          go_wp2_with fail
          go_ret
          exact ⟨_, zs, rfl, by omega, by rw [hz]; exact HZ.out, HCZ.out, HKZ.out⟩
        · go_wp2_with fail
          refine (one_any 12 (by omega) HC5.out (by omega)).mono ?_
          rintro e w6 ⟨r6, rfl, hc6, hk6⟩
          have HO6 := hide (own_kp HO5.out hk6 hcw)
          have HC6 := hide hc6
          have HK6 := hide (HK5.out.trans hk6)
          clear hc6 hk6
          cases r6
          · go_wp2_with fail
            go_ret
            exact ⟨_, xs, rfl, hx9, HO6.out, HC6.out.le (by omega), HK6.out⟩
          · obtain ⟨f1, y, f2, c1, fe1, rfl, c2, y0, y1, fe2, rfl, zs, hz, HZ, HCZ, HKZ⟩ := FIN.out w6 _ (by omega) HO6 HC6 HK6
            clear FIN
            go_wp2_with fail
            go_ret
            exact ⟨_, zs, rfl, by omega, by rw [hz]; exact HZ.out, HCZ.out, HKZ.out⟩
    · go_wp2_with fail
      go_ret
      exact ⟨_, rfl, xs, hx9, HO.out, HC4.out.le (by omega), HK4.out⟩
end Go.Proofs.Ytljccbnkibfimaa
