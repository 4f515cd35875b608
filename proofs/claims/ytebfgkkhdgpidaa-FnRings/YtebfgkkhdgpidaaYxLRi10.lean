/-
  FnRings: plain facts of what is answered, and the law's own walk.
-/
import Derived.Test.YtebfgkkhdgpidaaY1
import Derived.Test.YtebfgkkhdgpidaaY3
import Derived.Deep.DeepCutAuto
namespace Go.Proofs.Ytebfgkkhdgpidaa
open Go.RowKit

open Classical in
theorem ans_need {n : Nat} {xs ws : List Int} {A R : Int} (hx : xs.length = n) (hs : Mx.sameB xs ws = true) (h : Ans xs ws A R) : A + R = (Mv.need n (Mx.fn xs) (Mx.fn ws) : Nat) ∧ 2 * R ≤ A := by
  rcases h with ⟨_, a, r, rfl, rfl, h1, h2⟩ | ⟨h, _⟩
  · rw [hx] at h1 h2
    obtain ⟨_, ht⟩ := Mx.same_two hs hx
    have h3 := Mv.two_rings ht
    have e1 : Mv.away n (Mx.fn xs) (Mx.fn ws) = a := h1
    have e2 : Mv.rings n (Mv.nxt n (Mx.fn xs) (Mx.fn ws)) = r := h2
    unfold Mv.need
    rw [e1, e2]
    rw [e1, e2] at h3
    omega
  · rw [hs] at h; cases h
/-- What the law asks of one pair. -/
theorem ri_facts {xs ws : List Int} {A R A' R' : Int} (hs : Mx.sameB xs ws = true) (h : Ans xs ws A R) (h' : Ans ws xs A' R') : Mx.sameB ws xs = true ∧ A' + R' = A + R ∧ decide (A + R = 0) = decide (xs = ws) ∧ ¬ A < 2 * R := by
  obtain ⟨hw, ht⟩ := Mx.same_two hs rfl
  obtain ⟨e1, e2⟩ := ans_need rfl hs h
  obtain ⟨e3, _⟩ := ans_need hw (Mx.same_turn hs) h'
  have e4 := Mx.need_turn rfl hs
  have e5 := Mv.need_zero ht
  refine ⟨Mx.same_turn hs, by omega, ?_, by omega⟩
  rw [decide_eq_decide]
  constructor
  · intro h0
    exact Mx.fn_ext rfl hw (e5.1 (by omega))
  · intro h0
    have := e5.2 (fun i _ => by rw [h0])
    omega
/-- And of a third. -/
theorem ri_third {xs ws : List Int} {A R P Q P' Q' : Int} {i k : Nat} (hi : i < xs.length) (hk : k < xs.length) (hs : Mx.sameB xs ws = true) (h : Ans xs ws A R) (h1 : Ans xs (Mx.swp2 xs i k) P Q) (h2 : Ans (Mx.swp2 xs i k) ws P' Q') :
    Mx.sameB xs (Mx.swp2 xs i k) = true ∧ Mx.sameB (Mx.swp2 xs i k) ws = true ∧ ¬ (P + Q) + (P' + Q') < A + R := by
  obtain ⟨g1, g2, hp⟩ := Mx.same_good hs
  have hp1 := Mx.swp2_perm hi hk
  have s1 := Mx.same_of g1 hp1.symm
  have s2 := Mx.same_of (Mx.good_perm g1 hp1.symm) (hp1.trans hp)
  obtain ⟨e1, _⟩ := ans_need rfl hs h
  obtain ⟨e2, _⟩ := ans_need rfl s1 h1
  obtain ⟨e3, _⟩ := ans_need hp1.length_eq s2 h2
  have := Mx.need_third rfl hs s1
  refine ⟨s1, s2, by omega⟩
theorem own_capLe {w : World} {base e s n g cp : Nat} {xs : List Value} (h : w.ownsRow base e s (.slice (some ⟨g, 0, none⟩) n cp) n xs) : n ≤ cp := by
  rcases h.2 with ⟨h, _⟩ | ⟨g', cap, cur, hv, _, _, hc, _⟩
  · cases h
  · cases hv; exact hc
set_option maxRecDepth 100000 in
set_option maxHeartbeats 1000000 in
theorem lRi10_long {a1 a2 : Option Addr} {len1 cap1 len2 cap2 : Nat} {w : World} (h1 : (1048576 : Int) < wrap64 ((len1 : Int) + (len2 : Int))) :
    Calls Try.prog 4 #[.slice a1 len1 cap1, .slice a2 len2 cap2] w fun e w' => e = .returned (.bool true) ∧ Below w.heap.size w w' := by
  go_enter Try.func4, Try.ntmps4
  go_wp2_with fail
  go_ret
  exact ⟨rfl, Below.refl _ _⟩
set_option maxRecDepth 100000 in
set_option maxHeartbeats 8000000 in
theorem lRi10_main {a1 a2 : Option Addr} {len1 cap1 len2 cap2 : Nat} {w : World} (hs1 : Hid (Src w a1 len1)) (hs2 : Hid (Src w a2 len2)) (hl2 : len2 ≤ 1048576) (h1 : ¬ (1048576 : Int) < wrap64 ((len1 : Int) + (len2 : Int))) :
    Calls Try.prog 4 #[.slice a1 len1 cap1, .slice a2 len2 cap2] w fun e w' => e = .returned (.bool true) ∧ Below w.heap.size w w' := by
  go_enter Try.func4, Try.ntmps4
  go_wp2_with fail
  refine (drawRO_any hs1).mono ?_
  rintro e w1 ⟨ax, cx, ay, cy, xs, ws, n, rfl, hx, hw, hn1, hn2, hcx, hcy, rx, ry, hb1⟩
  have HB1 := hide hb1
  obtain ⟨A, R, hans⟩ := ans_some xs ws
  obtain ⟨A', R', hans'⟩ := ans_some ws xs
  obtain ⟨b0, b1, b2, b3⟩ := ans_bd hans
  obtain ⟨b4, b5, b6, b7⟩ := ans_bd hans'
  have HRO := hide (ro_w (w := w1) hx hw hcx hcy hans rx ry)
  have HSR := hide fun (W : World) (h : Below w1.heap.size w1 W) => sro_w (w := W) hx hw hcx hcy hans (rx.below h) (ry.below h)
  have HMN := hide fun (W : World) (h : Below w1.heap.size w1 W) => mn_w (w := W) hx hw hcx hcy hans (rx.below h) (ry.below h)
  have HMT := hide fun (W : World) (h : Below w1.heap.size w1 W) => mn_w (w := W) hw hx hcy hcx hans' (ry.below h) (rx.below h)
  have HSI := hide fun (W : World) (h : Below w1.heap.size w1 W) => si10 (w := W) (c := cx) (d := cy) (hide hx) (hide hw) (by omega) (rx.below h) (ry.below h)
  have HFA := hide fun (h : Mx.sameB xs ws = true) => ri_facts h hans hans'
  have HRX := hide fun (W : World) (h : Below w1.heap.size w1 W) => rx.below h
  have HRY := hide fun (W : World) (h : Below w1.heap.size w1 W) => ry.below h
  have HX := hide hx
  have HW := hide hw
  have HANS := hide hans
  have HG : ∃ G, G = Mx.sameB xs ws := ⟨_, rfl⟩
  obtain ⟨G, hG⟩ := HG
  have HG' := hide hG
  rw [← hG] at HRO HSR HMN
  clear hG hans hans' hx hw rx ry hb1
  have hGG : (G != G) = false := by simp
  have hAA : (A != A) = false := by simp
  have hRR : (R != R) = false := by simp
  go_wp2_with fail
  refine HRO.out.mono ?_
  rintro e w2 ⟨rfl, hb2⟩
  have B2 := hide hb2
  clear hb2
  go_wp2_with fail
  refine (HSR.out _ B2.out).mono ?_
  rintro e w3 ⟨rfl, hb3⟩
  have B3 := hide (B2.out.trans (hb3.mono B2.out.size))
  clear hb3 B2 HRO HSR
  cases G
  · go_wp2_with fail
    go_ret
    exact ⟨rfl, HB1.out.trans (B3.out.mono HB1.out.size)⟩
  · obtain ⟨s1, f1, f2, f3⟩ := HFA.out HG'.out.symm
    rw [s1] at HMT
    have HF1 := hide f1
    rw [f1] at HMT
    have w1' : wrap64 (A + R) = A + R := by unfold wrap64; omega
    have w2' : wrap64 (2 * R) = 2 * R := by unfold wrap64; omega
    have HSN := hide fun (W : World) (h : Below w1.heap.size w1 W) => HSI.out W h
    clear HSI s1 f1
    have hz : (A + R == 0) = decide (xs = ws) := by
      rw [← f2]; by_cases e : A + R = 0 <;> simp [e]
    generalize decide (xs = ws) = D at *
    clear f2
    go_wp2_with fail
    refine (HMN.out _ B3.out).mono ?_
    rintro e w4 ⟨rfl, hb4⟩
    have B4 := hide (B3.out.trans (hb4.mono B3.out.size))
    clear hb4 B3
    go_wp2_with fail
    refine (HMT.out _ B4.out).mono ?_
    rintro e w5 ⟨rfl, hb5⟩
    have B5 := hide (B4.out.trans (hb5.mono B4.out.size))
    clear hb5 B4 HMT
    go_wp2_with fail
    refine (HSN.out _ B5.out).mono ?_
    rintro e w6 ⟨rfl, hb6⟩
    have B6 := hide (B5.out.trans (hb6.mono B5.out.size))
    clear hb6 B5 HSN
    go_upto_region 13 with fail
    have rx6 := HRX.out _ B6.out
    obtain ⟨v7, w7, hr7, own7, hb7⟩ := cl_run2 (c := cx) HX.out (by omega) rx6
    obtain ⟨g, cg, e7, hg0, hg1⟩ := own_some own7 (by omega)
    subst e7
    have HO7 := hide own7
    have B7 := hide (B6.out.trans (hb7.mono B6.out.size))
    have hgw : w1.heap.size ≤ g := by have := B6.out.size; omega
    clear rx6 own7 hb7 hg0
    obtain ⟨NN, nn0, nn1, hNN⟩ := num_srcY hs2.out hl2
    have HNN := hide hNN
    have HBW := hide (HB1.out.trans (B7.out.mono HB1.out.size))
    go_upto_region 14 with (at_builtin; refine Lib.wpList_append_run _ rfl _ _ _ _ rfl _ _ rfl rfl _ _ (hr7 _) ?_)
    clear hNN hr7
    go_upto_region 15 with (go_at_call 26; refine (HNN.out _ _ HBW.out).mono ?_; rintro e wq ⟨rfl, hw⟩; obtain rfl : w7 = wq := hw.symm)
    obtain ⟨i, hi⟩ : ∃ i : Nat, NN % (n : Int) = (i : Int) := ⟨(NN % (n : Int)).toNat, by have := Int.emod_nonneg NN (show (n : Int) ≠ 0 by omega); omega⟩
    obtain ⟨k, hk⟩ : ∃ k : Nat, NN / 11 % (n : Int) = (k : Int) := ⟨(NN / 11 % (n : Int)).toNat, by have := Int.emod_nonneg (NN / 11) (show (n : Int) ≠ 0 by omega); omega⟩
    have hin : i < n := by have := Int.emod_lt_of_pos NN (show (0 : Int) < n by omega); omega
    have hkn : k < n := by have := Int.emod_lt_of_pos (NN / 11) (show (0 : Int) < n by omega); omega
    rw [hi]
    clear hi
    go_upto_region 16 with (go_at_call 26; refine (HNN.out _ _ HBW.out).mono ?_; rintro e wq ⟨rfl, hw⟩; obtain rfl : w7 = wq := hw.symm)
    rw [hk]
    clear hk nn0 nn1 HNN HBW
    have i0 : (0 : Int) ≤ (i : Int) := by omega
    have i1 : (i : Int) < (n : Int) := by omega
    have k0 : (0 : Int) ≤ (k : Int) := by omega
    have k1 : (k : Int) < (n : Int) := by omega
    have own7 := HO7.out
    have hxl := HX.out
    have c1 : w7.cell? ⟨g, i, none⟩ = some (.int .i64 (xs.getD i 0)) := by rw [own7.cellAt i (by omega), ints_get xs i (by omega)]
    have c2 : w7.cell? ⟨g, k, none⟩ = some (.int .i64 (xs.getD k 0)) := by rw [own7.cellAt k (by omega), ints_get xs k (by omega)]
    have fr1 := own7.frozenAt i
    obtain ⟨st1, sg1⟩ := own7.stored i (.int .i64 (xs.getD k 0))
    rw [ints_set] at st1
    have c3 : (w7.setCell ⟨g, i, none⟩ (.int .i64 (xs.getD k 0))).cell? ⟨g, k, none⟩ = some (.int .i64 ((xs.set i (xs.getD k 0)).getD k 0)) := by rw [st1.cellAt k (by omega), ints_get _ k (by simp; omega)]
    have fr2 := st1.frozenAt k
    obtain ⟨st2, sg2⟩ := st1.stored k (.int .i64 (xs.getD i 0))
    rw [ints_set] at st2
    obtain ⟨P, Q, hp⟩ := ans_some xs (Mx.swp2 xs i k)
    obtain ⟨P', Q', hp'⟩ := ans_some (Mx.swp2 xs i k) ws
    obtain ⟨q0, q1, q2, q3⟩ := ans_bd hp
    obtain ⟨q4, q5, q6, q7⟩ := ans_bd hp'
    obtain ⟨s1, s2, s3⟩ := ri_third (by omega) (by omega) HG'.out.symm HANS.out hp hp'
    have B8 := hide ((B7.out.setCell (p := ⟨g, i, none⟩) hgw (.int .i64 (xs.getD k 0))).setCell (p := ⟨g, k, none⟩) hgw (.int .i64 (xs.getD i 0)))
    have HT := hide (arow_owns (xs := Mx.swp2 xs i k) (by simp [Mx.swp2, hxl]) st2)
    have HTL : Hid ((Mx.swp2 xs i k).length = n) := hide (by simp [Mx.swp2, hxl])
    have HM1 := hide (mn_w (c := cx) (d := cg) HX.out HTL.out hcx (own_capLe own7) hp (HRX.out _ B8.out) HT.out)
    have HM2 := hide fun (W : World) (h1 : Below w1.heap.size w1 W) (h2 : Below _ _ W) => mn_w (w := W) (c := cg) (d := cy) HTL.out HW.out (own_capLe own7) hcy hp' (HT.out.below h2) (HRY.out W h1)
    rw [s1] at HM1
    rw [s2] at HM2
    generalize (xs.set i (xs.getD k 0)).getD k 0 = y3 at *
    generalize xs.getD i 0 = y1 at *
    generalize xs.getD k 0 = y2 at *
    have w3' : wrap64 (P + Q + (P' + Q')) = P + Q + (P' + Q') := by unfold wrap64; omega
    clear own7 st1 st2 hp hp' s1 s2 HT HTL HO7 B7 B6 HANS HFA
    go_wp2_with fail
    refine HM1.out.mono ?_
    rintro e w8 ⟨rfl, hb8⟩
    have B9 := hide (B8.out.trans (hb8.mono B8.out.size))
    have HM3 := hide (HM2.out w8 B9.out hb8)
    clear hb8 HM1 HM2 B8
    go_wp2_with fail
    refine HM3.out.mono ?_
    rintro e w9 ⟨rfl, hb9⟩
    have B10 := hide (B9.out.trans (hb9.mono B9.out.size))
    clear hb9 HM3 B9
    go_wp2_with fail
    go_ret
    exact ⟨rfl, HB1.out.trans (B10.out.mono HB1.out.size)⟩
theorem lRi10_walk {a1 a2 : Option Addr} {len1 cap1 len2 cap2 : Nat} {w : World} (hs1 : Src w a1 len1) (hs2 : Src w a2 len2) (m1 : len1 ≤ 140737488351232) (m2 : len2 ≤ 140737488351232) :
    Calls Try.prog 4 #[.slice a1 len1 cap1, .slice a2 len2 cap2] w fun e w' => e = .returned (.bool true) ∧ Below w.heap.size w w' := by
  by_cases h1 : (1048576 : Int) < wrap64 ((len1 : Int) + (len2 : Int))
  · exact lRi10_long h1
  · refine lRi10_main (hide hs1) (hide hs2) ?_ h1
    rw [wrap_id _ (by omega) (by omega)] at h1
    omega
end Go.Proofs.Ytebfgkkhdgpidaa
