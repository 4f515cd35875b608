/-
  FnBoxes: the law's own walk.
-/
import Derived.Test.YtnchkgblpnompaaX3
import Derived.Test.YtnchkgblpnompaaX4
import Derived.Test.YtnchkgblpnompaaX2
import Derived.Deep.RegionHeld3
import Derived.Deep.DeepCutAuto
namespace Go.Proofs.Ytnchkgblpnompaa
open Go.RowKit

set_option maxRecDepth 100000 in
set_option maxHeartbeats 400000 in
theorem smr12_zero (a b : Option Addr) (c d : Nat) (w : World) :
    Calls Try.prog 14 #[.slice a 0 c, .slice b 0 d] w fun e w' => e = .returned (.bool true) ∧ w' = w := by
  go_enter Try.func14, Try.ntmps14
  go_wp2_with fail
  go_loop [13] (fun s => s = .int .i64 0) (fun s => 0)
  case atStart => rfl
  case round =>
    subst hrel
    go_wp2_with fail
    go_ret
    exact ⟨rfl, rfl⟩
set_option maxRecDepth 100000 in
set_option maxHeartbeats 2000000 in
theorem smr12 {ba oa bb ob n c d : Nat} {F : List (List Int)} {w : World} (hn : Hid (F.length = n)) (hn' : n ≤ 1048576) (hl : Hid (∀ i, i < n → (F.getD i []).length ≤ 1048576)) (h1 : CRow w (some ⟨ba, oa, none⟩) F) (h2 : CRow w (some ⟨bb, ob, none⟩) F) :
    Calls Try.prog 14 #[.slice (some ⟨ba, oa, none⟩) n c, .slice (some ⟨bb, ob, none⟩) n d] w fun e w' => e = .returned (.bool true) ∧ Below w.heap.size w w' := by
  have hne : ((n : Int) != (n : Int)) = false := by simp
  have H1 := hide h1
  have H2 := hide h2
  clear h1 h2
  go_enter Try.func14, Try.ntmps14
  go_wp2_with fail
  go_loopw [5, 13] (fun _ s wr => ∃ k : Nat, s = .int .i64 k ∧ k ≤ n ∧ Hid (Below w.heap.size w wr)) (fun _ s _ => n - (intOf s).toNat)
  case atStart => exact ⟨0, rfl, Nat.zero_le _, hide (Below.refl _ _)⟩
  case round =>
    obtain ⟨k, rfl, hk, HB⟩ := hrel
    by_cases hlt : k < n
    · obtain ⟨b, off, a1, c1, e1, hb, r1, R1⟩ := (H1.out.below HB.out).at (i := k) (by rw [hn.out]; exact hlt)
      cases e1
      obtain ⟨b', off', a2, c2, e2, hb', r2, R2⟩ := (H2.out.below HB.out).at (i := k) (by rw [hn.out]; exact hlt)
      cases e2
      have hln := hl.out k hlt
      have hcall := hide (fun (w' : World) (hb : Below wr.heap.size wr w') => si_same (c := c1) (d := c2) (hide rfl) hln (R1.below hb) (R2.below hb))
      generalize (F.getD k []).length = m at *
      have k0 : (0 : Int) ≤ (k : Int) := by omega
      have k1 : (k : Int) < (n : Int) := by omega
      clear R1 R2
      go_wp2_with fail
      go_region_held3 (fun w' => w'.cell? ⟨ba, oa + k, none⟩ = some (.slice a1 m c1) ∧ w'.cell? ⟨bb, ob + k, none⟩ = some (.slice a2 m c2) ∧ Below wr.heap.size wr w' ∧ wr.heap.size ≤ w'.heap.size)
        (first | exact ⟨r1, r2, (Below.refl _ _).drew, Nat.le_refl _⟩ | assumption | exact two_call8 hb hb' ‹_› (by assumption) | fail)
        (first | (go_at_call 38; obtain ⟨_, _, hbS, _⟩ := ‹_ ∧ _ ∧ _ ∧ _›; refine (hcall.out _ hbS).mono ?_; rintro e w3 ⟨rfl, hb3⟩) | fail)
      obtain ⟨_, _, hbE, _⟩ := ‹_ ∧ _ ∧ _ ∧ _›
      go_wp2_with fail
      go_roundw
      case rel => exact ⟨k + 1, by go_num, by omega, hide (HB.out.trans (hbE.mono HB.out.size))⟩
      case measure => simp only [intOf]; omega
    · go_wp2_with fail
      go_ret
      exact ⟨rfl, HB.out⟩
theorem sr_ll {W : World} {lo lo' : Nat} {v v' : Value} {us us' : List Value} {R : List (List Int)} (hn : R.length ≤ 1000) (hr : ∀ i, i < R.length → (R.getD i []).length ≤ 1000) (h : LL W lo 23 3 1 ints v us R) (h' : LL W lo' 23 3 1 ints v' us' R) :
    Calls Try.prog 14 #[v, v'] W fun e w' => e = .returned (.bool true) ∧ Below W.heap.size W w' := by
  by_cases h0 : R.length = 0
  · obtain ⟨a, c, e⟩ := h.form
    obtain ⟨b, d, e'⟩ := h'.form
    rw [h0] at e e'
    subst e e'
    exact (smr12_zero a b c d W).mono fun e w' ⟨h1, h2⟩ => ⟨h1, h2 ▸ Below.refl _ _⟩
  · obtain ⟨G, c, e, _, _⟩ := h.1.form (by omega)
    obtain ⟨G', d, e', _, _⟩ := h'.1.form (by omega)
    subst e e'
    exact smr12 (hide rfl) (by omega) (hide fun i hi => by have := hr i hi; omega) h.crow h'.crow
theorem fsL_few (l : List Int) : (It.fsL l).length ≤ 9 ∧ ∀ i, i < (It.fsL l).length → ((It.fsL l).getD i []).length ≤ 9 := by
  unfold It.fsL
  cases hg : It.goodB l
  · exact ⟨by simp, fun i hi => absurd hi (by simp)⟩
  · have h9 := It.good_len hg
    obtain ⟨h1, h2⟩ := fill_len (gfL_sz hg)
    rw [gfL_len] at h1 h2
    rw [if_pos rfl]
    refine ⟨by rw [It.nums_len]; omega, fun i hi => ?_⟩
    rw [It.nums_len] at hi
    rw [It.nums_at, List.length_map]
    have := h2 i hi; omega
theorem ffL_few' (l : List Int) : (It.ffL l).length ≤ 9 ∧ ∀ i, i < (It.ffL l).length → ((It.ffL l).getD i []).length ≤ 9 := by
  unfold It.ffL
  cases hg : It.goodB l
  · exact ⟨by simp, fun i hi => absurd hi (by simp)⟩
  · have h9 := It.good_len hg
    obtain ⟨h1, h2⟩ := fill_len (its_sz hg)
    rw [its_len] at h1 h2
    rw [if_pos rfl]
    refine ⟨by rw [It.nums_len]; omega, fun i hi => ?_⟩
    rw [It.nums_len] at hi
    rw [It.nums_at, List.length_map]
    have := h2 i hi; omega
/-- Behind an owned list another one. -/
theorem ap3 {W : World} {a : Option Addr} {n m c base : Nat} {v : Value} {xs ys : List Int} (hx : xs.length = n) (hy : ys.length = m) (hn : n + m ≤ 1000) (hb : base ≤ W.heap.size) (ho : W.ownsRow base 3 1 v n (ints xs)) (ha : ARow W a ys) :
    ∃ a' c' w', (∀ ty, (Builtin.append_ #[23, 23] ty #[v, .slice a m c]).run Try.prog W = .ok (.slice a' (n + m) c') w') ∧ ARow w' a' (xs ++ ys) ∧ Below base W w' := by
  obtain ⟨i0', hi', hz0, hz1, hz2⟩ := infoI
  obtain ⟨v', w', h1, h2, h3⟩ := run_append_v (P := Try.prog) W base 23 0 3 i0' _ 8 Try.underlying23 hi' hz0 hz1 hz2 rfl v n _ ho a m c (ints ys) (by rw [ints_len, hy]) ha.vrow (c_ints ys) (by unfold maxLen; omega) (by omega) hb
  have h2' : w'.ownsRow base 3 1 v' (n + m) (ints (xs ++ ys)) := by rw [show ints (xs ++ ys) = ints xs ++ ints ys by simp [ints]]; exact h2
  obtain ⟨a', c', e, h⟩ := own_row (xs := xs ++ ys) (by rw [List.length_append, hx, hy]) h2'
  subst e
  exact ⟨a', c', w', fun _ => h1, h, grown_under' h3 ho (Nat.le_refl _) hb⟩
theorem arow_drop {w : World} {b o k : Nat} {xs : List Int} (h : ARow w (some ⟨b, o, none⟩) xs) : ARow w (some ⟨b, o + k, none⟩) (xs.drop k) := by
  rcases h with h | ⟨b', o', e, hl, hc⟩
  · exact Or.inl (by rw [h]; simp)
  · cases e
    refine Or.inr ⟨b, o + k, rfl, hl, fun i hi => ?_⟩
    rw [List.length_drop] at hi
    have := hc (k + i) (by omega)
    rw [show o + (k + i) = o + k + i by omega] at this
    rw [this]; simp
theorem arow_take {w : World} {a : Option Addr} {xs : List Int} (h : ARow w a xs) (k : Nat) : ARow w a (xs.take k) := by
  rcases h with h | ⟨b, o, e, hl, hc⟩
  · exact Or.inl (by rw [h]; simp)
  · refine Or.inr ⟨b, o, e, hl, fun i hi => ?_⟩
    rw [List.length_take] at hi
    rw [hc i (by omega)]
    simp [show i < k by omega]
/-- What is left when one number goes: both appends, and FewestBoxes of it. -/
theorem rest12 {w : World} {a a' : Option Addr} {k n c d m fw : Nat} {xs : List Int} (hn : xs.length = n) (hk : k < n) (h10 : n ≤ 1000) (hm : m = n - (k + 1)) (h : ARow w a xs)
    (h' : ∀ w', Below w.heap.size w w' → ARow w' a' (xs.drop (k + 1))) (hd : It.goodB (xs.take k ++ xs.drop (k + 1)) = true ∧ It.fewN (xs.take k ++ xs.drop (k + 1)) ≤ fw ∧ fw ≤ It.fewN (xs.take k ++ xs.drop (k + 1)) + 1) :
    ∃ a1 c1 w1 a2 c2 w2, ∃ fr : Nat, Hid (∀ ty, (Builtin.append_ #[23, 23] ty #[.slice (some ⟨w.heap.size, 0, none⟩) 0 0, .slice a k c]).run Try.prog (w.alloc (.cells #[] 3)) = .ok (.slice a1 k c1) w1) ∧
      Hid (∀ ty, (Builtin.append_ #[23, 23] ty #[.slice a1 k c1, .slice a' m d]).run Try.prog w1 = .ok (.slice a2 (k + m) c2) w2) ∧
      Hid (Calls Try.prog 10 #[.slice a2 (k + m) c2] w2 fun e w' => e = .returned (.tuple #[.int .i64 (fr : Int), .bool true]) ∧ Below w2.heap.size w2 w') ∧
      Hid (Below w.heap.size w w2) ∧ ¬ (fw : Int) < (fr : Int) ∧ ¬ (fr : Int) < (fw : Int) - 1 := by
  obtain ⟨d1, d2, d3⟩ := hd
  have ht : (xs.take k).length = k := by rw [List.length_take, hn]; omega
  have hdl : (xs.drop (k + 1)).length = m := by rw [List.length_drop, hn, hm]
  obtain ⟨a1, c1, w1, p1, o1, b1⟩ := cl_run12 (c := c) (w := w) ht (by omega) (arow_take h k)
  obtain ⟨a2, c2, w2, p2, r2, b2⟩ := ap3 (c := d) (a := a') ht hdl (by omega) b1.size o1 (h' w1 b1)
  have hf := fb_w (w := w2) (c := c2) (n := k + m) (by rw [List.length_append, ht, hdl]) r2
  have hfi : It.fbI (xs.take k ++ xs.drop (k + 1)) = ((It.fewN (xs.take k ++ xs.drop (k + 1)) : Nat) : Int) := by simp only [It.fbI, d1, if_true]
  rw [d1, hfi] at hf
  exact ⟨a1, c1, w1, a2, c2, w2, _, hide p1, hide p2, hide hf, hide (b1.trans b2), by omega, by omega⟩
theorem kk12 {k n cl : Nat} (h : k < n) (h10 : n ≤ 10) (hc : n ≤ cl) : (0 : Int) ≤ (k : Int) ∧ (k : Int) ≤ (cl : Int) ∧ (k : Int) + 1 ≤ (n : Int) ∧ wrap64 ((k : Int) + 1) = (k : Int) + 1 ∧ (0 : Int) ≤ (k : Int) + 1 := by
  refine ⟨by omega, by omega, by omega, ?_, by omega⟩
  unfold wrap64; omega
set_option maxRecDepth 100000 in
set_option maxHeartbeats 1000000 in
theorem lBx12_long {a1 a2 : Option Addr} {len1 cap1 len2 cap2 : Nat} {w : World} (h1 : (1048576 : Int) < wrap64 ((len1 : Int) + (len2 : Int))) :
    Calls Try.prog 3 #[.slice a1 len1 cap1, .slice a2 len2 cap2] w fun e w' => e = .returned (.bool true) ∧ Below w.heap.size w w' := by
  go_enter Try.func3, Try.ntmps3
  go_wp2_with fail
  go_ret
  exact ⟨rfl, Below.refl _ _⟩
set_option maxRecDepth 100000 in
set_option maxHeartbeats 4000000 in
theorem lBx12_main {a1 a2 : Option Addr} {len1 cap1 len2 cap2 : Nat} {w : World} (hs1 : Hid (Src w a1 len1)) (hs2 : Hid (Src w a2 len2)) (hl2 : len2 ≤ 1048576) (h1 : ¬ (1048576 : Int) < wrap64 ((len1 : Int) + (len2 : Int))) :
    Calls Try.prog 3 #[.slice a1 len1 cap1, .slice a2 len2 cap2] w fun e w' => e = .returned (.bool true) ∧ Below w.heap.size w w' := by
  go_enter Try.func3, Try.ntmps3
  go_wp2_with fail
  refine (drawFF_any hs1).mono ?_
  rintro e w1 ⟨al, cl, xs, rfl, hx10, hcl, rl, hb1⟩
  have HB1 := hide hb1
  have HX := hide (rfl : xs.length = xs.length)
  have HRL0 := hide fun (W : World) (h : Below w1.heap.size w1 W) => rl.below h
  have HFF := hide (ff_w (w := w1) (c := cl) rfl rl)
  have HSF := hide fun (W : World) (h : Below w1.heap.size w1 W) => sff_w (w := W) (c := cl) rfl (rl.below h)
  have HFS := hide fun (W : World) (h : Below w1.heap.size w1 W) => fs_w (w := W) (c := cl) rfl (rl.below h)
  have HSS := hide fun (W : World) (h : Below w1.heap.size w1 W) => sfs_w (w := W) (c := cl) rfl (rl.below h)
  have HFB := hide fun (W : World) (h : Below w1.heap.size w1 W) => fb_w (w := W) (c := cl) rfl (rl.below h)
  have HSB := hide fun (W : World) (h : Below w1.heap.size w1 W) => sfb_w (w := W) (c := cl) rfl hcl (rl.below h)
  have HLB := hide fun (W : World) (h : Below w1.heap.size w1 W) => lbx_any (w := W) (c := cl) rfl (rl.below h)
  have HSL := hide fun (W : World) (h : Below w1.heap.size w1 W) => slbx_any (w := W) (c := cl) rfl (rl.below h)
  have HGI := hide fun (W : World) (h : Below w1.heap.size w1 W) => gi_any (w := W) (c := cl) rfl (rl.below h)
  obtain ⟨y1, y2⟩ := ffL_few' xs
  obtain ⟨y3, y4⟩ := fsL_few xs
  have HSR := hide fun (W : World) (lo lo' : Nat) (v v' : Value) (us us' : List Value) h h' => sr_ll (W := W) (lo := lo) (lo' := lo') (v := v) (v' := v') (us := us) (us' := us') (R := It.ffL xs) (by omega) (fun i hi => by have := y2 i hi; omega) h h'
  have HSR2 := hide fun (W : World) (lo lo' : Nat) (v v' : Value) (us us' : List Value) h h' => sr_ll (W := W) (lo := lo) (lo' := lo') (v := v) (v' := v') (us := us) (us' := us') (R := It.fsL xs) (by omega) (fun i hi => by have := y4 i hi; omega) h h'
  have HIP := hide fun (W : World) (aF : Option Addr) (cF : Nat) (h : Below w1.heap.size w1 W) (hF : CRow W aF (It.ffL xs)) => ip_w (w := W) (c := cl) (d := cF) rfl rfl (by omega) (fun i hi => by have := y2 i hi; omega) (rl.below h) hF
  have HIP2 := hide fun (W : World) (aF : Option Addr) (cF : Nat) (h : Below w1.heap.size w1 W) (hF : CRow W aF (It.fsL xs)) => ip_w (w := W) (c := cl) (d := cF) rfl rfl (by omega) (fun i hi => by have := y4 i hi; omega) (rl.below h) hF
  have HBF := hide fun (h : It.goodB xs = true) => It.bx_facts h
  have HDF := hide fun (h : It.goodB xs = true) k (hk : k < xs.length) => It.drop_few h hk
  have HFI : Hid (It.goodB xs = true → It.fbI xs = (It.fewN xs : Int)) := hide fun h => by simp [It.fbI, h]
  have HGL := hide fun (h : It.goodB xs = true) => It.good_len h
  have HLB9 : Hid (It.goodB xs = true → 0 ≤ It.lbI xs ∧ It.lbI xs ≤ 100) := hide fun h => by
    have := It.good_sum h
    simp [It.lbI, h]; omega
  clear y2 y4
  generalize hR1 : It.ffL xs = R1 at *
  generalize hR2 : It.fsL xs = R2 at *
  generalize It.goodB xs = G at *
  generalize It.fbI xs = Q at *
  generalize It.lbI xs = L at *
  generalize hn : xs.length = n at *
  obtain ⟨m1, hm1⟩ : ∃ m, R1.length = m := ⟨_, rfl⟩
  obtain ⟨m2, hm2⟩ : ∃ m, R2.length = m := ⟨_, rfl⟩
  rw [hm1] at y1 HBF HIP
  rw [hm2] at y3 HBF HIP2
  have HM1 := hide hm1
  have HM2 := hide hm2
  have hGG : (G != G) = false := by simp
  have hQQ : (Q != Q) = false := by simp
  have hLL : (L != L) = false := by simp
  have HN := hide hn
  clear rl hb1 hR1 hR2 hm1 hm2 hn HX
  go_wp2_with fail
  refine HFF.out.mono ?_
  rintro e w2 ⟨v1, us1, rfl, l1, b2⟩
  have L1 := hide l1
  have B2 := hide b2
  clear l1 b2 HFF
  go_wp2_with fail
  refine (HSF.out _ B2.out).mono ?_
  rintro e w3 ⟨v2, us2, rfl, l2, b3⟩
  have L2 := hide l2
  have B3 := hide (B2.out.trans (b3.mono B2.out.size))
  have K1 := hide (L1.out.below b3)
  clear l2 b3 HSF B2 L1
  go_wp2_with fail
  refine (HFS.out _ B3.out).mono ?_
  rintro e w4 ⟨v3, us3, rfl, l3, b4⟩
  have L3 := hide l3
  have B4 := hide (B3.out.trans (b4.mono B3.out.size))
  have K2 := hide (K1.out.below b4)
  have N2 := hide (L2.out.below b4)
  clear l3 b4 HFS B3 K1 L2
  go_wp2_with fail
  refine (HSS.out _ B4.out).mono ?_
  rintro e w5 ⟨v4, us4, rfl, l4, b5⟩
  have L4 := hide l4
  have B5 := hide (B4.out.trans (b5.mono B4.out.size))
  have K3 := hide (K2.out.below b5)
  have N3 := hide (N2.out.below b5)
  have M3 := hide (L3.out.below b5)
  clear l4 b5 HSS B4 K2 N2 L3
  go_wp2_with fail
  refine (HFB.out _ B5.out).mono ?_
  rintro e w6 ⟨rfl, b6⟩
  have B6 := hide (B5.out.trans (b6.mono B5.out.size))
  have K4 := hide (K3.out.below b6)
  have N4 := hide (N3.out.below b6)
  have M4 := hide (M3.out.below b6)
  have O4 := hide (L4.out.below b6)
  clear b6 HFB B5 K3 N3 M3 L4
  go_wp2_with fail
  refine (HSB.out _ B6.out).mono ?_
  rintro e w7 ⟨rfl, b7⟩
  have B7 := hide (B6.out.trans (b7.mono B6.out.size))
  have K5 := hide (K4.out.below b7)
  have N5 := hide (N4.out.below b7)
  have M5 := hide (M4.out.below b7)
  have O5 := hide (O4.out.below b7)
  clear b7 HSB B6 K4 N4 M4 O4
  go_wp2_with fail
  refine (HLB.out _ B7.out).mono ?_
  rintro e wz ⟨rfl, hwz⟩
  obtain rfl : w7 = wz := hwz.symm
  go_wp2_with fail
  refine (HSL.out _ B7.out).mono ?_
  rintro e wz ⟨rfl, hwz⟩
  obtain rfl : w7 = wz := hwz.symm
  obtain ⟨f1, g1, e1⟩ := own_form2 K5.out.1
  obtain ⟨f2, g2, e2⟩ := own_form2 N5.out.1
  obtain ⟨f3, g3, e3⟩ := own_form2 M5.out.1
  obtain ⟨f4, g4, e4⟩ := own_form2 O5.out.1
  rw [HM1.out] at e1 e2
  rw [HM2.out] at e3 e4
  subst e1 e2 e3 e4
  go_wp2_with fail
  refine (HSR.out _ _ _ _ _ _ _ K5.out N5.out).mono ?_
  rintro e w8 ⟨rfl, b8⟩
  have B8 := hide (B7.out.trans (b8.mono B7.out.size))
  have K6 := hide (K5.out.below b8)
  have M6 := hide (M5.out.below b8)
  have O6 := hide (O5.out.below b8)
  clear b8 B7 K5 N5 M5 O5 HSR
  go_wp2_with fail
  refine (HSR2.out _ _ _ _ _ _ _ M6.out O6.out).mono ?_
  rintro e w9 ⟨rfl, b9⟩
  have B9 := hide (B8.out.trans (b9.mono B8.out.size))
  have K7 := hide (K6.out.below b9)
  have M7 := hide (M6.out.below b9)
  clear b9 B8 K6 M6 O6 HSR2
  go_wp2_with fail
  refine (HGI.out _ B9.out).mono ?_
  rintro e wz ⟨rfl, hwz⟩
  obtain rfl : w9 = wz := hwz.symm
  cases G
  · go_wp2_with fail
    go_ret
    exact ⟨rfl, HB1.out.trans (B9.out.mono HB1.out.size)⟩
  · obtain ⟨i1, i2, t1, t2, t3, t4, t5⟩ := HBF.out rfl
    obtain ⟨l0, l100⟩ := HLB9.out rfl
    have h9 := HGL.out rfl
    obtain rfl : Q = ((It.fewN xs : Nat) : Int) := HFI.out rfl
    have HDR0 := hide fun k hk => HDF.out rfl k hk
    rw [i1] at HIP
    rw [i2] at HIP2
    obtain ⟨fw, hfw⟩ : ∃ fw, It.fewN xs = fw := ⟨_, rfl⟩
    rw [hfw] at t1 t2 t3 t4 HDR0 ⊢
    have z1 : ¬ (fw : Int) < L := by omega
    have z2 : ¬ (m1 : Int) < (fw : Int) := by omega
    have z3 : ¬ (m2 : Int) < (fw : Int) := by omega
    have hw1 : wrap64 (9 * (m2 : Int)) = 9 * (m2 : Int) := by unfold wrap64; omega
    have hw2 : wrap64 (11 * (fw : Int)) = 11 * (fw : Int) := by unfold wrap64; omega
    have hw3 : wrap64 (11 * (fw : Int) + 6) = 11 * (fw : Int) + 6 := by unfold wrap64; omega
    have z4 : ¬ 11 * (fw : Int) + 6 < 9 * (m2 : Int) := by omega
    have hw4 : wrap64 (2 * L) = 2 * L := by unfold wrap64; omega
    have hw5 : wrap64 (2 * L - 1) = 2 * L - 1 := by unfold wrap64; omega
    have hw6 : wrap64 ((fw : Int) - 1) = (fw : Int) - 1 := by unfold wrap64; omega
    have HC1 := hide (HIP.out w9 f1 g1 B9.out (by have := K7.out; rw [← HM1.out] at this; exact this.crow))
    have HCR2 : Hid (CRow w9 f3 R2) := hide (by have := M7.out; rw [← HM2.out] at this; exact this.crow)
    have HFIN := hide HB1.out
    clear HBF HLB9 HGL HFI HDF HIP K7 M7 HGI HLB HSL i1 i2 t1 t2 t3 t4 hfw
    go_wp2_with fail
    refine HC1.out.mono ?_
    rintro e w10 ⟨rfl, b10⟩
    have B10 := hide (B9.out.trans (b10.mono B9.out.size))
    have HC2 := hide (HIP2.out w10 f3 g3 B10.out (HCR2.out.below b10))
    clear b10 B9 HC1 HCR2 HIP2
    go_wp2_with fail
    refine HC2.out.mono ?_
    rintro e w11 ⟨rfl, b11⟩
    have B11 := hide (B10.out.trans (b11.mono B10.out.size))
    clear b11 B10 HC2
    by_cases hn0 : n = 0
    · subst hn0
      go_wp2_with fail
      go_ret
      exact ⟨rfl, HB1.out.trans (B11.out.mono HB1.out.size)⟩
    · have n0 : (0 : Int) < (n : Int) := by omega
      have z5 : ¬ 2 * L - 1 < (m1 : Int) := by have := t5 (by omega); omega
      have nz : ((n : Int) == 0) = false := by simp; omega
      obtain ⟨NN, nn0, nn1, hNN⟩ := num_srcY hs2.out hl2
      have HNN := hide hNN
      have HBW := hide (HB1.out.trans (B11.out.mono HB1.out.size))
      clear hNN t5
      go_upto_region 23 with (go_at_call 17; refine (HNN.out _ _ HBW.out).mono ?_; rintro e wq ⟨rfl, hw⟩; obtain rfl : w11 = wq := hw.symm)
      obtain ⟨k, hk⟩ : ∃ k : Nat, NN % (n : Int) = (k : Int) := ⟨(NN % (n : Int)).toNat, by have := Int.emod_nonneg NN (show (n : Int) ≠ 0 by omega); omega⟩
      have hkn : k < n := by have := Int.emod_lt_of_pos NN (show (0 : Int) < n by omega); omega
      rw [hk]
      clear hk nn0 nn1 HNN
      have HRW := hide (HRL0.out _ B11.out)
      have HD := hide (HDR0.out k hkn)
      obtain ⟨b, o, eb⟩ : ∃ b o, al = some ⟨b, o, none⟩ := by
        obtain ⟨b, o, eb, _⟩ := HRW.out.at (i := 0) (by rw [HN.out]; omega)
        exact ⟨b, o, eb⟩
      clear HDR0 HRL0
      subst eb
      clear z1 z2 z3 z4 z5 hw1 hw2 hw3 hw4 hw5 l0 l100
      obtain ⟨k0, k1, k2, k3, k4⟩ := kk12 hkn hx10 hcl
      by_cases hck : cl = k + 1
      · obtain rfl : n = k + 1 := Nat.le_antisymm (hck ▸ hcl) hkn
        subst hck
        obtain ⟨a1', c1', w12, a2', c2', w13, fr, P12, P13, HFR, B13, y1, y2⟩ := rest12 (c := k + 1) (d := 0) (m := 0) (a' := some ⟨b, o, none⟩) HN.out hkn (Nat.le_trans hx10 (by decide)) (Nat.sub_self _).symm HRW.out (fun w' hw' => Or.inl (List.drop_eq_nil_of_le (Nat.le_of_eq HN.out))) HD.out
        clear HD HRW
        go_upto_region 24 with (at_builtin; refine Lib.wpList_append_run _ rfl (.tmp 196) (.tmp 199) 23 23 rfl _ _ rfl rfl _ _ (P12.out _) ?_)
        go_upto_region 25 with (at_builtin; refine Lib.wpList_append_run _ rfl (.tmp 201) (.tmp 205) 23 23 rfl _ _ rfl rfl _ _ (P13.out _) ?_)
        go_wp2_with fail
        refine HFR.out.mono ?_
        rintro e w14 ⟨rfl, b14⟩
        go_wp2_with fail
        go_ret
        exact ⟨rfl, HBW.out.trans ((B13.out.trans (b14.mono B13.out.size)).mono HBW.out.size)⟩
      · have hck2 : ¬ cl - (k + 1) = 0 := fun h => hck (Nat.le_antisymm (Nat.sub_eq_zero_iff_le.1 h) (Nat.le_trans hkn hcl))
        obtain ⟨a1', c1', w12, a2', c2', w13, fr, P12, P13, HFR, B13, y1, y2⟩ := rest12 (c := cl) (d := cl - (k + 1)) (m := n - (k + 1)) (a' := some ⟨b, o + (k + 1), none⟩) HN.out hkn (Nat.le_trans hx10 (by decide)) rfl HRW.out (fun w' hw' => arow_drop (HRW.out.below hw')) HD.out
        clear HD HRW
        go_upto_region 24 with (at_builtin; refine Lib.wpList_append_run _ rfl (.tmp 196) (.tmp 199) 23 23 rfl _ _ rfl rfl _ _ (P12.out _) ?_)
        go_upto_region 25 with (at_builtin; refine Lib.wpList_append_run _ rfl (.tmp 201) (.tmp 205) 23 23 rfl _ _ rfl rfl _ _ (P13.out _) ?_)
        go_wp2_with fail
        refine HFR.out.mono ?_
        rintro e w14 ⟨rfl, b14⟩
        go_wp2_with fail
        go_ret
        exact ⟨rfl, HBW.out.trans ((B13.out.trans (b14.mono B13.out.size)).mono HBW.out.size)⟩
theorem lBx12_walk {a1 a2 : Option Addr} {len1 cap1 len2 cap2 : Nat} {w : World} (hs1 : Src w a1 len1) (hs2 : Src w a2 len2) (m1 : len1 ≤ 140737488351232) (m2 : len2 ≤ 140737488351232) :
    Calls Try.prog 3 #[.slice a1 len1 cap1, .slice a2 len2 cap2] w fun e w' => e = .returned (.bool true) ∧ Below w.heap.size w w' := by
  by_cases h1 : (1048576 : Int) < wrap64 ((len1 : Int) + (len2 : Int))
  · exact lBx12_long h1
  · refine lBx12_main (hide hs1) (hide hs2) ?_ h1
    rw [wrap_id _ (by omega) (by omega)] at h1
    omega
end Go.Proofs.Ytnchkgblpnompaa
