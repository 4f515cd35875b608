/-
  At any arguments the function answers as the model does, in memory of its own: the law's own walk. (Written by genlx16.py.)
-/
import Derived.Test.YtnjkdfeajlnojaaZ7
namespace Go.Proofs.Ytnjkdfeajlnojaa
open Go.RowKit

set_option maxHeartbeats 400000 in
theorem lNj16_long0 {a0_ a1_ : Option Addr} {n0 c0_ n1 c1_ : Nat} {w : World} (h : 1048576 < n0) :
    Calls Try.prog 3 #[.slice a0_ n0 c0_, .slice a1_ n1 c1_] w fun e w' => e = .returned (.bool true) ∧ Below w.heap.size w w' := by
  have g0 : (1048576 : Int) < n0 := by omega
  go_enter Try.func3, Try.ntmps3
  go_wp2_with fail
  go_ret
  exact ⟨rfl, Below.refl _ _⟩
set_option maxHeartbeats 400000 in
theorem lNj16_long1 {a0_ a1_ : Option Addr} {n0 c0_ n1 c1_ : Nat} {w : World} (h0 : n0 ≤ 1048576) (h : 1048576 < n1) :
    Calls Try.prog 3 #[.slice a0_ n0 c0_, .slice a1_ n1 c1_] w fun e w' => e = .returned (.bool true) ∧ Below w.heap.size w w' := by
  have g0 : ¬ (1048576 : Int) < n0 := by omega
  have g1 : (1048576 : Int) < n1 := by omega
  go_enter Try.func3, Try.ntmps3
  go_wp2_with fail
  go_ret
  exact ⟨rfl, Below.refl _ _⟩
set_option maxRecDepth 100000 in
set_option maxHeartbeats 8000000 in
theorem lNj16_main {a0_ a1_ : Option Addr} {n0 c0_ n1 c1_ : Nat} {xs0 : List Int} {xs1 : List Int} {w : World} (hx0_ : Hid (xs0.length = n0)) (hn0 : n0 ≤ 1048576) (hx1_ : Hid (xs1.length = n1)) (hn1 : n1 ≤ 1048576) (HA0 : Hid (ARow w a0_ xs0)) (HA1 : Hid (ARow w a1_ xs1)) :
    Calls Try.prog 3 #[.slice a0_ n0 c0_, .slice a1_ n1 c1_] w fun e w' => e = .returned (.bool true) ∧ Below w.heap.size w w' := by
  have g0 : ¬ (1048576 : Int) < n0 := by omega
  have g1 : ¬ (1048576 : Int) < n1 := by omega
  have HS := hide fun (W : World) (b0_ : Nat) (b1_ : Nat) (r0_ : ARow W (some ⟨b0_, 0, none⟩) xs0) (r1_ : ARow W (some ⟨b1_, 0, none⟩) xs1) => snj_r (w := W) (c := n0) (d := n1) hx0_.out hx1_.out (Nat.le_refl _) (Nat.le_refl _) r0_ r1_
  have HI := hide fun (W : World) (b0_ : Nat) (b1_ : Nat) (r0_ : ARow W (some ⟨b0_, 0, none⟩) xs0) (r1_ : ARow W (some ⟨b1_, 0, none⟩) xs1) => nj_r (w := W) (c := n0) (d := n1) hx0_.out hx1_.out (Nat.le_refl _) (Nat.le_refl _) r0_ r1_
  have HYL : Hid ((newV xs0 xs1).xs.length ≤ 1048576 ∧ (newV xs0 xs1).ws.length ≤ 1048576 ∧ (newV xs0 xs1).L.length ≤ 1048576 ∧ (newV xs0 xs1).M.length ≤ 1048576) := hide (newV_le _ _)
  generalize newV xs0 xs1 = Y at HS HI HYL
  generalize Mx.sameB xs0 xs1 = GB at HS HI
  have hneG : (GB != GB) = false := by simp
  have hwg : wgt Y ≤ 6291456 := by have := HYL.out; unfold wgt; omega
  have hnn1 : ¬ (1 : Int) + (wgt Y : Nat) < 0 := by omega
  have hnm : ((1 : Int) + (wgt Y : Nat) != (1 : Int) + (wgt Y : Nat)) = false := by simp
  have hfY : (Y.f != Y.f) = false := by simp
  go_enter Try.func3, Try.ntmps3
  go_wp2_with fail
  refine (to_av (c := c0_) hx0_.out hn0 HA0.out).mono ?_
  rintro _ w1 ⟨B1_, rfl, hb1, o1⟩
  have s_hb1 := hb1.size
  have B_hb1 := hide hb1
  clear hb1
  have O1 := hide o1
  clear o1
  go_wp2_with fail
  refine (to_av (c := c1_) hx1_.out hn1 (HA1.out.below B_hb1.out)).mono ?_
  rintro _ w2 ⟨B2_, rfl, hb2, o2⟩
  have s_hb2 := hb2.size
  have B_hb2 := hide (B_hb1.out.trans (hb2.mono B_hb1.out.size))
  clear B_hb1
  have O1' := hide (O1.out.below hb2)
  clear O1
  clear hb2
  have O2 := hide o2
  clear o2
  go_wp2_with fail
  refine (HS.out _ _ _ (av_at hx0_.out O1'.out) (av_at hx1_.out O2.out)).mono ?_
  rintro _ w3 ⟨u3, rfl, hb3, q3⟩
  have s_hb3 := hb3.size
  have B_hb3 := hide (B_hb2.out.trans (hb3.mono B_hb2.out.size))
  clear B_hb2
  have O1'' := hide (O1'.out.below hb3)
  clear O1'
  have O2' := hide (O2.out.below hb3)
  clear O2
  clear hb3
  obtain ⟨ea3, eb3, el3, em3, rfl, f1, f2, f3, f4, _⟩ := q3.ex
  obtain ⟨a3, c3, rfl⟩ := own_f16 f1
  obtain ⟨b3, d3, rfl⟩ := own_f16 f2
  obtain ⟨p3, e3, rfl, _⟩ := f3.row
  obtain ⟨r3, t3, rfl, _⟩ := f4.row
  have R3 := hide q3
  clear q3 f1 f2 f3 f4
  have hx3 := below_new w3 (.cells #[.slice a3 Y.xs.length c3, .slice b3 Y.ws.length d3, .slice p3 Y.L.length e3, .slice r3 Y.M.length t3, .int .i64 Y.f] 25)
  have X3 := hide (JW.new w3 25 (.slice a3 Y.xs.length c3) (.slice b3 Y.ws.length d3) (.slice p3 Y.L.length e3) (.slice r3 Y.M.length t3) (.int .i64 Y.f))
  have zx3 : (w3.alloc (.cells #[.slice a3 Y.xs.length c3, .slice b3 Y.ws.length d3, .slice p3 Y.L.length e3, .slice r3 Y.M.length t3, .int .i64 Y.f] 25)).heap.size = w3.heap.size + 1 := World.size_alloc _ _
  have s_hx3 := hx3.size
  have B_hx3 := hide (B_hb3.out.trans (hx3.mono B_hb3.out.size))
  clear B_hb3
  have O1''' := hide (O1''.out.below hx3)
  clear O1''
  have O2'' := hide (O2'.out.below hx3)
  clear O2'
  have R3' := hide (R3.out.below hx3)
  clear R3
  clear hx3
  clear O1'''
  clear O2''
  go_wp2_with fail
  refine (to_av (c := c0_) hx0_.out hn0 (HA0.out.below B_hx3.out)).mono ?_
  rintro _ w4 ⟨B4_, rfl, hb4, o4⟩
  have s_hb4 := hb4.size
  have B_hb4 := hide (B_hx3.out.trans (hb4.mono B_hx3.out.size))
  clear B_hx3
  have R3'' := hide (R3'.out.below hb4)
  clear R3'
  have X3' := hide (X3.out.below hb4)
  clear X3
  clear hb4
  have O4 := hide o4
  clear o4
  go_wp2_with fail
  refine (to_av (c := c1_) hx1_.out hn1 (HA1.out.below B_hb4.out)).mono ?_
  rintro _ w5 ⟨B5_, rfl, hb5, o5⟩
  have s_hb5 := hb5.size
  have B_hb5 := hide (B_hb4.out.trans (hb5.mono B_hb4.out.size))
  clear B_hb4
  have R3''' := hide (R3''.out.below hb5)
  clear R3''
  have X3'' := hide (X3'.out.below hb5)
  clear X3'
  have O4' := hide (O4.out.below hb5)
  clear O4
  clear hb5
  have O5 := hide o5
  clear o5
  go_wp2_with fail
  refine (HI.out _ _ _ (av_at hx0_.out O4'.out) (av_at hx1_.out O5.out)).mono ?_
  rintro _ w6 ⟨u6, rfl, hb6, q6⟩
  have s_hb6 := hb6.size
  have B_hb6 := hide (B_hb5.out.trans (hb6.mono B_hb5.out.size))
  clear B_hb5
  have R3'''' := hide (R3'''.out.below hb6)
  clear R3'''
  have X3''' := hide (X3''.out.below hb6)
  clear X3''
  have O4'' := hide (O4'.out.below hb6)
  clear O4'
  have O5' := hide (O5.out.below hb6)
  clear O5
  clear hb6
  obtain ⟨ea6, eb6, el6, em6, rfl, f1, f2, f3, f4, _⟩ := q6.ex
  obtain ⟨a6, c6, rfl⟩ := own_f16 f1
  obtain ⟨b6, d6, rfl⟩ := own_f16 f2
  obtain ⟨p6, e6, rfl, _⟩ := f3.row
  obtain ⟨r6, t6, rfl, _⟩ := f4.row
  have R6 := hide q6
  clear q6 f1 f2 f3 f4
  have hx6 := below_new w6 (.cells #[.slice a6 Y.xs.length c6, .slice b6 Y.ws.length d6, .slice p6 Y.L.length e6, .slice r6 Y.M.length t6, .int .i64 Y.f] 25)
  have X6 := hide (JW.new w6 25 (.slice a6 Y.xs.length c6) (.slice b6 Y.ws.length d6) (.slice p6 Y.L.length e6) (.slice r6 Y.M.length t6) (.int .i64 Y.f))
  have zx6 : (w6.alloc (.cells #[.slice a6 Y.xs.length c6, .slice b6 Y.ws.length d6, .slice p6 Y.L.length e6, .slice r6 Y.M.length t6, .int .i64 Y.f] 25)).heap.size = w6.heap.size + 1 := World.size_alloc _ _
  have s_hx6 := hx6.size
  have B_hx6 := hide (B_hb6.out.trans (hx6.mono B_hb6.out.size))
  clear B_hb6
  have R3''''' := hide (R3''''.out.below hx6)
  clear R3''''
  have X3'''' := hide (X3'''.out.below hx6)
  clear X3'''
  have O4''' := hide (O4''.out.below hx6)
  clear O4''
  have O5'' := hide (O5'.out.below hx6)
  clear O5'
  have R6' := hide (R6.out.below hx6)
  clear R6
  clear hx6
  obtain ⟨y0_0, y0_1, y0_2, y0_3, y0_4⟩ := X6.out.cells
  obtain ⟨y1_0, y1_1, y1_2, y1_3, y1_4⟩ := X3''''.out.cells
  go_wp2_with fail
  refine (eqJ_any HYL.out R6'.out.jin R3'''''.out.jin).mono ?_
  rintro _ w7 ⟨rfl, hb7⟩
  clear y0_0 y0_1 y0_2 y0_3 y0_4 y1_0 y1_1 y1_2 y1_3 y1_4
  have s_hb7 := hb7.size
  have B_hb7 := hide (B_hx6.out.trans (hb7.mono B_hx6.out.size))
  clear B_hx6
  have R3'''''' := hide (R3'''''.out.below hb7)
  clear R3'''''
  have X3''''' := hide (X3''''.out.below hb7)
  clear X3''''
  have O4'''' := hide (O4'''.out.below hb7)
  clear O4'''
  have O5''' := hide (O5''.out.below hb7)
  clear O5''
  have R6'' := hide (R6'.out.below hb7)
  clear R6'
  have X6' := hide (X6.out.below hb7)
  clear X6
  clear hb7
  go_wp2_with fail
  refine (to_av (c := c0_) hx0_.out hn0 (HA0.out.below B_hb7.out)).mono ?_
  rintro _ w8 ⟨B8_, rfl, hb8, o8⟩
  have s_hb8 := hb8.size
  have B_hb8 := hide (B_hb7.out.trans (hb8.mono B_hb7.out.size))
  clear B_hb7
  have R3''''''' := hide (R3''''''.out.below hb8)
  clear R3''''''
  have X3'''''' := hide (X3'''''.out.below hb8)
  clear X3'''''
  have O4''''' := hide (O4''''.out.below hb8)
  clear O4''''
  have O5'''' := hide (O5'''.out.below hb8)
  clear O5'''
  have R6''' := hide (R6''.out.below hb8)
  clear R6''
  have X6'' := hide (X6'.out.below hb8)
  clear X6'
  clear hb8
  have O8 := hide o8
  clear o8
  go_wp2_with fail
  refine (eq_av hx0_.out hn0 O4'''''.out O8.out).mono ?_
  rintro _ w9 ⟨rfl, hb9⟩
  have s_hb9 := hb9.size
  have B_hb9 := hide (B_hb8.out.trans (hb9.mono B_hb8.out.size))
  clear B_hb8
  have R3'''''''' := hide (R3'''''''.out.below hb9)
  clear R3'''''''
  have X3''''''' := hide (X3''''''.out.below hb9)
  clear X3''''''
  have O4'''''' := hide (O4'''''.out.below hb9)
  clear O4'''''
  have O5''''' := hide (O5''''.out.below hb9)
  clear O5''''
  have R6'''' := hide (R6'''.out.below hb9)
  clear R6'''
  have X6''' := hide (X6''.out.below hb9)
  clear X6''
  have O8' := hide (O8.out.below hb9)
  clear O8
  clear hb9
  clear O8'
  go_wp2_with fail
  refine (to_av (c := c1_) hx1_.out hn1 (HA1.out.below B_hb9.out)).mono ?_
  rintro _ w10 ⟨B10_, rfl, hb10, o10⟩
  have s_hb10 := hb10.size
  have B_hb10 := hide (B_hb9.out.trans (hb10.mono B_hb9.out.size))
  clear B_hb9
  have R3''''''''' := hide (R3''''''''.out.below hb10)
  clear R3''''''''
  have X3'''''''' := hide (X3'''''''.out.below hb10)
  clear X3'''''''
  have O4''''''' := hide (O4''''''.out.below hb10)
  clear O4''''''
  have O5'''''' := hide (O5'''''.out.below hb10)
  clear O5'''''
  have R6''''' := hide (R6''''.out.below hb10)
  clear R6''''
  have X6'''' := hide (X6'''.out.below hb10)
  clear X6'''
  clear hb10
  have O10 := hide o10
  clear o10
  go_wp2_with fail
  refine (eq_av hx1_.out hn1 O5''''''.out O10.out).mono ?_
  rintro _ w11 ⟨rfl, hb11⟩
  have s_hb11 := hb11.size
  have B_hb11 := hide (B_hb10.out.trans (hb11.mono B_hb10.out.size))
  clear B_hb10
  have R3'''''''''' := hide (R3'''''''''.out.below hb11)
  clear R3'''''''''
  have X3''''''''' := hide (X3''''''''.out.below hb11)
  clear X3''''''''
  have O4'''''''' := hide (O4'''''''.out.below hb11)
  clear O4'''''''
  have O5''''''' := hide (O5''''''.out.below hb11)
  clear O5''''''
  have R6'''''' := hide (R6'''''.out.below hb11)
  clear R6'''''
  have X6''''' := hide (X6''''.out.below hb11)
  clear X6''''
  have O10' := hide (O10.out.below hb11)
  clear O10
  clear hb11
  clear O10'
  go_wp2_with fail
  refine (mark_av hx0_.out hn0 (by omega) (by omega) O4''''''''.out).mono ?_
  rintro _ w12 ⟨rfl, _, hg12⟩
  have hr12 := (Rng.of16 (Below.refl _ _)).step16 (lo := (w3.alloc (.cells #[.slice a3 Y.xs.length c3, .slice b3 Y.ws.length d3, .slice p3 Y.L.length e3, .slice r3 Y.M.length t3, .int .i64 Y.f] 25)).heap.size) (hi := w4.heap.size) hg12 O4''''''''.out.at_
  clear hg12
  clear O4''''''''
  have s_hr12 := hr12.2.2.2.1
  have B_hr12 := hide (B_hb11.out.trans (hr12.below (by omega) B_hb11.out.size))
  clear B_hb11
  have R3''''''''''' := hide (R3''''''''''.out.rng hr12 (by first | exact Or.inl (by omega) | exact Or.inr (by omega)))
  clear R3''''''''''
  have X3'''''''''' := hide (X3'''''''''.out.keep (hr12.2.2.2.2 _ X3'''''''''.out.lt (by first | exact Or.inl (by omega) | exact Or.inr (by omega))))
  clear X3'''''''''
  have O5'''''''' := hide (O5'''''''.out.rng hr12 (by first | exact Or.inl (by omega) | exact Or.inr (by omega)))
  clear O5'''''''
  have R6''''''' := hide (R6''''''.out.rng hr12 (by first | exact Or.inl (by omega) | exact Or.inr (by omega)))
  clear R6''''''
  have X6'''''' := hide (X6'''''.out.keep (hr12.2.2.2.2 _ X6'''''.out.lt (by first | exact Or.inl (by omega) | exact Or.inr (by omega))))
  clear X6'''''
  clear hr12
  go_wp2_with fail
  refine (mark_av hx1_.out hn1 (by omega) (by omega) O5''''''''.out).mono ?_
  rintro _ w13 ⟨rfl, _, hg13⟩
  have hr13 := (Rng.of16 (Below.refl _ _)).step16 (lo := w4.heap.size) (hi := w5.heap.size) hg13 O5''''''''.out.at_
  clear hg13
  clear O5''''''''
  have s_hr13 := hr13.2.2.2.1
  have B_hr13 := hide (B_hr12.out.trans (hr13.below (by omega) B_hr12.out.size))
  clear B_hr12
  have R3'''''''''''' := hide (R3'''''''''''.out.rng hr13 (by first | exact Or.inl (by omega) | exact Or.inr (by omega)))
  clear R3'''''''''''
  have X3''''''''''' := hide (X3''''''''''.out.keep (hr13.2.2.2.2 _ X3''''''''''.out.lt (by first | exact Or.inl (by omega) | exact Or.inr (by omega))))
  clear X3''''''''''
  have R6'''''''' := hide (R6'''''''.out.rng hr13 (by first | exact Or.inl (by omega) | exact Or.inr (by omega)))
  clear R6'''''''
  have X6''''''' := hide (X6''''''.out.keep (hr13.2.2.2.2 _ X6''''''.out.lt (by first | exact Or.inl (by omega) | exact Or.inr (by omega))))
  clear X6''''''
  clear hr13
  have hk0 : ¬ (1 : Int) + (n0 : Int) + (n1 : Int) < 0 := by omega
  obtain ⟨y0_0, y0_1, y0_2, y0_3, y0_4⟩ := X6'''''''.out.cells
  obtain ⟨y1_0, y1_1, y1_2, y1_3, y1_4⟩ := X3'''''''''''.out.cells
  go_wp2_with fail
  refine (eqJ_any HYL.out R6''''''''.out.jin R3''''''''''''.out.jin).mono ?_
  rintro _ w14 ⟨rfl, hb14⟩
  clear y0_0 y0_1 y0_2 y0_3 y0_4 y1_0 y1_1 y1_2 y1_3 y1_4
  have s_hb14 := hb14.size
  have B_hb14 := hide (B_hr13.out.trans (hb14.mono B_hr13.out.size))
  clear B_hr13
  have R3''''''''''''' := hide (R3''''''''''''.out.below hb14)
  clear R3''''''''''''
  have X3'''''''''''' := hide (X3'''''''''''.out.below hb14)
  clear X3'''''''''''
  have R6''''''''' := hide (R6''''''''.out.below hb14)
  clear R6''''''''
  have X6'''''''' := hide (X6'''''''.out.below hb14)
  clear X6'''''''
  clear hb14
  obtain ⟨y0_0, y0_1, y0_2, y0_3, y0_4⟩ := X6''''''''.out.cells
  go_wp2_with fail
  refine (markJ_any HYL.out (by omega) (by omega) R6'''''''''.out).mono ?_
  rintro _ w15 ⟨rfl, hh15, hr15⟩
  clear y0_0 y0_1 y0_2 y0_3 y0_4
  clear R6'''''''''
  have s_hr15 := hr15.2.2.2.1
  have B_hr15 := hide (B_hb14.out.trans (hr15.below (by omega) B_hb14.out.size))
  clear B_hb14
  have R3'''''''''''''' := hide (R3'''''''''''''.out.rng hr15 (by first | exact Or.inl (by omega) | exact Or.inr (by omega)))
  clear R3'''''''''''''
  have X3''''''''''''' := hide (X3''''''''''''.out.keep (hr15.2.2.2.2 _ X3''''''''''''.out.lt (by first | exact Or.inl (by omega) | exact Or.inr (by omega))))
  clear X3''''''''''''
  have X6''''''''' := hide (X6''''''''.out.keep (hr15.2.2.2.2 _ X6''''''''.out.lt (by first | exact Or.inl (by omega) | exact Or.inr (by omega))))
  clear X6''''''''
  clear hr15
  have H15 := hide hh15
  clear hh15
  obtain ⟨y0_0, y0_1, y0_2, y0_3, y0_4⟩ := X6'''''''''.out.cells
  go_wp2_with fail
  refine (heldJ_any HYL.out (by omega) (by omega) H15.out).mono ?_
  rintro _ w16 ⟨rfl, hb16⟩
  clear y0_0 y0_1 y0_2 y0_3 y0_4
  have s_hb16 := hb16.size
  have B_hb16 := hide (B_hr15.out.trans (hb16.mono B_hr15.out.size))
  clear B_hr15
  have R3''''''''''''''' := hide (R3''''''''''''''.out.below hb16)
  clear R3''''''''''''''
  have X3'''''''''''''' := hide (X3'''''''''''''.out.below hb16)
  clear X3'''''''''''''
  have X6'''''''''' := hide (X6'''''''''.out.below hb16)
  clear X6'''''''''
  have H15' := hide (H15.out.below hb16)
  clear H15
  clear hb16
  go_wp2_with fail
  refine (to_av (c := c0_) hx0_.out hn0 (HA0.out.below B_hb16.out)).mono ?_
  rintro _ w17 ⟨B17_, rfl, hb17, o17⟩
  have s_hb17 := hb17.size
  have B_hb17 := hide (B_hb16.out.trans (hb17.mono B_hb16.out.size))
  clear B_hb16
  have R3'''''''''''''''' := hide (R3'''''''''''''''.out.below hb17)
  clear R3'''''''''''''''
  have X3''''''''''''''' := hide (X3''''''''''''''.out.below hb17)
  clear X3''''''''''''''
  have X6''''''''''' := hide (X6''''''''''.out.below hb17)
  clear X6''''''''''
  have H15'' := hide (H15'.out.below hb17)
  clear H15'
  clear hb17
  have O17 := hide o17
  clear o17
  go_wp2_with fail
  refine (to_av (c := c1_) hx1_.out hn1 (HA1.out.below B_hb17.out)).mono ?_
  rintro _ w18 ⟨B18_, rfl, hb18, o18⟩
  have s_hb18 := hb18.size
  have B_hb18 := hide (B_hb17.out.trans (hb18.mono B_hb17.out.size))
  clear B_hb17
  have R3''''''''''''''''' := hide (R3''''''''''''''''.out.below hb18)
  clear R3''''''''''''''''
  have X3'''''''''''''''' := hide (X3'''''''''''''''.out.below hb18)
  clear X3'''''''''''''''
  have X6'''''''''''' := hide (X6'''''''''''.out.below hb18)
  clear X6'''''''''''
  have H15''' := hide (H15''.out.below hb18)
  clear H15''
  have O17' := hide (O17.out.below hb18)
  clear O17
  clear hb18
  have O18 := hide o18
  clear o18
  go_wp2_with fail
  refine (HI.out _ _ _ (av_at hx0_.out O17'.out) (av_at hx1_.out O18.out)).mono ?_
  rintro _ w19 ⟨u19, rfl, hb19, q19⟩
  have s_hb19 := hb19.size
  have B_hb19 := hide (B_hb18.out.trans (hb19.mono B_hb18.out.size))
  clear B_hb18
  have R3'''''''''''''''''' := hide (R3'''''''''''''''''.out.below hb19)
  clear R3'''''''''''''''''
  have X3''''''''''''''''' := hide (X3''''''''''''''''.out.below hb19)
  clear X3''''''''''''''''
  have X6''''''''''''' := hide (X6''''''''''''.out.below hb19)
  clear X6''''''''''''
  have H15'''' := hide (H15'''.out.below hb19)
  clear H15'''
  have O17'' := hide (O17'.out.below hb19)
  clear O17'
  have O18' := hide (O18.out.below hb19)
  clear O18
  clear hb19
  obtain ⟨ea19, eb19, el19, em19, rfl, f1, f2, f3, f4, _⟩ := q19.ex
  obtain ⟨a19, c19, rfl⟩ := own_f16 f1
  obtain ⟨b19, d19, rfl⟩ := own_f16 f2
  obtain ⟨p19, e19, rfl, _⟩ := f3.row
  obtain ⟨r19, t19, rfl, _⟩ := f4.row
  have R19 := hide q19
  clear q19 f1 f2 f3 f4
  have hx19 := below_new w19 (.cells #[.slice a19 Y.xs.length c19, .slice b19 Y.ws.length d19, .slice p19 Y.L.length e19, .slice r19 Y.M.length t19, .int .i64 Y.f] 25)
  have X19 := hide (JW.new w19 25 (.slice a19 Y.xs.length c19) (.slice b19 Y.ws.length d19) (.slice p19 Y.L.length e19) (.slice r19 Y.M.length t19) (.int .i64 Y.f))
  have zx19 : (w19.alloc (.cells #[.slice a19 Y.xs.length c19, .slice b19 Y.ws.length d19, .slice p19 Y.L.length e19, .slice r19 Y.M.length t19, .int .i64 Y.f] 25)).heap.size = w19.heap.size + 1 := World.size_alloc _ _
  have s_hx19 := hx19.size
  have B_hx19 := hide (B_hb19.out.trans (hx19.mono B_hb19.out.size))
  clear B_hb19
  have R3''''''''''''''''''' := hide (R3''''''''''''''''''.out.below hx19)
  clear R3''''''''''''''''''
  have X3'''''''''''''''''' := hide (X3'''''''''''''''''.out.below hx19)
  clear X3'''''''''''''''''
  have X6'''''''''''''' := hide (X6'''''''''''''.out.below hx19)
  clear X6'''''''''''''
  have H15''''' := hide (H15''''.out.below hx19)
  clear H15''''
  have O17''' := hide (O17''.out.below hx19)
  clear O17''
  have O18'' := hide (O18'.out.below hx19)
  clear O18'
  have R19' := hide (R19.out.below hx19)
  clear R19
  clear hx19
  clear O17'''
  clear O18''
  obtain ⟨y0_0, y0_1, y0_2, y0_3, y0_4⟩ := X19.out.cells
  obtain ⟨y1_0, y1_1, y1_2, y1_3, y1_4⟩ := X3''''''''''''''''''.out.cells
  go_wp2_with fail
  refine (eqJ_any HYL.out R19'.out.jin R3'''''''''''''''''''.out.jin).mono ?_
  rintro _ w20 ⟨rfl, hb20⟩
  clear y0_0 y0_1 y0_2 y0_3 y0_4 y1_0 y1_1 y1_2 y1_3 y1_4
  have s_hb20 := hb20.size
  have B_hb20 := hide (B_hx19.out.trans (hb20.mono B_hx19.out.size))
  clear B_hx19
  have R3'''''''''''''''''''' := hide (R3'''''''''''''''''''.out.below hb20)
  clear R3'''''''''''''''''''
  have X3''''''''''''''''''' := hide (X3''''''''''''''''''.out.below hb20)
  clear X3''''''''''''''''''
  have X6''''''''''''''' := hide (X6''''''''''''''.out.below hb20)
  clear X6''''''''''''''
  have H15'''''' := hide (H15'''''.out.below hb20)
  clear H15'''''
  have R19'' := hide (R19'.out.below hb20)
  clear R19'
  have X19' := hide (X19.out.below hb20)
  clear X19
  clear hb20
  obtain ⟨y0_0, y0_1, y0_2, y0_3, y0_4⟩ := X6'''''''''''''''.out.cells
  go_wp2_with fail
  refine (heldJ_any HYL.out (by omega) (by omega) H15''''''.out).mono ?_
  rintro _ w21 ⟨rfl, hb21⟩
  clear y0_0 y0_1 y0_2 y0_3 y0_4
  have s_hb21 := hb21.size
  have B_hb21 := hide (B_hb20.out.trans (hb21.mono B_hb20.out.size))
  clear B_hb20
  have R3''''''''''''''''''''' := hide (R3''''''''''''''''''''.out.below hb21)
  clear R3''''''''''''''''''''
  have X3'''''''''''''''''''' := hide (X3'''''''''''''''''''.out.below hb21)
  clear X3'''''''''''''''''''
  have X6'''''''''''''''' := hide (X6'''''''''''''''.out.below hb21)
  clear X6'''''''''''''''
  have H15''''''' := hide (H15''''''.out.below hb21)
  clear H15''''''
  have R19''' := hide (R19''.out.below hb21)
  clear R19''
  have X19'' := hide (X19'.out.below hb21)
  clear X19'
  clear hb21
  go_wp2_with fail
  go_ret
  exact ⟨rfl, B_hb21.out⟩
theorem lNj16_walk {a0_ a1_ : Option Addr} {c0_ c1_ : Nat} {xs0 : List Int} {xs1 : List Int} {w : World} (ha0 : ARow w a0_ xs0)  (ha1 : ARow w a1_ xs1) :
    Calls Try.prog 3 #[.slice a0_ xs0.length c0_, .slice a1_ xs1.length c1_] w fun e w' => e = .returned (.bool true) ∧ Below w.heap.size w w' := by
  by_cases h0 : xs0.length ≤ 1048576
  rotate_left
  · exact lNj16_long0 (by omega)
  by_cases h1 : xs1.length ≤ 1048576
  rotate_left
  · exact lNj16_long1 h0 (by omega)
  exact lNj16_main (hide rfl) h0 (hide rfl) h1 (hide ha0) (hide ha1)
end Go.Proofs.Ytnjkdfeajlnojaa
