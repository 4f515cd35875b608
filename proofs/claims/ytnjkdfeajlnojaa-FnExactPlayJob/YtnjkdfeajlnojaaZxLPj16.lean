/-
  At any arguments the function answers as the model does, in memory of its own: the law's own walk. (Written by genlx16.py.)
-/
import Derived.Test.YtnjkdfeajlnojaaZ7
namespace Go.Proofs.Ytnjkdfeajlnojaa
open Go.RowKit

set_option maxRecDepth 100000 in
set_option maxHeartbeats 400000 in
theorem lPj16_long0 {a0_ a1_ a2_ : Option Addr} {n0 c0_ n1 c1_ n2 c2_ : Nat} {w : World} (h : 1048576 < n0) :
    Calls Try.prog 7 #[.slice a0_ n0 c0_, .slice a1_ n1 c1_, .slice a2_ n2 c2_] w fun e w' => e = .returned (.bool true) ∧ Below w.heap.size w w' := by
  have g0 : (1048576 : Int) < n0 := by omega
  go_enter Try.func7, Try.ntmps7
  go_wp2_with fail
  go_ret
  exact ⟨rfl, Below.refl _ _⟩
set_option maxRecDepth 100000 in
set_option maxHeartbeats 400000 in
theorem lPj16_long1 {a0_ a1_ a2_ : Option Addr} {n0 c0_ n1 c1_ n2 c2_ : Nat} {w : World} (h0 : n0 ≤ 1048576) (h : 1048576 < n1) :
    Calls Try.prog 7 #[.slice a0_ n0 c0_, .slice a1_ n1 c1_, .slice a2_ n2 c2_] w fun e w' => e = .returned (.bool true) ∧ Below w.heap.size w w' := by
  have g0 : ¬ (1048576 : Int) < n0 := by omega
  have g1 : (1048576 : Int) < n1 := by omega
  go_enter Try.func7, Try.ntmps7
  go_wp2_with fail
  go_ret
  exact ⟨rfl, Below.refl _ _⟩
set_option maxRecDepth 100000 in
set_option maxHeartbeats 400000 in
theorem lPj16_long2 {a0_ a1_ a2_ : Option Addr} {n0 c0_ n1 c1_ n2 c2_ : Nat} {w : World} (h0 : n0 ≤ 1048576) (h1 : n1 ≤ 1048576) (h : 1048576 < n2) :
    Calls Try.prog 7 #[.slice a0_ n0 c0_, .slice a1_ n1 c1_, .slice a2_ n2 c2_] w fun e w' => e = .returned (.bool true) ∧ Below w.heap.size w w' := by
  have g0 : ¬ (1048576 : Int) < n0 := by omega
  have g1 : ¬ (1048576 : Int) < n1 := by omega
  have g2 : (1048576 : Int) < n2 := by omega
  go_enter Try.func7, Try.ntmps7
  go_wp2_with fail
  go_ret
  exact ⟨rfl, Below.refl _ _⟩
set_option maxRecDepth 100000 in
set_option maxHeartbeats 8000000 in
theorem lPj16_main {a0_ a1_ a2_ : Option Addr} {n0 c0_ n1 c1_ n2 c2_ : Nat} {xs0 : List Int} {xs1 : List Int} {xs2 : List Int} {w : World} (hx0_ : Hid (xs0.length = n0)) (hn0 : n0 ≤ 1048576) (hx1_ : Hid (xs1.length = n1)) (hn1 : n1 ≤ 1048576) (hx2_ : Hid (xs2.length = n2)) (hn2 : n2 ≤ 1048576) (HA0 : Hid (ARow w a0_ xs0)) (HA1 : Hid (ARow w a1_ xs1)) (HA2 : Hid (ARow w a2_ xs2)) :
    Calls Try.prog 7 #[.slice a0_ n0 c0_, .slice a1_ n1 c1_, .slice a2_ n2 c2_] w fun e w' => e = .returned (.bool true) ∧ Below w.heap.size w w' := by
  have g0 : ¬ (1048576 : Int) < n0 := by omega
  have g1 : ¬ (1048576 : Int) < n1 := by omega
  have g2 : ¬ (1048576 : Int) < n2 := by omega
  have HS := hide fun (W : World) (b0_ : Nat) (b1_ : Nat) (b2_ : Nat) (r0_ : ARow W (some ⟨b0_, 0, none⟩) xs0) (r1_ : ARow W (some ⟨b1_, 0, none⟩) xs1) (r2_ : ARow W (some ⟨b2_, 0, none⟩) xs2) => spl_r (w := W) (c := n0) (d := n1) (e := n2) hx0_.out hx1_.out hx2_.out (Nat.le_refl _) (Nat.le_refl _) r0_ r1_ r2_ hn2
  have HI := hide fun (W : World) (b0_ : Nat) (b1_ : Nat) (b2_ : Nat) (r0_ : ARow W (some ⟨b0_, 0, none⟩) xs0) (r1_ : ARow W (some ⟨b1_, 0, none⟩) xs1) (r2_ : ARow W (some ⟨b2_, 0, none⟩) xs2) => pl_r (w := W) (c := n0) (d := n1) (e := n2) hx0_.out hx1_.out hx2_.out (Nat.le_refl _) (Nat.le_refl _) r0_ r1_ r2_ hn2
  have HYL : Hid ((plV xs0 xs1 xs2).xs.length ≤ 1048576 ∧ (plV xs0 xs1 xs2).ws.length ≤ 1048576 ∧ (plV xs0 xs1 xs2).L.length ≤ 1048576 ∧ (plV xs0 xs1 xs2).M.length ≤ 1048576) := hide (plV_le _ _ _)
  have hDb : (plD xs0 xs1 xs2).length ≤ 1048576 := plD_le _ _ _
  generalize plD xs0 xs1 xs2 = D at HS HI hDb
  generalize hD : D.length = ND at HS HI hDb
  have HD := hide hD
  clear hD
  generalize plV xs0 xs1 xs2 = Y at HS HI HYL
  generalize plB xs0 xs1 xs2 = GB at HS HI
  have hneG : (GB != GB) = false := by simp
  have hwg : wgt Y ≤ 6291456 := by have := HYL.out; unfold wgt; omega
  have hnn1 : ¬ (1 : Int) + (wgt Y : Nat) < 0 := by omega
  have hnn2 : ¬ (1 : Int) + (wgt Y : Nat) + (ND : Int) < 0 := by omega
  have hnm : ((1 : Int) + (wgt Y : Nat) + (ND : Int) != (1 : Int) + (wgt Y : Nat) + (ND : Int)) = false := by simp
  have hfY : (Y.f != Y.f) = false := by simp
  go_enter Try.func7, Try.ntmps7
  go_wp2_with fail
  refine (to_av (c := c0_) hx0_.out hn0 HA0.out).mono ?_
  rintro _ w1 ⟨B1_, rfl, hb1, o1⟩
  have s_hb1 := hb1.size
  have B_hb1 := hide hb1
  clear hb1
  have O1 := hide o1
  clear o1
  go_wp2_with fail
  refine (to_av (c := c1_) hx1_.out hn1 (HA1.out.below B_hb1.out)).mono ?_
  rintro _ w2 ⟨B2_, rfl, hb2, o2⟩
  have s_hb2 := hb2.size
  have B_hb2 := hide (B_hb1.out.trans (hb2.mono B_hb1.out.size))
  clear B_hb1
  have O1' := hide (O1.out.below hb2)
  clear O1
  clear hb2
  have O2 := hide o2
  clear o2
  go_wp2_with fail
  refine (to_av (c := c2_) hx2_.out hn2 (HA2.out.below B_hb2.out)).mono ?_
  rintro _ w3 ⟨B3_, rfl, hb3, o3⟩
  have s_hb3 := hb3.size
  have B_hb3 := hide (B_hb2.out.trans (hb3.mono B_hb2.out.size))
  clear B_hb2
  have O1'' := hide (O1'.out.below hb3)
  clear O1'
  have O2' := hide (O2.out.below hb3)
  clear O2
  clear hb3
  have O3 := hide o3
  clear o3
  go_wp2_with fail
  refine (HS.out _ _ _ _ (av_at hx0_.out O1''.out) (av_at hx1_.out O2'.out) (av_at hx2_.out O3.out)).mono ?_
  rintro _ w4 ⟨u4, v4, rfl, hb4, q4⟩
  have s_hb4 := hb4.size
  have B_hb4 := hide (B_hb3.out.trans (hb4.mono B_hb3.out.size))
  clear B_hb3
  have O1''' := hide (O1''.out.below hb4)
  clear O1''
  have O2'' := hide (O2'.out.below hb4)
  clear O2'
  have O3' := hide (O3.out.below hb4)
  clear O3
  clear hb4
  obtain ⟨ya4, yb4, yl4, ym4, rfl, qr4, qd4, qn4⟩ := q4
  have q4 := qr4
  clear qr4
  obtain ⟨_, _, _, _, e9, f1, f2, f3, f4, _⟩ := q4.ex
  cases e9
  obtain ⟨a4, c4, rfl⟩ := own_f16 f1
  obtain ⟨b4, d4, rfl⟩ := own_f16 f2
  obtain ⟨p4, e4, rfl, _⟩ := f3.row
  obtain ⟨r4, t4, rfl, _⟩ := f4.row
  obtain ⟨l4, m4, rfl⟩ := own_f16 qd4
  have R4 := hide q4
  clear q4 f1 f2 f3 f4
  have D4 := hide qd4
  have N4 := hide qn4
  have N4_hi := fun q (e : (Value.slice l4 ND m4).ownBlock = some q) => (qd4.lt q e).2
  have N4_lt := fun q (e : Blk (.slice a4 Y.xs.length c4) (.slice b4 Y.ws.length d4) (.slice p4 Y.L.length e4) (.slice r4 Y.M.length t4) Y q) => (R4.out.blk q e).2
  clear qd4 qn4
  have hx4 := below_new w4 (.cells #[.slice a4 Y.xs.length c4, .slice b4 Y.ws.length d4, .slice p4 Y.L.length e4, .slice r4 Y.M.length t4, .int .i64 Y.f] 25)
  have X4 := hide (JW.new w4 25 (.slice a4 Y.xs.length c4) (.slice b4 Y.ws.length d4) (.slice p4 Y.L.length e4) (.slice r4 Y.M.length t4) (.int .i64 Y.f))
  have zx4 : (w4.alloc (.cells #[.slice a4 Y.xs.length c4, .slice b4 Y.ws.length d4, .slice p4 Y.L.length e4, .slice r4 Y.M.length t4, .int .i64 Y.f] 25)).heap.size = w4.heap.size + 1 := World.size_alloc _ _
  have s_hx4 := hx4.size
  have B_hx4 := hide (B_hb4.out.trans (hx4.mono B_hb4.out.size))
  clear B_hb4
  have O1'''' := hide (O1'''.out.below hx4)
  clear O1'''
  have O2''' := hide (O2''.out.below hx4)
  clear O2''
  have O3'' := hide (O3'.out.below hx4)
  clear O3'
  have R4' := hide (R4.out.below hx4)
  clear R4
  have D4' := hide (own_b16 D4.out hx4)
  clear D4
  clear hx4
  clear O1''''
  clear O2'''
  clear O3''
  go_wp2_with fail
  refine (to_av (c := c0_) hx0_.out hn0 (HA0.out.below B_hx4.out)).mono ?_
  rintro _ w5 ⟨B5_, rfl, hb5, o5⟩
  have s_hb5 := hb5.size
  have B_hb5 := hide (B_hx4.out.trans (hb5.mono B_hx4.out.size))
  clear B_hx4
  have R4'' := hide (R4'.out.below hb5)
  clear R4'
  have D4'' := hide (own_b16 D4'.out hb5)
  clear D4'
  have X4' := hide (X4.out.below hb5)
  clear X4
  clear hb5
  have O5 := hide o5
  clear o5
  go_wp2_with fail
  refine (to_av (c := c1_) hx1_.out hn1 (HA1.out.below B_hb5.out)).mono ?_
  rintro _ w6 ⟨B6_, rfl, hb6, o6⟩
  have s_hb6 := hb6.size
  have B_hb6 := hide (B_hb5.out.trans (hb6.mono B_hb5.out.size))
  clear B_hb5
  have R4''' := hide (R4''.out.below hb6)
  clear R4''
  have D4''' := hide (own_b16 D4''.out hb6)
  clear D4''
  have X4'' := hide (X4'.out.below hb6)
  clear X4'
  have O5' := hide (O5.out.below hb6)
  clear O5
  clear hb6
  have O6 := hide o6
  clear o6
  go_wp2_with fail
  refine (to_av (c := c2_) hx2_.out hn2 (HA2.out.below B_hb6.out)).mono ?_
  rintro _ w7 ⟨B7_, rfl, hb7, o7⟩
  have s_hb7 := hb7.size
  have B_hb7 := hide (B_hb6.out.trans (hb7.mono B_hb6.out.size))
  clear B_hb6
  have R4'''' := hide (R4'''.out.below hb7)
  clear R4'''
  have D4'''' := hide (own_b16 D4'''.out hb7)
  clear D4'''
  have X4''' := hide (X4''.out.below hb7)
  clear X4''
  have O5'' := hide (O5'.out.below hb7)
  clear O5'
  have O6' := hide (O6.out.below hb7)
  clear O6
  clear hb7
  have O7 := hide o7
  clear o7
  go_wp2_with fail
  refine (HI.out _ _ _ _ (av_at hx0_.out O5''.out) (av_at hx1_.out O6'.out) (av_at hx2_.out O7.out)).mono ?_
  rintro _ w8 ⟨u8, v8, rfl, hb8, q8⟩
  have s_hb8 := hb8.size
  have B_hb8 := hide (B_hb7.out.trans (hb8.mono B_hb7.out.size))
  clear B_hb7
  have R4''''' := hide (R4''''.out.below hb8)
  clear R4''''
  have D4''''' := hide (own_b16 D4''''.out hb8)
  clear D4''''
  have X4'''' := hide (X4'''.out.below hb8)
  clear X4'''
  have O5''' := hide (O5''.out.below hb8)
  clear O5''
  have O6'' := hide (O6'.out.below hb8)
  clear O6'
  have O7' := hide (O7.out.below hb8)
  clear O7
  clear hb8
  obtain ⟨ya8, yb8, yl8, ym8, rfl, qr8, qd8, qn8⟩ := q8
  have q8 := qr8
  clear qr8
  obtain ⟨_, _, _, _, e9, f1, f2, f3, f4, _⟩ := q8.ex
  cases e9
  obtain ⟨a8, c8, rfl⟩ := own_f16 f1
  obtain ⟨b8, d8, rfl⟩ := own_f16 f2
  obtain ⟨p8, e8, rfl, _⟩ := f3.row
  obtain ⟨r8, t8, rfl, _⟩ := f4.row
  obtain ⟨l8, m8, rfl⟩ := own_f16 qd8
  have R8 := hide q8
  clear q8 f1 f2 f3 f4
  have D8 := hide qd8
  have N8 := hide qn8
  have N8_hi := fun q (e : (Value.slice l8 ND m8).ownBlock = some q) => (qd8.lt q e).2
  have N8_lt := fun q (e : Blk (.slice a8 Y.xs.length c8) (.slice b8 Y.ws.length d8) (.slice p8 Y.L.length e8) (.slice r8 Y.M.length t8) Y q) => (R8.out.blk q e).2
  clear qd8 qn8
  have hx8 := below_new w8 (.cells #[.slice a8 Y.xs.length c8, .slice b8 Y.ws.length d8, .slice p8 Y.L.length e8, .slice r8 Y.M.length t8, .int .i64 Y.f] 25)
  have X8 := hide (JW.new w8 25 (.slice a8 Y.xs.length c8) (.slice b8 Y.ws.length d8) (.slice p8 Y.L.length e8) (.slice r8 Y.M.length t8) (.int .i64 Y.f))
  have zx8 : (w8.alloc (.cells #[.slice a8 Y.xs.length c8, .slice b8 Y.ws.length d8, .slice p8 Y.L.length e8, .slice r8 Y.M.length t8, .int .i64 Y.f] 25)).heap.size = w8.heap.size + 1 := World.size_alloc _ _
  have s_hx8 := hx8.size
  have B_hx8 := hide (B_hb8.out.trans (hx8.mono B_hb8.out.size))
  clear B_hb8
  have R4'''''' := hide (R4'''''.out.below hx8)
  clear R4'''''
  have D4'''''' := hide (own_b16 D4'''''.out hx8)
  clear D4'''''
  have X4''''' := hide (X4''''.out.below hx8)
  clear X4''''
  have O5'''' := hide (O5'''.out.below hx8)
  clear O5'''
  have O6''' := hide (O6''.out.below hx8)
  clear O6''
  have O7'' := hide (O7'.out.below hx8)
  clear O7'
  have R8' := hide (R8.out.below hx8)
  clear R8
  have D8' := hide (own_b16 D8.out hx8)
  clear D8
  clear hx8
  obtain ⟨y0_0, y0_1, y0_2, y0_3, y0_4⟩ := X8.out.cells
  obtain ⟨y1_0, y1_1, y1_2, y1_3, y1_4⟩ := X4'''''.out.cells
  go_wp2_with fail
  refine (eqJ_any HYL.out R8'.out.jin R4''''''.out.jin).mono ?_
  rintro _ w9 ⟨rfl, hb9⟩
  clear y0_0 y0_1 y0_2 y0_3 y0_4 y1_0 y1_1 y1_2 y1_3 y1_4
  have s_hb9 := hb9.size
  have B_hb9 := hide (B_hx8.out.trans (hb9.mono B_hx8.out.size))
  clear B_hx8
  have R4''''''' := hide (R4''''''.out.below hb9)
  clear R4''''''
  have D4''''''' := hide (own_b16 D4''''''.out hb9)
  clear D4''''''
  have X4'''''' := hide (X4'''''.out.below hb9)
  clear X4'''''
  have O5''''' := hide (O5''''.out.below hb9)
  clear O5''''
  have O6'''' := hide (O6'''.out.below hb9)
  clear O6'''
  have O7''' := hide (O7''.out.below hb9)
  clear O7''
  have R8'' := hide (R8'.out.below hb9)
  clear R8'
  have D8'' := hide (own_b16 D8'.out hb9)
  clear D8'
  have X8' := hide (X8.out.below hb9)
  clear X8
  clear hb9
  go_wp2_with fail
  refine (eqb_16 HD.out hDb D8''.out D4'''''''.out).mono ?_
  rintro _ w10 ⟨rfl, hb10⟩
  have s_hb10 := hb10.size
  have B_hb10 := hide (B_hb9.out.trans (hb10.mono B_hb9.out.size))
  clear B_hb9
  have R4'''''''' := hide (R4'''''''.out.below hb10)
  clear R4'''''''
  have D4'''''''' := hide (own_b16 D4'''''''.out hb10)
  clear D4'''''''
  have X4''''''' := hide (X4''''''.out.below hb10)
  clear X4''''''
  have O5'''''' := hide (O5'''''.out.below hb10)
  clear O5'''''
  have O6''''' := hide (O6''''.out.below hb10)
  clear O6''''
  have O7'''' := hide (O7'''.out.below hb10)
  clear O7'''
  have R8''' := hide (R8''.out.below hb10)
  clear R8''
  have D8''' := hide (own_b16 D8''.out hb10)
  clear D8''
  have X8'' := hide (X8'.out.below hb10)
  clear X8'
  clear hb10
  go_wp2_with fail
  refine (to_av (c := c0_) hx0_.out hn0 (HA0.out.below B_hb10.out)).mono ?_
  rintro _ w11 ⟨B11_, rfl, hb11, o11⟩
  have s_hb11 := hb11.size
  have B_hb11 := hide (B_hb10.out.trans (hb11.mono B_hb10.out.size))
  clear B_hb10
  have R4''''''''' := hide (R4''''''''.out.below hb11)
  clear R4''''''''
  have D4''''''''' := hide (own_b16 D4''''''''.out hb11)
  clear D4''''''''
  have X4'''''''' := hide (X4'''''''.out.below hb11)
  clear X4'''''''
  have O5''''''' := hide (O5''''''.out.below hb11)
  clear O5''''''
  have O6'''''' := hide (O6'''''.out.below hb11)
  clear O6'''''
  have O7''''' := hide (O7''''.out.below hb11)
  clear O7''''
  have R8'''' := hide (R8'''.out.below hb11)
  clear R8'''
  have D8'''' := hide (own_b16 D8'''.out hb11)
  clear D8'''
  have X8''' := hide (X8''.out.below hb11)
  clear X8''
  clear hb11
  have O11 := hide o11
  clear o11
  go_wp2_with fail
  refine (eq_av hx0_.out hn0 O5'''''''.out O11.out).mono ?_
  rintro _ w12 ⟨rfl, hb12⟩
  have s_hb12 := hb12.size
  have B_hb12 := hide (B_hb11.out.trans (hb12.mono B_hb11.out.size))
  clear B_hb11
  have R4'''''''''' := hide (R4'''''''''.out.below hb12)
  clear R4'''''''''
  have D4'''''''''' := hide (own_b16 D4'''''''''.out hb12)
  clear D4'''''''''
  have X4''''''''' := hide (X4''''''''.out.below hb12)
  clear X4''''''''
  have O5'''''''' := hide (O5'''''''.out.below hb12)
  clear O5'''''''
  have O6''''''' := hide (O6''''''.out.below hb12)
  clear O6''''''
  have O7'''''' := hide (O7'''''.out.below hb12)
  clear O7'''''
  have R8''''' := hide (R8''''.out.below hb12)
  clear R8''''
  have D8''''' := hide (own_b16 D8''''.out hb12)
  clear D8''''
  have X8'''' := hide (X8'''.out.below hb12)
  clear X8'''
  have O11' := hide (O11.out.below hb12)
  clear O11
  clear hb12
  clear O11'
  go_wp2_with fail
  refine (to_av (c := c1_) hx1_.out hn1 (HA1.out.below B_hb12.out)).mono ?_
  rintro _ w13 ⟨B13_, rfl, hb13, o13⟩
  have s_hb13 := hb13.size
  have B_hb13 := hide (B_hb12.out.trans (hb13.mono B_hb12.out.size))
  clear B_hb12
  have R4''''''''''' := hide (R4''''''''''.out.below hb13)
  clear R4''''''''''
  have D4''''''''''' := hide (own_b16 D4''''''''''.out hb13)
  clear D4''''''''''
  have X4'''''''''' := hide (X4'''''''''.out.below hb13)
  clear X4'''''''''
  have O5''''''''' := hide (O5''''''''.out.below hb13)
  clear O5''''''''
  have O6'''''''' := hide (O6'''''''.out.below hb13)
  clear O6'''''''
  have O7''''''' := hide (O7''''''.out.below hb13)
  clear O7''''''
  have R8'''''' := hide (R8'''''.out.below hb13)
  clear R8'''''
  have D8'''''' := hide (own_b16 D8'''''.out hb13)
  clear D8'''''
  have X8''''' := hide (X8''''.out.below hb13)
  clear X8''''
  clear hb13
  have O13 := hide o13
  clear o13
  go_wp2_with fail
  refine (eq_av hx1_.out hn1 O6''''''''.out O13.out).mono ?_
  rintro _ w14 ⟨rfl, hb14⟩
  have s_hb14 := hb14.size
  have B_hb14 := hide (B_hb13.out.trans (hb14.mono B_hb13.out.size))
  clear B_hb13
  have R4'''''''''''' := hide (R4'''''''''''.out.below hb14)
  clear R4'''''''''''
  have D4'''''''''''' := hide (own_b16 D4'''''''''''.out hb14)
  clear D4'''''''''''
  have X4''''''''''' := hide (X4''''''''''.out.below hb14)
  clear X4''''''''''
  have O5'''''''''' := hide (O5'''''''''.out.below hb14)
  clear O5'''''''''
  have O6''''''''' := hide (O6''''''''.out.below hb14)
  clear O6''''''''
  have O7'''''''' := hide (O7'''''''.out.below hb14)
  clear O7'''''''
  have R8''''''' := hide (R8''''''.out.below hb14)
  clear R8''''''
  have D8''''''' := hide (own_b16 D8''''''.out hb14)
  clear D8''''''
  have X8'''''' := hide (X8'''''.out.below hb14)
  clear X8'''''
  have O13' := hide (O13.out.below hb14)
  clear O13
  clear hb14
  clear O13'
  go_wp2_with fail
  refine (to_av (c := c2_) hx2_.out hn2 (HA2.out.below B_hb14.out)).mono ?_
  rintro _ w15 ⟨B15_, rfl, hb15, o15⟩
  have s_hb15 := hb15.size
  have B_hb15 := hide (B_hb14.out.trans (hb15.mono B_hb14.out.size))
  clear B_hb14
  have R4''''''''''''' := hide (R4''''''''''''.out.below hb15)
  clear R4''''''''''''
  have D4''''''''''''' := hide (own_b16 D4''''''''''''.out hb15)
  clear D4''''''''''''
  have X4'''''''''''' := hide (X4'''''''''''.out.below hb15)
  clear X4'''''''''''
  have O5''''''''''' := hide (O5''''''''''.out.below hb15)
  clear O5''''''''''
  have O6'''''''''' := hide (O6'''''''''.out.below hb15)
  clear O6'''''''''
  have O7''''''''' := hide (O7''''''''.out.below hb15)
  clear O7''''''''
  have R8'''''''' := hide (R8'''''''.out.below hb15)
  clear R8'''''''
  have D8'''''''' := hide (own_b16 D8'''''''.out hb15)
  clear D8'''''''
  have X8''''''' := hide (X8''''''.out.below hb15)
  clear X8''''''
  clear hb15
  have O15 := hide o15
  clear o15
  go_wp2_with fail
  refine (eq_av hx2_.out hn2 O7'''''''''.out O15.out).mono ?_
  rintro _ w16 ⟨rfl, hb16⟩
  have s_hb16 := hb16.size
  have B_hb16 := hide (B_hb15.out.trans (hb16.mono B_hb15.out.size))
  clear B_hb15
  have R4'''''''''''''' := hide (R4'''''''''''''.out.below hb16)
  clear R4'''''''''''''
  have D4'''''''''''''' := hide (own_b16 D4'''''''''''''.out hb16)
  clear D4'''''''''''''
  have X4''''''''''''' := hide (X4''''''''''''.out.below hb16)
  clear X4''''''''''''
  have O5'''''''''''' := hide (O5'''''''''''.out.below hb16)
  clear O5'''''''''''
  have O6''''''''''' := hide (O6''''''''''.out.below hb16)
  clear O6''''''''''
  have O7'''''''''' := hide (O7'''''''''.out.below hb16)
  clear O7'''''''''
  have R8''''''''' := hide (R8''''''''.out.below hb16)
  clear R8''''''''
  have D8''''''''' := hide (own_b16 D8''''''''.out hb16)
  clear D8''''''''
  have X8'''''''' := hide (X8'''''''.out.below hb16)
  clear X8'''''''
  have O15' := hide (O15.out.below hb16)
  clear O15
  clear hb16
  clear O15'
  go_wp2_with fail
  refine (mark_av hx0_.out hn0 (by omega) (by omega) O5''''''''''''.out).mono ?_
  rintro _ w17 ⟨rfl, _, hg17⟩
  have hr17 := (Rng.of16 (Below.refl _ _)).step16 (lo := (w4.alloc (.cells #[.slice a4 Y.xs.length c4, .slice b4 Y.ws.length d4, .slice p4 Y.L.length e4, .slice r4 Y.M.length t4, .int .i64 Y.f] 25)).heap.size) (hi := w5.heap.size) hg17 O5''''''''''''.out.at_
  clear hg17
  clear O5''''''''''''
  have s_hr17 := hr17.2.2.2.1
  have B_hr17 := hide (B_hb16.out.trans (hr17.below (by omega) B_hb16.out.size))
  clear B_hb16
  have R4''''''''''''''' := hide (R4''''''''''''''.out.rng hr17 (by first | exact Or.inl (by omega) | exact Or.inr (by omega)))
  clear R4''''''''''''''
  have D4''''''''''''''' := hide (own_keep2 D4''''''''''''''.out fun g e hl => hr17.2.2.2.2 g hl (by have h1 := D4''''''''''''''.out.lt g e; have h2 := N4_hi g e; first | exact Or.inl (by omega) | exact Or.inr (by omega)))
  clear D4''''''''''''''
  have X4'''''''''''''' := hide (X4'''''''''''''.out.keep (hr17.2.2.2.2 _ X4'''''''''''''.out.lt (by first | exact Or.inl (by omega) | exact Or.inr (by omega))))
  clear X4'''''''''''''
  have O6'''''''''''' := hide (O6'''''''''''.out.rng hr17 (by first | exact Or.inl (by omega) | exact Or.inr (by omega)))
  clear O6'''''''''''
  have O7''''''''''' := hide (O7''''''''''.out.rng hr17 (by first | exact Or.inl (by omega) | exact Or.inr (by omega)))
  clear O7''''''''''
  have R8'''''''''' := hide (R8'''''''''.out.rng hr17 (by first | exact Or.inl (by omega) | exact Or.inr (by omega)))
  clear R8'''''''''
  have D8'''''''''' := hide (own_keep2 D8'''''''''.out fun g e hl => hr17.2.2.2.2 g hl (by have h1 := D8'''''''''.out.lt g e; have h2 := N8_hi g e; first | exact Or.inl (by omega) | exact Or.inr (by omega)))
  clear D8'''''''''
  have X8''''''''' := hide (X8''''''''.out.keep (hr17.2.2.2.2 _ X8''''''''.out.lt (by first | exact Or.inl (by omega) | exact Or.inr (by omega))))
  clear X8''''''''
  clear hr17
  go_wp2_with fail
  refine (mark_av hx1_.out hn1 (by omega) (by omega) O6''''''''''''.out).mono ?_
  rintro _ w18 ⟨rfl, _, hg18⟩
  have hr18 := (Rng.of16 (Below.refl _ _)).step16 (lo := w5.heap.size) (hi := w6.heap.size) hg18 O6''''''''''''.out.at_
  clear hg18
  clear O6''''''''''''
  have s_hr18 := hr18.2.2.2.1
  have B_hr18 := hide (B_hr17.out.trans (hr18.below (by omega) B_hr17.out.size))
  clear B_hr17
  have R4'''''''''''''''' := hide (R4'''''''''''''''.out.rng hr18 (by first | exact Or.inl (by omega) | exact Or.inr (by omega)))
  clear R4'''''''''''''''
  have D4'''''''''''''''' := hide (own_keep2 D4'''''''''''''''.out fun g e hl => hr18.2.2.2.2 g hl (by have h1 := D4'''''''''''''''.out.lt g e; have h2 := N4_hi g e; first | exact Or.inl (by omega) | exact Or.inr (by omega)))
  clear D4'''''''''''''''
  have X4''''''''''''''' := hide (X4''''''''''''''.out.keep (hr18.2.2.2.2 _ X4''''''''''''''.out.lt (by first | exact Or.inl (by omega) | exact Or.inr (by omega))))
  clear X4''''''''''''''
  have O7'''''''''''' := hide (O7'''''''''''.out.rng hr18 (by first | exact Or.inl (by omega) | exact Or.inr (by omega)))
  clear O7'''''''''''
  have R8''''''''''' := hide (R8''''''''''.out.rng hr18 (by first | exact Or.inl (by omega) | exact Or.inr (by omega)))
  clear R8''''''''''
  have D8''''''''''' := hide (own_keep2 D8''''''''''.out fun g e hl => hr18.2.2.2.2 g hl (by have h1 := D8''''''''''.out.lt g e; have h2 := N8_hi g e; first | exact Or.inl (by omega) | exact Or.inr (by omega)))
  clear D8''''''''''
  have X8'''''''''' := hide (X8'''''''''.out.keep (hr18.2.2.2.2 _ X8'''''''''.out.lt (by first | exact Or.inl (by omega) | exact Or.inr (by omega))))
  clear X8'''''''''
  clear hr18
  go_wp2_with fail
  refine (mark_av hx2_.out hn2 (by omega) (by omega) O7''''''''''''.out).mono ?_
  rintro _ w19 ⟨rfl, _, hg19⟩
  have hr19 := (Rng.of16 (Below.refl _ _)).step16 (lo := w6.heap.size) (hi := w7.heap.size) hg19 O7''''''''''''.out.at_
  clear hg19
  clear O7''''''''''''
  have s_hr19 := hr19.2.2.2.1
  have B_hr19 := hide (B_hr18.out.trans (hr19.below (by omega) B_hr18.out.size))
  clear B_hr18
  have R4''''''''''''''''' := hide (R4''''''''''''''''.out.rng hr19 (by first | exact Or.inl (by omega) | exact Or.inr (by omega)))
  clear R4''''''''''''''''
  have D4''''''''''''''''' := hide (own_keep2 D4''''''''''''''''.out fun g e hl => hr19.2.2.2.2 g hl (by have h1 := D4''''''''''''''''.out.lt g e; have h2 := N4_hi g e; first | exact Or.inl (by omega) | exact Or.inr (by omega)))
  clear D4''''''''''''''''
  have X4'''''''''''''''' := hide (X4'''''''''''''''.out.keep (hr19.2.2.2.2 _ X4'''''''''''''''.out.lt (by first | exact Or.inl (by omega) | exact Or.inr (by omega))))
  clear X4'''''''''''''''
  have R8'''''''''''' := hide (R8'''''''''''.out.rng hr19 (by first | exact Or.inl (by omega) | exact Or.inr (by omega)))
  clear R8'''''''''''
  have D8'''''''''''' := hide (own_keep2 D8'''''''''''.out fun g e hl => hr19.2.2.2.2 g hl (by have h1 := D8'''''''''''.out.lt g e; have h2 := N8_hi g e; first | exact Or.inl (by omega) | exact Or.inr (by omega)))
  clear D8'''''''''''
  have X8''''''''''' := hide (X8''''''''''.out.keep (hr19.2.2.2.2 _ X8''''''''''.out.lt (by first | exact Or.inl (by omega) | exact Or.inr (by omega))))
  clear X8''''''''''
  clear hr19
  have hk0 : ¬ (1 : Int) + (n0 : Int) + (n1 : Int) + (n2 : Int) < 0 := by omega
  obtain ⟨y0_0, y0_1, y0_2, y0_3, y0_4⟩ := X8'''''''''''.out.cells
  obtain ⟨y1_0, y1_1, y1_2, y1_3, y1_4⟩ := X4''''''''''''''''.out.cells
  go_wp2_with fail
  refine (eqJ_any HYL.out R8''''''''''''.out.jin R4'''''''''''''''''.out.jin).mono ?_
  rintro _ w20 ⟨rfl, hb20⟩
  clear y0_0 y0_1 y0_2 y0_3 y0_4 y1_0 y1_1 y1_2 y1_3 y1_4
  have s_hb20 := hb20.size
  have B_hb20 := hide (B_hr19.out.trans (hb20.mono B_hr19.out.size))
  clear B_hr19
  have R4'''''''''''''''''' := hide (R4'''''''''''''''''.out.below hb20)
  clear R4'''''''''''''''''
  have D4'''''''''''''''''' := hide (own_b16 D4'''''''''''''''''.out hb20)
  clear D4'''''''''''''''''
  have X4''''''''''''''''' := hide (X4''''''''''''''''.out.below hb20)
  clear X4''''''''''''''''
  have R8''''''''''''' := hide (R8''''''''''''.out.below hb20)
  clear R8''''''''''''
  have D8''''''''''''' := hide (own_b16 D8''''''''''''.out hb20)
  clear D8''''''''''''
  have X8'''''''''''' := hide (X8'''''''''''.out.below hb20)
  clear X8'''''''''''
  clear hb20
  go_wp2_with fail
  refine (eqb_16 HD.out hDb D8'''''''''''''.out D4''''''''''''''''''.out).mono ?_
  rintro _ w21 ⟨rfl, hb21⟩
  have s_hb21 := hb21.size
  have B_hb21 := hide (B_hb20.out.trans (hb21.mono B_hb20.out.size))
  clear B_hb20
  have R4''''''''''''''''''' := hide (R4''''''''''''''''''.out.below hb21)
  clear R4''''''''''''''''''
  have D4''''''''''''''''''' := hide (own_b16 D4''''''''''''''''''.out hb21)
  clear D4''''''''''''''''''
  have X4'''''''''''''''''' := hide (X4'''''''''''''''''.out.below hb21)
  clear X4'''''''''''''''''
  have R8'''''''''''''' := hide (R8'''''''''''''.out.below hb21)
  clear R8'''''''''''''
  have D8'''''''''''''' := hide (own_b16 D8'''''''''''''.out hb21)
  clear D8'''''''''''''
  have X8''''''''''''' := hide (X8''''''''''''.out.below hb21)
  clear X8''''''''''''
  clear hb21
  obtain ⟨y0_0, y0_1, y0_2, y0_3, y0_4⟩ := X8'''''''''''''.out.cells
  go_wp2_with fail
  refine (markJ_fine HYL.out (by omega) (by omega) R8''''''''''''''.out).mono ?_
  rintro _ w22 ⟨rfl, hh22, hr22, hk22_⟩
  clear y0_0 y0_1 y0_2 y0_3 y0_4
  clear R8''''''''''''''
  have DD22 := hide (own_keep2 D8''''''''''''''.out fun q e hl => hk22_ q hl fun hb => N8.out q hb e)
  clear D8'''''''''''''' hk22_
  have s_hr22 := hr22.2.2.2.1
  have B_hr22 := hide (B_hb21.out.trans (hr22.below (by omega) B_hb21.out.size))
  clear B_hb21
  have R4'''''''''''''''''''' := hide (R4'''''''''''''''''''.out.rng hr22 (by first | exact Or.inl (by omega) | exact Or.inr (by omega)))
  clear R4'''''''''''''''''''
  have D4'''''''''''''''''''' := hide (own_keep2 D4'''''''''''''''''''.out fun g e hl => hr22.2.2.2.2 g hl (by have h1 := D4'''''''''''''''''''.out.lt g e; have h2 := N4_hi g e; first | exact Or.inl (by omega) | exact Or.inr (by omega)))
  clear D4'''''''''''''''''''
  have X4''''''''''''''''''' := hide (X4''''''''''''''''''.out.keep (hr22.2.2.2.2 _ X4''''''''''''''''''.out.lt (by first | exact Or.inl (by omega) | exact Or.inr (by omega))))
  clear X4''''''''''''''''''
  have X8'''''''''''''' := hide (X8'''''''''''''.out.keep (hr22.2.2.2.2 _ X8'''''''''''''.out.lt (by first | exact Or.inl (by omega) | exact Or.inr (by omega))))
  clear X8'''''''''''''
  clear hr22
  have H22 := hide hh22
  clear hh22
  go_wp2_with fail
  refine (mark_b16 HD.out hDb (by omega) (by omega) DD22.out).mono ?_
  rintro _ w23 ⟨rfl, hh23, hg23⟩
  have hr23 := (Rng.of16 (Below.refl _ _)).step16 (lo := w7.heap.size) (hi := w8.heap.size) hg23 (fun q e => ⟨(DD22.out.lt q e).1, N8_hi q e⟩)
  have H23 := hide (H22.out.keepB hg23.size fun q hb => hg23.block q (by have := N8_lt q hb; omega) fun e => N8.out q hb e.symm)
  clear H22 hg23 DD22
  have s_hr23 := hr23.2.2.2.1
  have B_hr23 := hide (B_hr22.out.trans (hr23.below (by omega) B_hr22.out.size))
  clear B_hr22
  have R4''''''''''''''''''''' := hide (R4''''''''''''''''''''.out.rng hr23 (by first | exact Or.inl (by omega) | exact Or.inr (by omega)))
  clear R4''''''''''''''''''''
  have D4''''''''''''''''''''' := hide (own_keep2 D4''''''''''''''''''''.out fun g e hl => hr23.2.2.2.2 g hl (by have h1 := D4''''''''''''''''''''.out.lt g e; have h2 := N4_hi g e; first | exact Or.inl (by omega) | exact Or.inr (by omega)))
  clear D4''''''''''''''''''''
  have X4'''''''''''''''''''' := hide (X4'''''''''''''''''''.out.keep (hr23.2.2.2.2 _ X4'''''''''''''''''''.out.lt (by first | exact Or.inl (by omega) | exact Or.inr (by omega))))
  clear X4'''''''''''''''''''
  have X8''''''''''''''' := hide (X8''''''''''''''.out.keep (hr23.2.2.2.2 _ X8''''''''''''''.out.lt (by first | exact Or.inl (by omega) | exact Or.inr (by omega))))
  clear X8''''''''''''''
  clear hr23
  have DH23 := hide hh23
  clear hh23
  obtain ⟨y0_0, y0_1, y0_2, y0_3, y0_4⟩ := X8'''''''''''''''.out.cells
  go_wp2_with fail
  refine (heldJ_any HYL.out (by omega) (by omega) H23.out).mono ?_
  rintro _ w24 ⟨rfl, hb24⟩
  clear y0_0 y0_1 y0_2 y0_3 y0_4
  have s_hb24 := hb24.size
  have B_hb24 := hide (B_hr23.out.trans (hb24.mono B_hr23.out.size))
  clear B_hr23
  have R4'''''''''''''''''''''' := hide (R4'''''''''''''''''''''.out.below hb24)
  clear R4'''''''''''''''''''''
  have D4'''''''''''''''''''''' := hide (own_b16 D4'''''''''''''''''''''.out hb24)
  clear D4'''''''''''''''''''''
  have X4''''''''''''''''''''' := hide (X4''''''''''''''''''''.out.below hb24)
  clear X4''''''''''''''''''''
  have X8'''''''''''''''' := hide (X8'''''''''''''''.out.below hb24)
  clear X8'''''''''''''''
  have H23' := hide (H23.out.below hb24)
  clear H23
  have DH23' := hide (DH23.out.below hb24)
  clear DH23
  clear hb24
  go_wp2_with fail
  refine (held_b16 hDb (by omega) (by omega) DH23'.out).mono ?_
  rintro _ wz ⟨rfl, hwz⟩
  obtain rfl : w24 = wz := hwz.symm
  go_wp2_with fail
  refine (to_av (c := c0_) hx0_.out hn0 (HA0.out.below B_hb24.out)).mono ?_
  rintro _ w25 ⟨B25_, rfl, hb25, o25⟩
  have s_hb25 := hb25.size
  have B_hb25 := hide (B_hb24.out.trans (hb25.mono B_hb24.out.size))
  clear B_hb24
  have R4''''''''''''''''''''''' := hide (R4''''''''''''''''''''''.out.below hb25)
  clear R4''''''''''''''''''''''
  have D4''''''''''''''''''''''' := hide (own_b16 D4''''''''''''''''''''''.out hb25)
  clear D4''''''''''''''''''''''
  have X4'''''''''''''''''''''' := hide (X4'''''''''''''''''''''.out.below hb25)
  clear X4'''''''''''''''''''''
  have X8''''''''''''''''' := hide (X8''''''''''''''''.out.below hb25)
  clear X8''''''''''''''''
  have H23'' := hide (H23'.out.below hb25)
  clear H23'
  have DH23'' := hide (DH23'.out.below hb25)
  clear DH23'
  clear hb25
  have O25 := hide o25
  clear o25
  go_wp2_with fail
  refine (to_av (c := c1_) hx1_.out hn1 (HA1.out.below B_hb25.out)).mono ?_
  rintro _ w26 ⟨B26_, rfl, hb26, o26⟩
  have s_hb26 := hb26.size
  have B_hb26 := hide (B_hb25.out.trans (hb26.mono B_hb25.out.size))
  clear B_hb25
  have R4'''''''''''''''''''''''' := hide (R4'''''''''''''''''''''''.out.below hb26)
  clear R4'''''''''''''''''''''''
  have D4'''''''''''''''''''''''' := hide (own_b16 D4'''''''''''''''''''''''.out hb26)
  clear D4'''''''''''''''''''''''
  have X4''''''''''''''''''''''' := hide (X4''''''''''''''''''''''.out.below hb26)
  clear X4''''''''''''''''''''''
  have X8'''''''''''''''''' := hide (X8'''''''''''''''''.out.below hb26)
  clear X8'''''''''''''''''
  have H23''' := hide (H23''.out.below hb26)
  clear H23''
  have DH23''' := hide (DH23''.out.below hb26)
  clear DH23''
  have O25' := hide (O25.out.below hb26)
  clear O25
  clear hb26
  have O26 := hide o26
  clear o26
  go_wp2_with fail
  refine (to_av (c := c2_) hx2_.out hn2 (HA2.out.below B_hb26.out)).mono ?_
  rintro _ w27 ⟨B27_, rfl, hb27, o27⟩
  have s_hb27 := hb27.size
  have B_hb27 := hide (B_hb26.out.trans (hb27.mono B_hb26.out.size))
  clear B_hb26
  have R4''''''''''''''''''''''''' := hide (R4''''''''''''''''''''''''.out.below hb27)
  clear R4''''''''''''''''''''''''
  have D4''''''''''''''''''''''''' := hide (own_b16 D4''''''''''''''''''''''''.out hb27)
  clear D4''''''''''''''''''''''''
  have X4'''''''''''''''''''''''' := hide (X4'''''''''''''''''''''''.out.below hb27)
  clear X4'''''''''''''''''''''''
  have X8''''''''''''''''''' := hide (X8''''''''''''''''''.out.below hb27)
  clear X8''''''''''''''''''
  have H23'''' := hide (H23'''.out.below hb27)
  clear H23'''
  have DH23'''' := hide (DH23'''.out.below hb27)
  clear DH23'''
  have O25'' := hide (O25'.out.below hb27)
  clear O25'
  have O26' := hide (O26.out.below hb27)
  clear O26
  clear hb27
  have O27 := hide o27
  clear o27
  go_wp2_with fail
  refine (HI.out _ _ _ _ (av_at hx0_.out O25''.out) (av_at hx1_.out O26'.out) (av_at hx2_.out O27.out)).mono ?_
  rintro _ w28 ⟨u28, v28, rfl, hb28, q28⟩
  have s_hb28 := hb28.size
  have B_hb28 := hide (B_hb27.out.trans (hb28.mono B_hb27.out.size))
  clear B_hb27
  have R4'''''''''''''''''''''''''' := hide (R4'''''''''''''''''''''''''.out.below hb28)
  clear R4'''''''''''''''''''''''''
  have D4'''''''''''''''''''''''''' := hide (own_b16 D4'''''''''''''''''''''''''.out hb28)
  clear D4'''''''''''''''''''''''''
  have X4''''''''''''''''''''''''' := hide (X4''''''''''''''''''''''''.out.below hb28)
  clear X4''''''''''''''''''''''''
  have X8'''''''''''''''''''' := hide (X8'''''''''''''''''''.out.below hb28)
  clear X8'''''''''''''''''''
  have H23''''' := hide (H23''''.out.below hb28)
  clear H23''''
  have DH23''''' := hide (DH23''''.out.below hb28)
  clear DH23''''
  have O25''' := hide (O25''.out.below hb28)
  clear O25''
  have O26'' := hide (O26'.out.below hb28)
  clear O26'
  have O27' := hide (O27.out.below hb28)
  clear O27
  clear hb28
  obtain ⟨ya28, yb28, yl28, ym28, rfl, qr28, qd28, qn28⟩ := q28
  have q28 := qr28
  clear qr28
  obtain ⟨_, _, _, _, e9, f1, f2, f3, f4, _⟩ := q28.ex
  cases e9
  obtain ⟨a28, c28, rfl⟩ := own_f16 f1
  obtain ⟨b28, d28, rfl⟩ := own_f16 f2
  obtain ⟨p28, e28, rfl, _⟩ := f3.row
  obtain ⟨r28, t28, rfl, _⟩ := f4.row
  obtain ⟨l28, m28, rfl⟩ := own_f16 qd28
  have R28 := hide q28
  clear q28 f1 f2 f3 f4
  have D28 := hide qd28
  have N28 := hide qn28
  have N28_hi := fun q (e : (Value.slice l28 ND m28).ownBlock = some q) => (qd28.lt q e).2
  have N28_lt := fun q (e : Blk (.slice a28 Y.xs.length c28) (.slice b28 Y.ws.length d28) (.slice p28 Y.L.length e28) (.slice r28 Y.M.length t28) Y q) => (R28.out.blk q e).2
  clear qd28 qn28
  have hx28 := below_new w28 (.cells #[.slice a28 Y.xs.length c28, .slice b28 Y.ws.length d28, .slice p28 Y.L.length e28, .slice r28 Y.M.length t28, .int .i64 Y.f] 25)
  have X28 := hide (JW.new w28 25 (.slice a28 Y.xs.length c28) (.slice b28 Y.ws.length d28) (.slice p28 Y.L.length e28) (.slice r28 Y.M.length t28) (.int .i64 Y.f))
  have zx28 : (w28.alloc (.cells #[.slice a28 Y.xs.length c28, .slice b28 Y.ws.length d28, .slice p28 Y.L.length e28, .slice r28 Y.M.length t28, .int .i64 Y.f] 25)).heap.size = w28.heap.size + 1 := World.size_alloc _ _
  have s_hx28 := hx28.size
  have B_hx28 := hide (B_hb28.out.trans (hx28.mono B_hb28.out.size))
  clear B_hb28
  have R4''''''''''''''''''''''''''' := hide (R4''''''''''''''''''''''''''.out.below hx28)
  clear R4''''''''''''''''''''''''''
  have D4''''''''''''''''''''''''''' := hide (own_b16 D4''''''''''''''''''''''''''.out hx28)
  clear D4''''''''''''''''''''''''''
  have X4'''''''''''''''''''''''''' := hide (X4'''''''''''''''''''''''''.out.below hx28)
  clear X4'''''''''''''''''''''''''
  have X8''''''''''''''''''''' := hide (X8''''''''''''''''''''.out.below hx28)
  clear X8''''''''''''''''''''
  have H23'''''' := hide (H23'''''.out.below hx28)
  clear H23'''''
  have DH23'''''' := hide (DH23'''''.out.below hx28)
  clear DH23'''''
  have O25'''' := hide (O25'''.out.below hx28)
  clear O25'''
  have O26''' := hide (O26''.out.below hx28)
  clear O26''
  have O27'' := hide (O27'.out.below hx28)
  clear O27'
  have R28' := hide (R28.out.below hx28)
  clear R28
  have D28' := hide (own_b16 D28.out hx28)
  clear D28
  clear hx28
  clear O25''''
  clear O26'''
  clear O27''
  obtain ⟨y0_0, y0_1, y0_2, y0_3, y0_4⟩ := X28.out.cells
  obtain ⟨y1_0, y1_1, y1_2, y1_3, y1_4⟩ := X4''''''''''''''''''''''''''.out.cells
  go_wp2_with fail
  refine (eqJ_any HYL.out R28'.out.jin R4'''''''''''''''''''''''''''.out.jin).mono ?_
  rintro _ w29 ⟨rfl, hb29⟩
  clear y0_0 y0_1 y0_2 y0_3 y0_4 y1_0 y1_1 y1_2 y1_3 y1_4
  have s_hb29 := hb29.size
  have B_hb29 := hide (B_hx28.out.trans (hb29.mono B_hx28.out.size))
  clear B_hx28
  have R4'''''''''''''''''''''''''''' := hide (R4'''''''''''''''''''''''''''.out.below hb29)
  clear R4'''''''''''''''''''''''''''
  have D4'''''''''''''''''''''''''''' := hide (own_b16 D4'''''''''''''''''''''''''''.out hb29)
  clear D4'''''''''''''''''''''''''''
  have X4''''''''''''''''''''''''''' := hide (X4''''''''''''''''''''''''''.out.below hb29)
  clear X4''''''''''''''''''''''''''
  have X8'''''''''''''''''''''' := hide (X8'''''''''''''''''''''.out.below hb29)
  clear X8'''''''''''''''''''''
  have H23''''''' := hide (H23''''''.out.below hb29)
  clear H23''''''
  have DH23''''''' := hide (DH23''''''.out.below hb29)
  clear DH23''''''
  have R28'' := hide (R28'.out.below hb29)
  clear R28'
  have D28'' := hide (own_b16 D28'.out hb29)
  clear D28'
  have X28' := hide (X28.out.below hb29)
  clear X28
  clear hb29
  go_wp2_with fail
  refine (eqb_16 HD.out hDb D28''.out D4''''''''''''''''''''''''''''.out).mono ?_
  rintro _ w30 ⟨rfl, hb30⟩
  have s_hb30 := hb30.size
  have B_hb30 := hide (B_hb29.out.trans (hb30.mono B_hb29.out.size))
  clear B_hb29
  have R4''''''''''''''''''''''''''''' := hide (R4''''''''''''''''''''''''''''.out.below hb30)
  clear R4''''''''''''''''''''''''''''
  have D4''''''''''''''''''''''''''''' := hide (own_b16 D4''''''''''''''''''''''''''''.out hb30)
  clear D4''''''''''''''''''''''''''''
  have X4'''''''''''''''''''''''''''' := hide (X4'''''''''''''''''''''''''''.out.below hb30)
  clear X4'''''''''''''''''''''''''''
  have X8''''''''''''''''''''''' := hide (X8''''''''''''''''''''''.out.below hb30)
  clear X8''''''''''''''''''''''
  have H23'''''''' := hide (H23'''''''.out.below hb30)
  clear H23'''''''
  have DH23'''''''' := hide (DH23'''''''.out.below hb30)
  clear DH23'''''''
  have R28''' := hide (R28''.out.below hb30)
  clear R28''
  have D28''' := hide (own_b16 D28''.out hb30)
  clear D28''
  have X28'' := hide (X28'.out.below hb30)
  clear X28'
  clear hb30
  obtain ⟨y0_0, y0_1, y0_2, y0_3, y0_4⟩ := X8'''''''''''''''''''''''.out.cells
  go_wp2_with fail
  refine (heldJ_any HYL.out (by omega) (by omega) H23''''''''.out).mono ?_
  rintro _ w31 ⟨rfl, hb31⟩
  clear y0_0 y0_1 y0_2 y0_3 y0_4
  have s_hb31 := hb31.size
  have B_hb31 := hide (B_hb30.out.trans (hb31.mono B_hb30.out.size))
  clear B_hb30
  have R4'''''''''''''''''''''''''''''' := hide (R4'''''''''''''''''''''''''''''.out.below hb31)
  clear R4'''''''''''''''''''''''''''''
  have D4'''''''''''''''''''''''''''''' := hide (own_b16 D4'''''''''''''''''''''''''''''.out hb31)
  clear D4'''''''''''''''''''''''''''''
  have X4''''''''''''''''''''''''''''' := hide (X4''''''''''''''''''''''''''''.out.below hb31)
  clear X4''''''''''''''''''''''''''''
  have X8'''''''''''''''''''''''' := hide (X8'''''''''''''''''''''''.out.below hb31)
  clear X8'''''''''''''''''''''''
  have H23''''''''' := hide (H23''''''''.out.below hb31)
  clear H23''''''''
  have DH23''''''''' := hide (DH23''''''''.out.below hb31)
  clear DH23''''''''
  have R28'''' := hide (R28'''.out.below hb31)
  clear R28'''
  have D28'''' := hide (own_b16 D28'''.out hb31)
  clear D28'''
  have X28''' := hide (X28''.out.below hb31)
  clear X28''
  clear hb31
  go_wp2_with fail
  refine (held_b16 hDb (by omega) (by omega) DH23'''''''''.out).mono ?_
  rintro _ wz ⟨rfl, hwz⟩
  obtain rfl : w31 = wz := hwz.symm
  go_wp2_with fail
  go_ret
  exact ⟨rfl, B_hb31.out⟩
theorem lPj16_walk {a0_ a1_ a2_ : Option Addr} {c0_ c1_ c2_ : Nat} {xs0 : List Int} {xs1 : List Int} {xs2 : List Int} {w : World} (ha0 : ARow w a0_ xs0)  (ha1 : ARow w a1_ xs1)  (ha2 : ARow w a2_ xs2) :
    Calls Try.prog 7 #[.slice a0_ xs0.length c0_, .slice a1_ xs1.length c1_, .slice a2_ xs2.length c2_] w fun e w' => e = .returned (.bool true) ∧ Below w.heap.size w w' := by
  by_cases h0 : xs0.length ≤ 1048576
  rotate_left
  · exact lPj16_long0 (by omega)
  by_cases h1 : xs1.length ≤ 1048576
  rotate_left
  · exact lPj16_long1 h0 (by omega)
  by_cases h2 : xs2.length ≤ 1048576
  rotate_left
  · exact lPj16_long2 h0 h1 (by omega)
  exact lPj16_main (hide rfl) h0 (hide rfl) h1 (hide rfl) h2 (hide ha0) (hide ha1) (hide ha2)
end Go.Proofs.Ytnjkdfeajlnojaa
