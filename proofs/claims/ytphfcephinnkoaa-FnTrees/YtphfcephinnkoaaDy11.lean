/-
  What DrawWayBetween and DrawOnWay hand out: two spots, three spots.
-/
import Derived.Test.YtphfcephinnkoaaDw11
namespace Go.Proofs.Ytphfcephinnkoaa
open Go.RowKit

/-- A box of two cells that may be written. -/
def Bx (w : World) (b : Nat) (x y : Int) : Prop := w.cell? ⟨b, 0, none⟩ = some (.int .i64 x) ∧ w.cell? ⟨b, 1, none⟩ = some (.int .i64 y) ∧ w.frozen? ⟨b, 0, none⟩ = false ∧ w.frozen? ⟨b, 1, none⟩ = false
theorem Bx.lt {w : World} {b : Nat} {x y : Int} (h : Bx w b x y) : b < w.heap.size := World.block_lt_of_cell? w _ h.1
theorem Bx.kp {w w' : World} {b c : Nat} {x y : Int} (h : Bx w b x y) (hk : Kp c w w') (hne : b ≠ c) : Bx w' b x y := by
  obtain ⟨h0, h1, h2, h3⟩ := h
  exact hk.var b (World.block_lt_of_cell? w _ h0) hne _ _ h0 h1 h2 h3
theorem Bx.keep {w w' : World} {b : Nat} {x y : Int} (h : Bx w b x y) (hb : w'.heap[b]? = w.heap[b]?) : Bx w' b x y := by
  obtain ⟨h0, h1, h2, h3⟩ := h
  exact ⟨(World.cell?_of_block (w := w) (a := ⟨b, 0, none⟩) hb).trans h0, (World.cell?_of_block (w := w) (a := ⟨b, 1, none⟩) hb).trans h1, (World.frozen?_of_block (w := w) (a := ⟨b, 0, none⟩) hb).trans h2, (World.frozen?_of_block (w := w) (a := ⟨b, 1, none⟩) hb).trans h3⟩
theorem Bx.below {w w' : World} {b : Nat} {x y : Int} (h : Bx w b x y) (hb : Below w.heap.size w w') : Bx w' b x y := h.keep (hb.block b h.lt)
theorem Bx.new (w : World) (x y : Int) (ty : TypeId) : Bx (w.alloc (.cells #[.int .i64 x, .int .i64 y] ty)) w.heap.size x y := ⟨by simp, by simp, by simp [go_sem], by simp [go_sem]⟩
def DWPost (w : World) (e : Ending) (w' : World) : Prop :=
  ∃ s t : Int × Int, e = .returned (.tuple #[.agg #[.int .i64 s.1, .int .i64 s.2], .agg #[.int .i64 t.1, .int .i64 t.2]]) ∧ Below w.heap.size w w'
set_option maxRecDepth 100000 in
set_option maxHeartbeats 2000000 in
theorem drawWB_any {a : Option Addr} {len cap : Nat} {w : World} (hs : Hid (Src w a len)) :
    Calls Try.prog 20 #[.slice a len cap] w (DWPost w) := by
  obtain ⟨A1, hA1⟩ : ∃ A, A = w.alloc (.cells #[.int .i64 0, .int .i64 0] 35) := ⟨_, rfl⟩
  obtain ⟨A2, hA2⟩ : ∃ A, A = A1.alloc (.cells #[.int .i64 0, .int .i64 0] 35) := ⟨_, rfl⟩
  have b1 : Below w.heap.size w A1 := hA1 ▸ below_alloc w _
  have b2 : Below A1.heap.size A1 A2 := hA2 ▸ below_alloc A1 _
  have z1 : A1.heap.size = w.heap.size + 1 := by rw [hA1]; simp
  have z2 : A2.heap.size = w.heap.size + 2 := by rw [hA2]; simp [z1]
  have x1 : Bx A2 w.heap.size 0 0 := (show Bx A1 w.heap.size 0 0 from hA1 ▸ Bx.new w 0 0 _).below b2
  have x2 : Bx A2 (w.heap.size + 1) 0 0 := by have := Bx.new A1 0 0 35; rw [← hA2, z1] at this; exact this
  have HB := hide (b1.trans (b2.mono b1.size))
  have HC := hide (cur_new (cap := cap) ((hs.out.below b1).below b2))
  have HX1 := hide x1
  have HX2 := hide x2
  have HA : Hid ((w.alloc (.cells #[.int .i64 0, .int .i64 0] 35)).alloc (.cells #[.int .i64 0, .int .i64 0] 35) = A2) := hide (by rw [hA2, hA1])
  have HZ := hide z2
  clear b1 b2 x1 x2 hA1 hA2 z1 z2
  go_enter Try.func20, Try.ntmps20
  go_upto_region 1 with fail
  rw [HA.out]
  clear HA
  go_wp2_with fail
  refine (spot_any HC.out (by omega)).mono ?_
  rintro e w1 ⟨s1, s2, rfl, hc1, hk1⟩
  have hcz : A2.heap.size = w.heap.size + 2 := HZ.out
  have HX3 := hide (((HX1.out.below (below_alloc A2 (.cells #[.slice a len cap, .int .i64 0, .int .u64 0] 48))).kp hk1 (by omega)))
  have HX4 := hide (((HX2.out.below (below_alloc A2 (.cells #[.slice a len cap, .int .i64 0, .int .u64 0] 48))).kp hk1 (by omega)))
  have HK1 := hide hk1
  have HC1 := hide hc1
  clear hc1 hk1 HX1 HX2 hcz
  go_wp2_with fail
  refine (spot_any HC1.out (by omega)).mono ?_
  rintro e w2 ⟨t1, t2, rfl, hc2, hk2⟩
  have hx1 := HX3.out.kp hk2 (by have := HZ.out; omega)
  have hx2 := HX4.out.kp hk2 (by have := HZ.out; omega)
  have HK2 := hide (HK1.out.trans hk2)
  have HB2 := hide (HB.out.trans ((cur_below11 HK2.out).mono HB.out.size))
  obtain ⟨c0, c1, f0, f1⟩ := hx1
  obtain ⟨c2, c3, f2, f3⟩ := hx2
  clear hc2 hk2 HX3 HX4 HC1 HK1 HK2
  have B3 := hide ((((HB2.out.setCell (p := ⟨w.heap.size, 0, none⟩) (Nat.le_refl _) (.int .i64 s1)).setCell (p := ⟨w.heap.size, 1, none⟩) (Nat.le_refl _) (.int .i64 s2)).setCell (p := ⟨w.heap.size + 1, 0, none⟩) (Nat.le_succ _) (.int .i64 t1)).setCell (p := ⟨w.heap.size + 1, 1, none⟩) (Nat.le_succ _) (.int .i64 t2))
  have l1 := World.block_lt_of_cell? w2 _ c0
  have l2 := World.block_lt_of_cell? w2 _ c2
  simp only at l1 l2
  go_wp2_with fail
  exact bodyPost_ret (v := .tuple #[.agg #[.int .i64 s1, .int .i64 s2], .agg #[.int .i64 t1, .int .i64 t2]]) (by simp [results, Try.results20, go_sem, *]) rfl ⟨(s1, s2), (t1, t2), rfl, B3.out⟩
def DOWPost (w : World) (e : Ending) (w' : World) : Prop :=
  ∃ s t u : Int × Int, e = .returned (.tuple #[.agg #[.int .i64 s.1, .int .i64 s.2], .agg #[.int .i64 t.1, .int .i64 t.2], .agg #[.int .i64 u.1, .int .i64 u.2]]) ∧ Below w.heap.size w w'
set_option maxRecDepth 100000 in
set_option maxHeartbeats 4000000 in
theorem drawOW_any {a : Option Addr} {len cap : Nat} {w : World} (hs : Hid (Src w a len)) :
    Calls Try.prog 16 #[.slice a len cap] w (DOWPost w) := by
  obtain ⟨A1, hA1⟩ : ∃ A, A = w.alloc (.cells #[.int .i64 0, .int .i64 0] 35) := ⟨_, rfl⟩
  obtain ⟨A2, hA2⟩ : ∃ A, A = A1.alloc (.cells #[.int .i64 0, .int .i64 0] 35) := ⟨_, rfl⟩
  obtain ⟨A3, hA3⟩ : ∃ A, A = A2.alloc (.cells #[.int .i64 0, .int .i64 0] 35) := ⟨_, rfl⟩
  have b1 : Below w.heap.size w A1 := hA1 ▸ below_alloc w _
  have b2 : Below A1.heap.size A1 A2 := hA2 ▸ below_alloc A1 _
  have b3 : Below A2.heap.size A2 A3 := hA3 ▸ below_alloc A2 _
  have z1 : A1.heap.size = w.heap.size + 1 := by rw [hA1]; simp
  have z2 : A2.heap.size = w.heap.size + 2 := by rw [hA2]; simp [z1]
  have z3 : A3.heap.size = w.heap.size + 3 := by rw [hA3]; simp [z2]
  have x1 : Bx A3 w.heap.size 0 0 := ((show Bx A1 w.heap.size 0 0 from hA1 ▸ Bx.new w 0 0 _).below b2).below b3
  have x2 : Bx A3 (w.heap.size + 1) 0 0 := by have := Bx.new A1 0 0 35; rw [← hA2, z1] at this; exact this.below b3
  have x3 : Bx A3 (w.heap.size + 2) 0 0 := by have := Bx.new A2 0 0 35; rw [← hA3, z2] at this; exact this
  have HB := hide ((b1.trans (b2.mono b1.size)).trans (b3.mono (by omega)))
  have HC := hide (cur_new (cap := cap) (((hs.out.below b1).below b2).below b3))
  have HX1 := hide x1
  have HX2 := hide x2
  have HX3 := hide x3
  have HA : Hid (((w.alloc (.cells #[.int .i64 0, .int .i64 0] 35)).alloc (.cells #[.int .i64 0, .int .i64 0] 35)).alloc (.cells #[.int .i64 0, .int .i64 0] 35) = A3) := hide (by rw [hA3, hA2, hA1])
  have HZ := hide z3
  clear b1 b2 b3 x1 x2 x3 hA1 hA2 hA3 z1 z2 z3
  go_enter Try.func16, Try.ntmps16
  go_upto_region 1 with fail
  rw [HA.out]
  clear HA
  go_wp2_with fail
  refine (spot_any HC.out (by omega)).mono ?_
  rintro e w1 ⟨s1, s2, rfl, hc1, hk1⟩
  have hcz : A3.heap.size = w.heap.size + 3 := HZ.out
  have HY1 := hide (((HX1.out.below (below_alloc A3 (.cells #[.slice a len cap, .int .i64 0, .int .u64 0] 48))).kp hk1 (by omega)))
  have HY2 := hide (((HX2.out.below (below_alloc A3 (.cells #[.slice a len cap, .int .i64 0, .int .u64 0] 48))).kp hk1 (by omega)))
  have HY3 := hide (((HX3.out.below (below_alloc A3 (.cells #[.slice a len cap, .int .i64 0, .int .u64 0] 48))).kp hk1 (by omega)))
  have HK1 := hide hk1
  have HC1 := hide hc1
  clear hc1 hk1 HX1 HX2 HX3 hcz
  go_wp2_with fail
  refine (spot_any HC1.out (by omega)).mono ?_
  rintro e w2 ⟨t1, t2, rfl, hc2, hk2⟩
  have HZ1 := hide (HY1.out.kp hk2 (by have := HZ.out; omega))
  have HZ2 := hide (HY2.out.kp hk2 (by have := HZ.out; omega))
  have HZ3 := hide (HY3.out.kp hk2 (by have := HZ.out; omega))
  have HK2 := hide (HK1.out.trans hk2)
  have HC2 := hide hc2
  clear hc2 hk2 HY1 HY2 HY3 HC1 HK1
  go_wp2_with fail
  refine (spot_any HC2.out (by omega)).mono ?_
  rintro e w3 ⟨u1, u2, rfl, hc3, hk3⟩
  have hx1 := HZ1.out.kp hk3 (by have := HZ.out; omega)
  have hx2 := HZ2.out.kp hk3 (by have := HZ.out; omega)
  have hx3 := HZ3.out.kp hk3 (by have := HZ.out; omega)
  have HK3 := hide (HK2.out.trans hk3)
  have HB2 := hide (HB.out.trans ((cur_below11 HK3.out).mono HB.out.size))
  obtain ⟨c0, c1, f0, f1⟩ := hx1
  obtain ⟨c2, c3, f2, f3⟩ := hx2
  obtain ⟨c4, c5, f4, f5⟩ := hx3
  clear hc3 hk3 HZ1 HZ2 HZ3 HC2 HK2 HK3
  have B3 := hide ((((((HB2.out.setCell (p := ⟨w.heap.size, 0, none⟩) (Nat.le_refl _) (.int .i64 s1)).setCell (p := ⟨w.heap.size, 1, none⟩) (Nat.le_refl _) (.int .i64 s2)).setCell (p := ⟨w.heap.size + 1, 0, none⟩) (Nat.le_succ _) (.int .i64 t1)).setCell (p := ⟨w.heap.size + 1, 1, none⟩) (Nat.le_succ _) (.int .i64 t2)).setCell (p := ⟨w.heap.size + 2, 0, none⟩) (Nat.le_add_right _ 2) (.int .i64 u1)).setCell (p := ⟨w.heap.size + 2, 1, none⟩) (Nat.le_add_right _ 2) (.int .i64 u2))
  have l1 := World.block_lt_of_cell? w3 _ c0
  have l2 := World.block_lt_of_cell? w3 _ c2
  have l3 := World.block_lt_of_cell? w3 _ c4
  simp only at l1 l2 l3
  go_wp2_with fail
  exact bodyPost_ret (v := .tuple #[.agg #[.int .i64 s1, .int .i64 s2], .agg #[.int .i64 t1, .int .i64 t2], .agg #[.int .i64 u1, .int .i64 u2]]) (by simp [results, Try.results16, go_sem, *]) rfl ⟨(s1, s2), (t1, t2), (u1, u2), rfl, B3.out⟩
end Go.Proofs.Ytphfcephinnkoaa
