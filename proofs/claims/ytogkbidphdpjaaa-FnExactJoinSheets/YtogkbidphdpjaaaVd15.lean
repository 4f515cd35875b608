/-
  What takeGood of the program does to a sheet that is made.
-/
import Derived.Test.YtogkbidphdpjaaaVc15
import Derived.Deep.DeepCutAuto
namespace Go.Proofs.Ytogkbidphdpjaaa
open Go.RowKit

theorem s2_below {w w' : World} {J V : Nat} {a b : Value} (h : w.cell? ⟨J, 0, none⟩ = some a ∧ w.cell? ⟨V, 0, none⟩ = some b) (hb : Below w.heap.size w w') : w'.cell? ⟨J, 0, none⟩ = some a ∧ w'.cell? ⟨V, 0, none⟩ = some b :=
  ⟨(hb.cell (p := ⟨J, 0, none⟩) (World.block_lt_of_cell? w _ h.1)).trans h.1, (hb.cell (p := ⟨V, 0, none⟩) (World.block_lt_of_cell? w _ h.2)).trans h.2⟩
set_option maxHeartbeats 2000000 in
theorem tg_has {J : Nat} {v v' : Value} {gs : List Gd} {ls : List (Int × Int)} {x : ByteArray} {z : Int} {w : World} (h : Hid (JS w J v v' gs ls)) (hn : gs.length ≤ 12) (hh : Hid (hasB gs x = true)) :
    Calls Try.prog 60 #[.pointer (some ⟨J, 0, none⟩), .agg #[.string x, .int .i64 z]] w fun e w' => e = .returned (.int .i64 4) ∧ Below w.heap.size w w' := by
  obtain ⟨a, c, rfl, _, row⟩ := own_gd rfl h.out.o1
  have b1 := below_new w (.cells #[.string x, .int .i64 z] 68)
  have HB1 := hide b1
  have HR := hide (row.below b1)
  have c0 := (h.out.below b1).c0
  have PV := hide (PBox.new w (.string x) (.int .i64 z) 68)
  clear row b1
  generalize hgl : gs.length = n at *
  have HN := hide hgl
  clear hgl h
  go_enter Try.func60, Try.ntmps60
  go_upto_region 1 with fail
  generalize w.alloc (.cells #[.string x, .int .i64 z] 68) = W at *
  have hSd : W.drew.cell? ⟨J, 0, none⟩ = some (.slice a n c) ∧ W.drew.cell? ⟨w.heap.size, 0, none⟩ = some (.string x) := ⟨c0, PV.out.1⟩
  have HRd := hide (HR.out.below (Below.refl _ _).drew)
  have HBd := hide HB1.out.drew
  clear c0
  go_region_held3 (fun w' => w'.cell? ⟨J, 0, none⟩ = some (.slice a n c) ∧ w'.cell? ⟨w.heap.size, 0, none⟩ = some (.string x))
    (first | exact hSd | assumption | fail)
    (first
    | (go_at_call 34; refine (hasName_h15 hh HN (by omega) HRd).mono ?_; rintro e w1 ⟨rfl, hb1⟩; have HB2 := hide (HBd.out.trans (hb1.mono HBd.out.size)); have hS1 := s2_below hSd hb1; clear hb1)
    | fail)
  go_wp2_with fail
  go_ret
  exact ⟨rfl, HB2.out⟩
set_option maxHeartbeats 2000000 in
theorem tg_many {J : Nat} {v v' : Value} {gs : List Gd} {ls : List (Int × Int)} {x : ByteArray} {z : Int} {w : World} (h : Hid (JS w J v v' gs ls)) (hn : gs.length = 12) (hh : Hid (hasB gs x = false)) :
    Calls Try.prog 60 #[.pointer (some ⟨J, 0, none⟩), .agg #[.string x, .int .i64 z]] w fun e w' => e = .returned (.int .i64 6) ∧ Below w.heap.size w w' := by
  obtain ⟨a, c, rfl, _, row⟩ := own_gd rfl h.out.o1
  have b1 := below_new w (.cells #[.string x, .int .i64 z] 68)
  have HB1 := hide b1
  have HR := hide (row.below b1)
  have c0 := (h.out.below b1).c0
  have PV := hide (PBox.new w (.string x) (.int .i64 z) 68)
  clear row b1
  have HN : Hid (gs.length = 12) := hide hn
  rw [hn] at c0
  clear hn h
  go_enter Try.func60, Try.ntmps60
  go_upto_region 1 with fail
  generalize w.alloc (.cells #[.string x, .int .i64 z] 68) = W at *
  have hSd : W.drew.cell? ⟨J, 0, none⟩ = some (.slice a 12 c) ∧ W.drew.cell? ⟨w.heap.size, 0, none⟩ = some (.string x) := ⟨c0, PV.out.1⟩
  have HRd := hide (HR.out.below (Below.refl _ _).drew)
  have HBd := hide HB1.out.drew
  clear c0
  go_region_held3 (fun w' => w'.cell? ⟨J, 0, none⟩ = some (.slice a 12 c) ∧ w'.cell? ⟨w.heap.size, 0, none⟩ = some (.string x))
    (first | exact hSd | assumption | fail)
    (first
    | (go_at_call 34; refine (hasName_h15 hh HN (by omega) HRd).mono ?_; rintro e w1 ⟨rfl, hb1⟩; have HB2 := hide (HBd.out.trans (hb1.mono HBd.out.size)); have hS1 := s2_below hSd hb1; clear hb1)
    | fail)
  have k0 := hS1.1
  go_wp2_with fail
  go_ret
  exact ⟨rfl, HB2.out⟩
/-- A good more was taken. -/
def TGY (w w' : World) (J : Nat) (v v' : Value) (gs : List Gd) (ls : List (Int × Int)) : Prop := ∃ v2, JS w' J v2 v' gs ls ∧ GJ w w' J v ∧ ∀ g, v2.ownBlock = some g → v.ownBlock = some g ∨ w.heap.size ≤ g
set_option maxRecDepth 100000 in
set_option maxHeartbeats 8000000 in
theorem tg_yes {J : Nat} {v v' : Value} {gs : List Gd} {ls : List (Int × Int)} {x : ByteArray} {z : Int} {w : World} (h : Hid (JS w J v v' gs ls)) (hn : gs.length < 12) (hx : x.size ≤ 1048576) (hh : Hid (hasB gs x = false)) :
    Calls Try.prog 60 #[.pointer (some ⟨J, 0, none⟩), .agg #[.string x, .int .i64 z]] w fun e w' => e = .returned (.int .i64 0) ∧ TGY w w' J v v' (gs ++ [(x, z)]) ls := by
  obtain ⟨i0, hi, hz0, hz1, hz2⟩ := infoG15
  obtain ⟨a, c, hv, _, row⟩ := own_gd rfl h.out.o1
  have b1 := below_new w (.cells #[.string x, .int .i64 z] 68)
  have HB1 := hide b1
  have HR := hide (row.below b1)
  have HJ1 := hide (h.out.below b1)
  have c0 := HJ1.out.c0
  have PV := hide (PBox.new w (.string x) (.int .i64 z) 68)
  have HSZ := hide (World.size_alloc w (.cells #[.string x, .int .i64 z] 68))
  have HJw := hide h.out.lt
  rw [hv] at c0
  have HV := hide hv
  clear row b1 hv
  generalize hgl : gs.length = n at *
  have HN := hide hgl
  clear hgl
  have hn12 : ((n : Int) == 12) = false := by simp; omega
  go_enter Try.func60, Try.ntmps60
  go_upto_region 1 with fail
  generalize w.alloc (.cells #[.string x, .int .i64 z] 68) = W at *
  have hSd : W.drew.cell? ⟨J, 0, none⟩ = some (.slice a n c) ∧ W.drew.cell? ⟨w.heap.size, 0, none⟩ = some (.string x) := ⟨c0, PV.out.1⟩
  have HRd := hide (HR.out.below (Below.refl _ _).drew)
  have hbd : Below W.heap.size W W.drew := (Below.refl _ _).drew
  have HJd := hide (HJ1.out.below hbd)
  have PVd := hide (PV.out.below hbd)
  have HBd := hide (HB1.out.trans (hbd.mono HB1.out.size))
  clear c0 hbd HR HJ1 PV
  go_region_held3 (fun w' => w'.cell? ⟨J, 0, none⟩ = some (.slice a n c) ∧ w'.cell? ⟨w.heap.size, 0, none⟩ = some (.string x))
    (first | exact hSd | assumption | fail)
    (first
    | (go_at_call 34; refine (hasName_h15 hh HN (by omega) HRd).mono ?_; rintro e w1 ⟨rfl, hb1⟩; have HB2 := hide (HBd.out.trans (hb1.mono HBd.out.size)); have HJ2 := hide (HJd.out.below hb1); have PV2 := hide (PVd.out.below hb1); have hS1 := s2_below hSd hb1; clear hb1)
    | fail)
  have k0 := hS1.1
  clear hSd
  go_upto_region 5 with fail
  clear k0 hS1
  have hbd : Below w1.heap.size w1 w1.drew := (Below.refl _ _).drew
  have HJ3 := hide (HJ2.out.below hbd)
  have PV3 := hide (PV2.out.below hbd)
  have HB3 := hide (HB2.out.trans (hbd.mono HB2.out.size))
  clear hbd HJ2 PV2 HB2 HJd PVd HBd HRd
  have HMORE := hide fun (w4 : World) (hb4 : Below w1.drew.heap.size w1.drew w4) => push_gd (x := x) (z := z) HJ3.out hb4 (by rw [HN.out]; omega)
  rw [HN.out] at HMORE
  have hJ0 : w1.cell? ⟨J, 0, none⟩ = some (.slice a n c) := by rw [← HV.out]; exact HJ3.out.c0
  have hV0 : w1.cell? ⟨w.heap.size, 0, none⟩ = some (.string x) := PV3.out.1
  have hV1 : w1.cell? ⟨w.heap.size, 1, none⟩ = some (.int .i64 z) := PV3.out.2.1
  have hJV : J ≠ w.heap.size := Nat.ne_of_lt HJw.out
  have HCL := hide fun (w4 : World) (hb4 : Below w1.drew.heap.size w1.drew w4) => (⟨(HJ3.out.below hb4).c0, (PV3.out.below hb4).1, (PV3.out.below hb4).2.1, fun o => ((HJ3.out.below hb4).below (below_new w4 o)).c0⟩ : w4.cell? ⟨J, 0, none⟩ = some v ∧ w4.cell? ⟨w.heap.size, 0, none⟩ = some (.string x) ∧ w4.cell? ⟨w.heap.size, 1, none⟩ = some (.int .i64 z) ∧ ∀ o : Obj, (w4.alloc o).cell? ⟨J, 0, none⟩ = some v)
  rw [HV.out] at HMORE HCL
  have HFIN := hide fun (w' : World) (gg cap : Nat) (h1 : JS w' J (.slice (some ⟨gg, 0, none⟩) (n + 1) cap) v' (gs ++ [(x, z)]) ls) (h2 : GJ w1.drew w' J (.slice a n c)) (h3 : (Value.slice a n c).ownBlock = some gg ∨ w1.drew.heap.size ≤ gg) => show TGY w w' J v v' (gs ++ [(x, z)]) ls from
    ⟨_, h1, by
      have hB := HB3.out
      rw [HV.out]
      exact ⟨h2.os.trans hB.os, h2.tape.trans hB.tape, h2.output.trans hB.output, Nat.le_trans hB.size h2.size, fun b hb n1 n2 => (h2.block b (Nat.lt_of_lt_of_le hb hB.size) n1 n2).trans (hB.block b hb)⟩, fun g hg => by
      cases hg
      rw [HV.out]
      rcases h3 with h3 | h3
      · exact Or.inl h3
      · exact Or.inr (Nat.le_trans HB3.out.size h3)⟩
  clear h HJ3 PV3 HB3 HB1 hn12 hh HSZ
  go_region_law ((first
    | (refine step15 (by rfl) (.tmp 22) (.tmp 29) 28 28 (by rfl) (.slice a n c) (.slice (some ⟨w4.heap.size, 0, none⟩) 1 1) (by simp [go_sem]) (by simp [go_sem]) (.slice (some ⟨gg, 0, none⟩) (n + 1) cap) w6 (hr6 _) ?_)
    | (go_simp; refine (clone15 hx).mono ?_; rintro e w4 ⟨rfl, hb4⟩; obtain ⟨gg, cap, w6, hr6, c6, f6, g1, g2, g3⟩ := HMORE.out w4 hb4; obtain ⟨d0, d1, d2, d3⟩ := HCL.out w4 hb4; have HF := hide (HFIN.out _ _ _ g1 g2 g3); clear hb4 g1 g2 g3)))
  all_goals
    go_wp2_with fail
    go_ret
    exact ⟨rfl, HF.out⟩
end Go.Proofs.Ytogkbidphdpjaaa
