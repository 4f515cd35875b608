/-
  What takePick of the program does to a sheet that is made.
-/
import Derived.Test.YtogkbidphdpjaaaVd15
namespace Go.Proofs.Ytogkbidphdpjaaa
open Go.RowKit

set_option maxHeartbeats 2000000 in
theorem tp_none {J : Nat} {v v' : Value} {gs : List Gd} {ls : List (Int × Int)} {x : ByteArray} {z : Int} {w : World} (h : Hid (JS w J v v' gs ls)) (hn : gs.length ≤ 12) (hh : Hid (hasB gs x = false)) :
    Calls Try.prog 61 #[.pointer (some ⟨J, 0, none⟩), .string x, .int .i64 z] w fun e w' => e = .returned (.int .i64 5) ∧ Below w.heap.size w w' := by
  obtain ⟨a, c, rfl, _, row⟩ := own_gd rfl h.out.o1
  have HR := hide row
  have c0 := h.out.c0
  clear row
  generalize hgl : gs.length = n at *
  have HN := hide hgl
  clear hgl h
  go_enter Try.func61, Try.ntmps61
  go_wp2_with ((go_at_call 34; refine (hasName_h15 hh HN (by omega) HR).mono ?_; rintro e w1 ⟨rfl, hb1⟩))
  go_ret
  exact ⟨rfl, hb1⟩
set_option maxHeartbeats 2000000 in
theorem tp_many {J : Nat} {v v' : Value} {gs : List Gd} {ls : List (Int × Int)} {x : ByteArray} {z : Int} {w : World} (h : Hid (JS w J v v' gs ls)) (hn : gs.length ≤ 12) (hl : ls.length = 80) (hh : Hid (hasB gs x = true)) :
    Calls Try.prog 61 #[.pointer (some ⟨J, 0, none⟩), .string x, .int .i64 z] w fun e w' => e = .returned (.int .i64 6) ∧ Below w.heap.size w w' := by
  obtain ⟨a, c, rfl, _, row⟩ := own_gd rfl h.out.o1
  obtain ⟨a2, c2, rfl, _, _⟩ := own_ln rfl h.out.o2
  have HR := hide row
  have HH := h
  have c0 := h.out.c0
  rw [hl] at HH
  clear row hl
  generalize hgl : gs.length = n at *
  have HN := hide hgl
  clear hgl h
  go_enter Try.func61, Try.ntmps61
  go_wp2_with ((go_at_call 34; refine (hasName_h15 hh HN (by omega) HR).mono ?_; rintro e w1 ⟨rfl, hb1⟩; have k1 := (HH.out.below hb1).c1))
  go_ret
  exact ⟨rfl, hb1⟩
/-- A line more was taken. -/
def TPY (w w' : World) (J : Nat) (v v' : Value) (gs : List Gd) (ls : List (Int × Int)) : Prop := ∃ v2, JS w' J v v2 gs ls ∧ GJ w w' J v' ∧ ∀ g, v2.ownBlock = some g → v'.ownBlock = some g ∨ w.heap.size ≤ g
set_option maxRecDepth 100000 in
set_option maxHeartbeats 8000000 in
theorem tp_yes {J : Nat} {v v' : Value} {gs : List Gd} {ls : List (Int × Int)} {x : ByteArray} {z : Int} {w : World} (h : Hid (JS w J v v' gs ls)) (hn : gs.length ≤ 12) (hl : ls.length < 80) (hh : Hid (hasB gs x = true)) :
    Calls Try.prog 61 #[.pointer (some ⟨J, 0, none⟩), .string x, .int .i64 z] w fun e w' => e = .returned (.int .i64 0) ∧ TPY w w' J v v' gs (ls ++ [(fndI gs x, z)]) := by
  obtain ⟨a, c, hv, _, row⟩ := own_gd rfl h.out.o1
  obtain ⟨a2, c2, hv2, _, _⟩ := own_ln rfl h.out.o2
  have HR := hide row
  have HFI : Hid (fndI gs x = fndI gs x) := hide rfl
  have c0 := h.out.c0
  rw [hv] at c0
  have HV := hide hv
  have HV2 := hide hv2
  generalize hF : fndI gs x = F at HFI ⊢
  replace HFI := hide hF
  clear row hv hv2 hF
  generalize hgl : gs.length = n at *
  have HN := hide hgl
  clear hgl
  generalize hll : ls.length = m at *
  have HM := hide hll
  clear hll
  have hm80 : ((m : Int) == 80) = false := by simp; omega
  go_enter Try.func61, Try.ntmps61
  go_upto_region 3 with ((go_at_call 34; refine (hasName_h15 hh HN (by omega) HR).mono ?_; rintro e w1 ⟨rfl, hb1⟩))
  have HJ1 := hide (h.out.below hb1)
  have HB1 := hide hb1
  have HR1 := hide (HR.out.below hb1)
  have k1 := HJ1.out.c1
  rw [HV2.out] at k1
  clear hb1 c0
  go_upto_region 5 with fail
  clear k1
  have hbd : Below w1.heap.size w1 w1.drew := (Below.refl _ _).drew
  have HJ3 := hide (HJ1.out.below hbd)
  have HB3 := hide (HB1.out.trans (hbd.mono HB1.out.size))
  have HR3 := hide (HR1.out.below hbd)
  clear hbd
  have HMORE := hide fun (w4 : World) (hb4 : Below w1.drew.heap.size w1.drew w4) => push_ln (x := F) (z := z) HJ3.out hb4 (by rw [HM.out]; omega)
  rw [HM.out] at HMORE
  have hJ0 : w1.cell? ⟨J, 0, none⟩ = some (.slice a n c) := by rw [← HV.out]; exact HJ3.out.c0
  have hJ1 : w1.cell? ⟨J, 1, none⟩ = some (.slice a2 m c2) := by rw [← HV2.out]; exact HJ3.out.c1
  have HCL := hide fun (w4 : World) (hb4 : Below w1.drew.heap.size w1.drew w4) => (⟨(HJ3.out.below hb4).c1, fun o => ((HJ3.out.below hb4).below (below_new w4 o)).c1⟩ : w4.cell? ⟨J, 1, none⟩ = some v' ∧ ∀ o : Obj, (w4.alloc o).cell? ⟨J, 1, none⟩ = some v')
  rw [HV2.out] at HMORE HCL
  have HFIN := hide fun (w' : World) (gg cap : Nat) (h1 : JS w' J v (.slice (some ⟨gg, 0, none⟩) (m + 1) cap) gs (ls ++ [(F, z)])) (h2 : GJ w1.drew w' J (.slice a2 m c2)) (h3 : (Value.slice a2 m c2).ownBlock = some gg ∨ w1.drew.heap.size ≤ gg) => show TPY w w' J v v' gs (ls ++ [(F, z)]) from
    ⟨_, h1, by
      have hB := HB3.out
      rw [HV2.out]
      exact ⟨h2.os.trans hB.os, h2.tape.trans hB.tape, h2.output.trans hB.output, Nat.le_trans hB.size h2.size, fun b hb n1 n2 => (h2.block b (Nat.lt_of_lt_of_le hb hB.size) n1 n2).trans (hB.block b hb)⟩, fun g hg => by
      cases hg
      rw [HV2.out]
      rcases h3 with h3 | h3
      · exact Or.inl h3
      · exact Or.inr (Nat.le_trans HB3.out.size h3)⟩
  have hn' : n ≤ 1048576 := by omega
  clear h HJ3 HB3 HB1 hm80 hh HJ1 HR HR1 hn hl
  go_region_law ((first
    | (refine step15 (by rfl) (.tmp 24) (.tmp 33) 29 29 (by rfl) (.slice a2 m c2) (.slice (some ⟨w4.heap.size, 0, none⟩) 1 1) (by simp [go_sem]) (by simp [go_sem]) (.slice (some ⟨gg, 0, none⟩) (m + 1) cap) w6 (hr6 _) ?_)
    | (go_simp; refine (number_h15 HFI HN hn' HR3).mono ?_; rintro e w4 ⟨rfl, hb4⟩; obtain ⟨gg, cap, w6, hr6, c6, f6, g1, g2, g3⟩ := HMORE.out w4 hb4; obtain ⟨d0, d3⟩ := HCL.out w4 hb4; have HF := hide (HFIN.out _ _ _ g1 g2 g3); clear hb4 g1 g2 g3)))
  all_goals
    go_wp2_with fail
    go_ret
    exact ⟨rfl, HF.out⟩
end Go.Proofs.Ytogkbidphdpjaaa
