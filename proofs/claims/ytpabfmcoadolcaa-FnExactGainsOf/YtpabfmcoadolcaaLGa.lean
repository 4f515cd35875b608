/-
  At any four numbers GainsOf answers as the model does, in memory of its own: the law's own walk.
-/
import Derived.Test.YtpabfmcoadolcaaCq
import Derived.Test.YtpabfmcoadolcaaPn
namespace Go.Proofs.Ytpabfmcoadolcaa
open Go.RowKit

def gaL (p f s c : Int) : List Int := if Of.gainsB p f s c then Of.gainsL p f s c else []
theorem gaL_no {p f s c : Int} (h : Of.gainsB p f s c = false) : gaL p f s c = [] := by simp [gaL, h]
theorem gaL_yes {p f s c : Int} (h : Of.gainsB p f s c = true) : gaL p f s c = Of.gainsL p f s c := by simp [gaL, h]
theorem gaL_len (p f s c : Int) : (gaL p f s c).length ≤ 6 := by
  cases h : Of.gainsB p f s c
  · rw [gaL_no h]; simp
  · rw [gaL_yes h, Of.gainsL_len]; omega
theorem ga_w {p f s c : Int} {w : World} :
    Calls Try.prog 15 #[.int .i64 p, .int .i64 f, .int .i64 s, .int .i64 c] w fun e w' => ∃ v, e = .returned (.tuple #[.agg #[v], .bool (Of.gainsB p f s c)]) ∧ w'.ownsRow w.heap.size 3 1 v (gaL p f s c).length (ints (gaL p f s c)) ∧ Below w.heap.size w w' := by
  cases h : Of.gainsB p f s c
  · refine (ga_no h).mono ?_
    rintro e w' ⟨rfl, hb⟩
    exact ⟨_, rfl, by rw [gaL_no h]; exact World.ownsRow_nil _ _ _ _, hb⟩
  · refine (ga_yes h).mono ?_
    rintro e w' ⟨g, rfl, own, hb⟩
    exact ⟨_, rfl, by rw [gaL_yes h, Of.gainsL_len]; exact own, hb⟩
theorem sga_w {p f s c : Int} {w : World} :
    Calls Try.prog 14 #[.int .i64 p, .int .i64 f, .int .i64 s, .int .i64 c] w fun e w' => ∃ a0 c0, e = .returned (.tuple #[.agg #[.slice a0 (gaL p f s c).length c0], .bool (Of.gainsB p f s c)]) ∧ ARow w' a0 (gaL p f s c) ∧ Below w.heap.size w w' := by
  cases h : Of.gainsB p f s c
  · refine (sga_no h).mono ?_
    rintro e w' ⟨rfl, hb⟩
    exact ⟨none, 0, by rw [gaL_no h]; rfl, by rw [gaL_no h]; exact Or.inl rfl, hb⟩
  · refine (sga_yes h).mono ?_
    rintro e w' ⟨a, cap, rfl, r, hb⟩
    exact ⟨a, cap, by rw [gaL_yes h, Of.gainsL_len], by rw [gaL_yes h]; exact r, hb⟩
set_option maxHeartbeats 1000000 in
theorem mkO_any {v : Value} {base n k' : Nat} {xs : List Int} {w : World} (hx : xs.length = n) (hn : n ≤ 1048576) (h : w.ownsRow base 3 1 v n (ints xs)) (hk : k' ≤ base) (hs : k' ≤ w.heap.size) :
    Calls Try.prog 17 #[.agg #[v], .int .i64 1] w fun e w' => e = .returned (.int .i64 (1 + n)) ∧ HeldV w' v n 1 ∧ Below k' w w' ∧ ∀ b, b < w.heap.size → some b ≠ v.ownBlock → w'.heap[b]? = w.heap[b]? := by
  have HM := hide fun (x : Obj) => markV_any (k := 1) hx hn (by omega) (by omega) (o_own h (o_below_new w x))
  have HG := hide fun (x : Obj) (w' : World) (hg : (w.alloc x).grownBy w' v.ownBlock) => ((o_below_new w x).mono hs).trans (grown_under hg (o_own h (o_below_new w x)) hk (by simp; omega))
  clear h
  go_enter Try.func17, Try.ntmps17
  go_wp2_with fail
  refine (HM.out _).mono ?_
  rintro e w1 ⟨rfl, H1, hg⟩
  have H2 := hide H1
  have H3 := hide (HG.out _ _ hg)
  have H4 : Hid (∀ b, b < w.heap.size → some b ≠ v.ownBlock → w1.heap[b]? = w.heap[b]?) := hide fun b hb hne => (hg.block b (by simp; omega) hne).trans ((o_below_new w _).block b hb)
  clear H1 hg
  go_wp2_with fail
  go_ret
  exact ⟨rfl, H2.out, H3.out, H4.out⟩
set_option maxHeartbeats 1000000 in
theorem hdO_any {v : Value} {n : Nat} {w : World} (hn : n ≤ 1048576) (h : HeldV w v n 1) :
    Calls Try.prog 18 #[.agg #[v], .int .i64 1] w fun e w' => e = .returned (.int .i64 (1 + n)) ∧ Below w.heap.size w w' := by
  have HM := hide fun (x : Obj) => heldV_any (k := 1) hn (by omega) (by omega) (h.below (o_below_new w x))
  have h1 : ¬ (1 : Int) + (n : Int) < 0 := by omega
  clear h
  go_enter Try.func18, Try.ntmps18
  go_wp2_with fail
  refine (HM.out _).mono ?_
  rintro e w1 ⟨rfl, hw⟩
  subst hw
  go_wp2_with fail
  go_ret
  exact ⟨rfl, o_below_new _ _⟩
set_option maxHeartbeats 8000000 in
theorem lGa_walk {p f s c : Int} {w : World} :
    Calls Try.prog 4 #[.int .i64 p, .int .i64 f, .int .i64 s, .int .i64 c] w fun e w' => e = .returned (.bool true) ∧ Below w.heap.size w w' := by
  have HG := hide fun (W : World) => ga_w (p := p) (f := f) (s := s) (c := c) (w := W)
  have HS := hide fun (W : World) => sga_w (p := p) (f := f) (s := s) (c := c) (w := W)
  have hN := gaL_len p f s c
  generalize gaL p f s c = xs at HG HS hN
  generalize hx : xs.length = N at HG HS hN
  have HX := hide hx
  generalize Of.gainsB p f s c = G at HG HS
  have hne : (G != G) = false := by simp
  have m1 : ¬ (1 : Int) + (N : Int) < 0 := by omega
  have m2 : ((1 : Int) + (N : Int) != (1 : Int) + (N : Int)) = false := by simp
  clear hx
  go_enter Try.func4, Try.ntmps4
  go_wp2_with fail
  refine (HS.out _).mono ?_
  rintro e w1 ⟨a0, c0, rfl, r0, hb1⟩
  have R0 := hide (r0.alloc (.cells #[.slice a0 N c0] 31))
  have HB1 := hide (hb1.trans ((o_below_new w1 (.cells #[.slice a0 N c0] 31)).mono hb1.size))
  have k1 : (w1.alloc (.cells #[.slice a0 N c0] 31)).cell? ⟨w1.heap.size, 0, none⟩ = some (.slice a0 N c0) := by simp [go_sem]
  have z1 : w1.heap.size < (w1.alloc (.cells #[.slice a0 N c0] 31)).heap.size := by simp
  have z1' : w.heap.size ≤ w1.heap.size := hb1.size
  clear r0 hb1
  go_wp2_with fail
  generalize w1.alloc (.cells #[.slice a0 N c0] 31) = W1 at *
  generalize w1.heap.size = B1 at *
  refine (HG.out _).mono ?_
  rintro e w2 ⟨v, rfl, own2, hb2⟩
  obtain ⟨a2, c2, rfl, r2⟩ := own_row HX.out own2
  have HB2 := hide (hb2.trans ((o_below_new w2 (.cells #[.slice a2 N c2] 31)).mono hb2.size))
  have P2 := hide (o_own own2 (o_below_new w2 (.cells #[.slice a2 N c2] 31)))
  have k2 : (w2.alloc (.cells #[.slice a2 N c2] 31)).cell? ⟨w2.heap.size, 0, none⟩ = some (.slice a2 N c2) := by simp [go_sem]
  have k1' := (HB2.out.cell (p := ⟨B1, 0, none⟩) z1).trans k1
  have z2 : w2.heap.size < (w2.alloc (.cells #[.slice a2 N c2] 31)).heap.size := by simp
  have z2' : W1.heap.size ≤ w2.heap.size := hb2.size
  have HOB : Hid (∀ g, (Value.slice a2 N c2).ownBlock = some g → g < w2.heap.size) := hide fun g hg => (own2.lt g hg).2
  have k1h := k1
  clear own2 r2 hb2 k1
  go_wp2_with fail
  generalize w2.alloc (.cells #[.slice a2 N c2] 31) = W2 at *
  generalize w2.heap.size = B2 at *
  have R2 : Hid (ARow W2 a2 xs) := hide (by
    obtain ⟨a', c', e', r'⟩ := own_row HX.out P2.out
    cases e'; exact r')
  refine (eqO_b HX.out (by omega) R2.out (R0.out.below HB2.out)).mono ?_
  rintro e w3 ⟨rfl, hb3⟩
  have P3 := hide (o_own P2.out hb3)
  have HB3 := hide (HB2.out.trans (hb3.mono HB2.out.size))
  have k2' := (hb3.cell (p := ⟨B2, 0, none⟩) z2).trans k2
  have z3 := hb3.size
  clear P2 R2 hb3 k2 k1'
  go_wp2_with fail
  refine (mkO_any HX.out (by omega) P3.out (k' := W1.heap.size) (Nat.le_refl _) (by omega)).mono ?_
  rintro e w4 ⟨rfl, hh4, hb4, hk4⟩
  have k4 : w4.cell? ⟨B2, 0, none⟩ = some (.slice a2 N c2) := (World.cell?_of_block (a := ⟨B2, 0, none⟩) (hk4 B2 (by omega) (fun e => by have := HOB.out B2 e.symm; omega))).trans k2'
  have k1a := (HB3.out.cell (p := ⟨B1, 0, none⟩) z1).trans k1h
  have HH4 := hide hh4
  have HB4 := hide (HB3.out.trans hb4)
  have z4 : B2 < w4.heap.size := by have := hb4.size; omega
  have HHeld := hide fun (w' : World) (hh : HeldV w' (.slice a2 N c2) N 1) => hdO_any (w := w') (by omega) hh
  clear hh4 hb4 hk4 P3 k2' k1a
  generalize (1 : Int) + (N : Int) = q1 at *
  go_wp2_with fail
  refine (HHeld.out _ HH4.out).mono ?_
  rintro e w5 ⟨rfl, hb5⟩
  have k5 := (hb5.cell (p := ⟨B2, 0, none⟩) z4).trans k4
  have HH5 := hide (HH4.out.below hb5)
  have HB5 := hide (HB4.out.trans (hb5.mono HB4.out.size))
  have z5 : B2 < w5.heap.size := by have := hb5.size; omega
  clear hb5 k4 HH4
  go_wp2_with fail
  refine (HG.out _).mono ?_
  rintro e w6 ⟨v6, rfl, own6, hb6⟩
  obtain ⟨a6, c6, rfl, r6⟩ := own_row HX.out own6
  have HBA := hide (o_below_new w6 (.cells #[.slice a6 N c6] 31))
  have k6 : (w6.alloc (.cells #[.slice a6 N c6] 31)).cell? ⟨w6.heap.size, 0, none⟩ = some (.slice a6 N c6) := by simp [go_sem]
  have HB6 := hide ((HB5.out.trans (hb6.mono HB5.out.size)).trans (HBA.out.mono (Nat.le_trans HB5.out.size hb6.size)))
  have R6 := hide (r6.alloc (.cells #[.slice a6 N c6] 31))
  have HH6 := hide ((HH5.out.below hb6).below HBA.out)
  have k5' := (HBA.out.cell (p := ⟨B2, 0, none⟩) (show B2 < w6.heap.size by have := hb6.size; omega)).trans ((hb6.cell (p := ⟨B2, 0, none⟩) z5).trans k5)
  have k1b := (HB6.out.cell (p := ⟨B1, 0, none⟩) z1).trans k1h
  have z6 : B2 < (w6.alloc (.cells #[.slice a6 N c6] 31)).heap.size := by have := hb6.size; simp; omega
  clear own6 r6 hb6 k5 HH5 HBA
  go_wp2_with fail
  generalize w6.alloc (.cells #[.slice a6 N c6] 31) = W6 at *
  refine (eqO_b HX.out (by omega) R6.out (R0.out.below HB6.out)).mono ?_
  rintro e w7 ⟨rfl, hb7⟩
  have HH7 := hide (HH6.out.below hb7)
  have k7 := (hb7.cell (p := ⟨B2, 0, none⟩) z6).trans k5'
  have HB7 := hide (HB6.out.trans (hb7.mono HB6.out.size))
  clear HH6 k5' k6 k1b
  go_wp2_with fail
  refine (HHeld.out _ HH7.out).mono ?_
  rintro e w8 ⟨rfl, hb8⟩
  have HB8 := hide (HB1.out.trans ((HB7.out.trans (hb8.mono HB7.out.size)).mono HB1.out.size))
  go_wp2_with fail
  go_ret
  exact ⟨rfl, HB8.out⟩
end Go.Proofs.Ytpabfmcoadolcaa
