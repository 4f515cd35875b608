/-
  FnTrees: the law's own walk.
-/
import Derived.Test.YtphfcephinnkoaaTp11
import Derived.Test.YtphfcephinnkoaaDy11
import Derived.Test.YtphfcephinnkoaaNs11
import Derived.Test.YtphfcephinnkoaaRl11
import Derived.Test.YtphfcephinnkoaaRf11
import Derived.Test.YtphfcephinnkoaaRe11
import Derived.Deep.DeepCutAuto
namespace Go.Proofs.Ytphfcephinnkoaa
open Go.RowKit

/-- Three spots in three boxes. -/
def Q3 (V : World) (g h k : Nat) (x y p q m z : Int) : Prop := V.cell? ⟨g, 0, none⟩ = some (.int .i64 x) ∧ V.cell? ⟨g, 1, none⟩ = some (.int .i64 y) ∧ V.cell? ⟨h, 0, none⟩ = some (.int .i64 p) ∧ V.cell? ⟨h, 1, none⟩ = some (.int .i64 q) ∧ V.cell? ⟨k, 0, none⟩ = some (.int .i64 m) ∧ V.cell? ⟨k, 1, none⟩ = some (.int .i64 z)
theorem Q3.below {V V' : World} {g h k : Nat} {x y p q m z : Int} (hq : Q3 V g h k x y p q m z) (hb : Below V.heap.size V V') : Q3 V' g h k x y p q m z := by
  obtain ⟨h1, h2, h3, h4, h5, h6⟩ := hq
  have l1 := World.block_lt_of_cell? V _ h1
  have l3 := World.block_lt_of_cell? V _ h3
  have l5 := World.block_lt_of_cell? V _ h5
  exact ⟨(hb.cell (p := ⟨g, 0, none⟩) l1).trans h1, (hb.cell (p := ⟨g, 1, none⟩) l1).trans h2, (hb.cell (p := ⟨h, 0, none⟩) l3).trans h3, (hb.cell (p := ⟨h, 1, none⟩) l3).trans h4, (hb.cell (p := ⟨k, 0, none⟩) l5).trans h5, (hb.cell (p := ⟨k, 1, none⟩) l5).trans h6⟩
theorem wb_at {L : List (Int × Int)} {i j : Nat} (hs : Rt.allS L = true) (hi : i < L.length) (hj : j < L.length) (V : World) :
    Calls Try.prog 19 #[.agg #[.int .i64 (L.getD i (0, 0)).1, .int .i64 (L.getD i (0, 0)).2], .agg #[.int .i64 (L.getD j (0, 0)).1, .int .i64 (L.getD j (0, 0)).2]] V fun e w' => e = .returned (.tuple #[.int .i64 (Rt.wy L i j), .bool true]) ∧ Below V.heap.size V w' := by
  refine (wb_w (L.getD i (0, 0)) (L.getD j (0, 0)) V).mono ?_
  rintro e w' ⟨rfl, hb⟩
  have e1 : Rt.wbB (L.getD i (0, 0)) (L.getD j (0, 0)) = true := by simp only [Rt.wbB, Rt.allS_at hs hi, Rt.allS_at hs hj]; rfl
  refine ⟨?_, hb⟩
  unfold Rt.wbI
  rw [e1]; rfl
set_option maxRecDepth 100000 in
set_option maxHeartbeats 1000000 in
theorem lTr11_long {a1 a2 : Option Addr} {len1 cap1 len2 cap2 : Nat} {w : World} (h1 : (1048576 : Int) < wrap64 ((len1 : Int) + (len2 : Int))) :
    Calls Try.prog 4 #[.slice a1 len1 cap1, .slice a2 len2 cap2] w fun e w' => e = .returned (.bool true) ∧ Below w.heap.size w w' := by
  go_enter Try.func4, Try.ntmps4
  go_wp2_with fail
  go_ret
  exact ⟨rfl, Below.refl _ _⟩
set_option maxRecDepth 100000 in
set_option maxHeartbeats 8000000 in
theorem lTr11_main {a1 a2 : Option Addr} {len1 cap1 len2 cap2 : Nat} {w : World} (hs1 : Hid (Src w a1 len1)) (hs2 : Hid (Src w a2 len2)) (hl1 : len1 ≤ 1048576) (h1 : ¬ (1048576 : Int) < wrap64 ((len1 : Int) + (len2 : Int))) :
    Calls Try.prog 4 #[.slice a1 len1 cap1, .slice a2 len2 cap2] w fun e w' => e = .returned (.bool true) ∧ Below w.heap.size w w' := by
  go_enter Try.func4, Try.ntmps4
  go_wp2_with fail
  refine (drawOW_any hs1).mono ?_
  rintro e w1 ⟨s, t, u, rfl, hb1⟩
  have HB1 := hide hb1
  have hbx := w3_bx w1 s t u 35
  obtain ⟨W, hW⟩ : ∃ W, w3 w1 s t u 35 = W := ⟨_, rfl⟩
  rw [hW] at hbx
  unfold w3 at hW
  have HOW := hide fun (V : World) => ow_w s t u V
  have HSO := hide fun (V : World) => sow_w s t u V
  have HW1 := hide fun (V : World) => wb_w s t V
  have HW2 := hide fun (V : World) => wb_w t s V
  have HW3 := hide fun (V : World) => wb_w t u V
  have HW4 := hide fun (V : World) => wb_w s u V
  have HGF : Hid (Rt.owB s t u = true → (Rt.wbB s t = true ∧ Rt.wbB t s = true ∧ Rt.wbB t u = true ∧ Rt.wbB s u = true) ∧ (Rt.wbI t s = Rt.wbI s t ∧ 0 ≤ Rt.wbI s t ∧ Rt.wbI s t ≤ 100 ∧ 0 ≤ Rt.wbI t u ∧ Rt.wbI t u ≤ 100 ∧ (Rt.wbI s t = 0 ↔ s = t) ∧ Rt.wbI s u ≤ Rt.wbI s t + Rt.wbI t u) ∧ Rt.owI s t u = decide (Rt.wbI s t + Rt.wbI t u = Rt.wbI s u)) := hide (by
    intro h
    have hh : Rt.spotB s = true ∧ Rt.spotB t = true ∧ Rt.spotB u = true := by simpa [Rt.owB, Bool.and_eq_true] using h
    obtain ⟨h1, h2, h3⟩ := hh
    have e1 : Rt.wbB s t = true := by simp [Rt.wbB, h1, h2]
    have e2 : Rt.wbB t s = true := by simp [Rt.wbB, h1, h2]
    have e3 : Rt.wbB t u = true := by simp [Rt.wbB, h2, h3]
    have e4 : Rt.wbB s u = true := by simp [Rt.wbB, h1, h3]
    refine ⟨⟨e1, e2, e3, e4⟩, ?_⟩
    unfold Rt.wbI Rt.owI
    rw [e1, e2, e3, e4, h]
    simp only [if_true, Bool.true_and]
    exact ⟨Rt.way_facts ⟨h1, h2, h3⟩, trivial⟩)
  generalize Rt.owB s t u = G at *
  generalize Rt.owI s t u = R at *
  generalize Rt.wbB s t = G1 at *
  generalize Rt.wbB t s = G2 at *
  generalize Rt.wbB t u = G3 at *
  generalize Rt.wbB s u = G4 at *
  generalize Rt.wbI s t = X at *
  generalize Rt.wbI t s = X' at *
  generalize Rt.wbI t u = Z at *
  generalize Rt.wbI s u = Y at *
  have HW := hide hW
  obtain ⟨x, y⟩ := s
  obtain ⟨p, q⟩ := t
  obtain ⟨m, z⟩ := u
  have HQ1 : Hid (Q3 W w1.heap.size (w1.heap.size + 1) (w1.heap.size + 1 + 1) x y p q m z) := hide ⟨hbx.1, hbx.2.1, hbx.2.2.1, hbx.2.2.2.1, hbx.2.2.2.2.1, hbx.2.2.2.2.2.1⟩
  have HB2 := hide (HB1.out.trans (hbx.2.2.2.2.2.2.mono HB1.out.size))
  clear hb1 hbx hW HB1
  simp only at *
  have hRR : (R != R) = false := by simp
  have hGG : (G != G) = false := by simp
  go_upto_region 4 with fail
  rw [HW.out]
  clear HW
  obtain ⟨c0, c1, c2, c3, c4, c5⟩ := HQ1.out
  go_wp2_with fail
  refine (HOW.out _).mono ?_
  rintro e w2 ⟨rfl, hb2⟩
  have HQ2 := hide (HQ1.out.below hb2)
  have HB3 := hide (HB2.out.trans (hb2.mono HB2.out.size))
  clear c0 c1 c2 c3 c4 c5 HQ1 HB2 hb2 HOW
  obtain ⟨c0, c1, c2, c3, c4, c5⟩ := HQ2.out
  go_wp2_with fail
  refine (HSO.out _).mono ?_
  rintro e w3 ⟨rfl, hb3⟩
  have HQ3 := hide (HQ2.out.below hb3)
  have HB4 := hide (HB3.out.trans (hb3.mono HB3.out.size))
  clear c0 c1 c2 c3 c4 c5 HQ2 HB3 hb3 HSO
  obtain ⟨c0, c1, c2, c3, c4, c5⟩ := HQ3.out
  go_upto_if 77 with fail
  go_cut [9] (fun s9 wc => Hid (Below w.heap.size w wc))
  case first =>
    cases G
    · go_wp2_with fail
      go_meet
      case rel => exact HB4
    · obtain ⟨⟨rfl, rfl, rfl, rfl⟩, ⟨hxx, b1, b2, b3, b4, hz, hle⟩, hR⟩ := HGF.out rfl
      have hxy := hxx.symm
      clear hxx
      subst hxy
      have HR := hide hR
      have HZ := hide hz
      clear hR hz HGF
      go_wp2_with fail
      refine (HW1.out _).mono ?_
      rintro e w4 ⟨rfl, hb4⟩
      have HQ4 := hide (HQ3.out.below hb4)
      have HB5 := hide (HB4.out.trans (hb4.mono HB4.out.size))
      clear c0 c1 c2 c3 c4 c5 HQ3 HB4 hb4 HW1
      obtain ⟨c0, c1, c2, c3, c4, c5⟩ := HQ4.out
      go_wp2_with fail
      refine (HW2.out _).mono ?_
      rintro e w5 ⟨rfl, hb5⟩
      have HQ5 := hide (HQ4.out.below hb5)
      have HB6 := hide (HB5.out.trans (hb5.mono HB5.out.size))
      clear c0 c1 c2 c3 c4 c5 HQ4 HB5 hb5 HW2
      obtain ⟨c0, c1, c2, c3, c4, c5⟩ := HQ5.out
      go_wp2_with fail
      refine (HW3.out _).mono ?_
      rintro e w6 ⟨rfl, hb6⟩
      have HQ6 := hide (HQ5.out.below hb6)
      have HB7 := hide (HB6.out.trans (hb6.mono HB6.out.size))
      clear c0 c1 c2 c3 c4 c5 HQ5 HB6 hb6 HW3
      obtain ⟨c0, c1, c2, c3, c4, c5⟩ := HQ6.out
      go_wp2_with fail
      refine (HW4.out _).mono ?_
      rintro e w7 ⟨rfl, hb7⟩
      have HQ7 := hide (HQ6.out.below hb7)
      have HB8 := hide (HB7.out.trans (hb7.mono HB7.out.size))
      clear c0 c1 c2 c3 c4 c5 HQ6 HB7 hb7 HW4
      obtain ⟨c0, c1, c2, c3, c4, c5⟩ := HQ7.out
      by_cases e0 : X = 0
      · obtain ⟨rfl, rfl⟩ : x = p ∧ y = q := by simpa using HZ.out.1 e0
        subst e0
        have hwz : wrap64 Z = Z := by unfold wrap64; omega
        have hle2 : ¬ Z < Y := by omega
        by_cases eY : Y = Z
        · subst eY
          obtain rfl : R = true := by rw [HR.out]; simp
          clear HR HZ hle HQ7
          go_wp2_with fail
          go_meet
          case rel => exact HB8
        · have eY2 : (Y == Z) = false := by simp [eY]
          obtain rfl : R = false := by rw [HR.out]; simp; omega
          clear HR HZ hle HQ7
          go_wp2_with fail
          go_meet
          case rel => exact HB8
      · have e1 : (X == 0) = false := by simp [e0]
        have e2 : ¬ (x = p ∧ y = q) := fun h => e0 (HZ.out.2 (by rw [h.1, h.2]))
        have hX0 : ¬ X < 0 := by omega
        have hwr : wrap64 (X + Z) = X + Z := by unfold wrap64; omega
        have hle2 : ¬ X + Z < Y := by omega
        by_cases eY : Y = X + Z
        · subst eY
          obtain rfl : R = true := by rw [HR.out]; simp
          clear HR HZ hle HQ7
          by_cases e3 : x = p
          · have e4 : ¬ y = q := fun h => e2 ⟨e3, h⟩
            go_wp2_with fail
            go_meet
            case rel => exact HB8
          · go_wp2_with fail
            go_meet
            case rel => exact HB8
        · have eY2 : (Y == X + Z) = false := by simp [eY]
          obtain rfl : R = false := by rw [HR.out]; simp; omega
          clear HR HZ hle HQ7
          by_cases e3 : x = p
          · have e4 : ¬ y = q := fun h => e2 ⟨e3, h⟩
            go_wp2_with fail
            go_meet
            case rel => exact HB8
          · go_wp2_with fail
            go_meet
            case rel => exact HB8
  case rest =>
    have HB0 := hcut
    clear hcut HW1 HW2 HW3 HW4 HGF HQ3 HB4 c0 c1 c2 c3 c4 c5
    have HS2 := hide (hs2.out.below HB0.out)
    go_wp2_with fail
    refine (drawWB_any HS2).mono ?_
    rintro e v1 ⟨s, t, rfl, hb2⟩
    have HB1 := hide (HB0.out.trans (hb2.mono HB0.out.size))
    clear hb2 HB0 HS2
    have HB := hide (below_two v1 (.cells #[.int .i64 s.1, .int .i64 s.2] 35) (.cells #[.int .i64 t.1, .int .i64 t.2] 35))
    have c0 : ((v1.alloc (.cells #[.int .i64 s.1, .int .i64 s.2] 35)).alloc (.cells #[.int .i64 t.1, .int .i64 t.2] 35)).cell? ⟨v1.heap.size, 0, none⟩ = some (.int .i64 s.1) := by simp
    have c1 : ((v1.alloc (.cells #[.int .i64 s.1, .int .i64 s.2] 35)).alloc (.cells #[.int .i64 t.1, .int .i64 t.2] 35)).cell? ⟨v1.heap.size, 1, none⟩ = some (.int .i64 s.2) := by simp
    have c2 : ((v1.alloc (.cells #[.int .i64 s.1, .int .i64 s.2] 35)).alloc (.cells #[.int .i64 t.1, .int .i64 t.2] 35)).cell? ⟨v1.heap.size + 1, 0, none⟩ = some (.int .i64 t.1) := by simp
    have c3 : ((v1.alloc (.cells #[.int .i64 s.1, .int .i64 s.2] 35)).alloc (.cells #[.int .i64 t.1, .int .i64 t.2] 35)).cell? ⟨v1.heap.size + 1, 1, none⟩ = some (.int .i64 t.2) := by simp
    obtain ⟨W, hW⟩ : ∃ W, (v1.alloc (.cells #[.int .i64 s.1, .int .i64 s.2] 35)).alloc (.cells #[.int .i64 t.1, .int .i64 t.2] 35) = W := ⟨_, rfl⟩
    rw [hW] at HB c0 c1 c2 c3
    have HW := hide hW
    have HB2 := hide (HB1.out.trans (HB.out.mono HB1.out.size))
    have HWB := hide fun (V : World) => wb_w s t V
    have HSB := hide fun (V : World) => swb_w s t V
    generalize Rt.wbB s t = G1 at *
    generalize Rt.wbI s t = X1 at *
    obtain ⟨x1, y1⟩ := s
    obtain ⟨p1, q1⟩ := t
    clear hW HB HB1 hRR hGG
    simp only at *
    have hXX : (X1 != X1) = false := by simp
    have hG1 : (G1 != G1) = false := by simp
    go_upto_region 16 with fail
    rw [HW.out]
    clear HW
    go_wp2_with fail
    refine (HWB.out _).mono ?_
    rintro e v2 ⟨rfl, hb2⟩
    have l1 := World.block_lt_of_cell? W _ c0
    have l2 := World.block_lt_of_cell? W _ c2
    have d0 := (hb2.cell (p := ⟨v1.heap.size, 0, none⟩) l1).trans c0
    have d1 := (hb2.cell (p := ⟨v1.heap.size, 1, none⟩) l1).trans c1
    have d2 := (hb2.cell (p := ⟨v1.heap.size + 1, 0, none⟩) l2).trans c2
    have d3 := (hb2.cell (p := ⟨v1.heap.size + 1, 1, none⟩) l2).trans c3
    have HB3 := hide (HB2.out.trans (hb2.mono HB2.out.size))
    clear c0 c1 c2 c3 l1 l2 hb2 HB2 HWB
    go_wp2_with fail
    refine (HSB.out _).mono ?_
    rintro e v3 ⟨rfl, hb3⟩
    have HB4 := hide (HB3.out.trans (hb3.mono HB3.out.size))
    have HS3 := hide (hs2.out.below HB4.out)
    clear d0 d1 d2 d3 hb3 HB3 HSB
    go_wp2_with fail
    refine (drawTO_any HS3).mono ?_
    rintro e v4 ⟨al, cl, L, n, rfl, hl, hn, hr, hb4⟩
    have HB5 := hide (HB4.out.trans (hb4.mono HB4.out.size))
    have HL := hide hl
    have HR := hide hr
    clear hb4 HB4 HS3 hl hr
    have HTO := hide (to_v (c := cl) HL.out HR.out)
    have HST := hide fun (V : World) (h : Below v4.heap.size v4 V) => sto_v (c := cl) HL.out (by omega) (HR.out.below h)
    obtain ⟨T, hT⟩ : ∃ T, Rt.stopsB L = T := ⟨_, rfl⟩
    obtain ⟨S, hS⟩ : ∃ S, Rt.toI L = S := ⟨_, rfl⟩
    obtain ⟨up, hU⟩ : ∃ up, Rt.toL L = up := ⟨_, rfl⟩
    obtain ⟨k, hk⟩ : ∃ k, up.length = k := ⟨_, rfl⟩
    have hk7 : k ≤ 1048576 := by rw [← hk, ← hU]; exact toL_le L
    rw [hT, hS, hU, hk] at HTO HST
    have HT := hide hT
    have HTF := hide fun (h : T = true) => Rt.tree_facts (n := n) HL.out (hT.trans h)
    rw [hS, hU] at HTF
    have HK := hide hk
    clear hT hS hU hk
    have hTT : (T != T) = false := by simp
    have hSS : (S != S) = false := by simp
    go_wp2_with fail
    refine HTO.out.mono ?_
    rintro e v5 ⟨r1, rfl, hb5, av1⟩
    have HTS := hide (HST.out v5 hb5)
    have B5 := hide hb5
    obtain ⟨au, cu, rfl, ru⟩ := av1.row HK.out
    have RU := hide ru
    clear hb5 av1 ru HTO HST
    go_wp2_with fail
    refine HTS.out.mono ?_
    rintro e v6 ⟨r2, rfl, hb6, av2⟩
    obtain ⟨au2, cu2, rfl, ru2⟩ := av2.row HK.out
    have B6 := hide (B5.out.trans (hb6.mono B5.out.size))
    have RU6 := hide (RU.out.below hb6)
    have HSI := hide (si_same (c := cu) (d := cu2) HK hk7 RU6.out ru2)
    clear hb6 av2 ru2 HTS B5 RU
    go_wp2_with fail
    refine HSI.out.mono ?_
    rintro e v7 ⟨rfl, hb7⟩
    have RU7 := hide (RU6.out.below hb7)
    have B7 := hide (B6.out.trans (hb7.mono B6.out.size))
    have R7 := hide (HR.out.below B7.out)
    have HB7 := hide (HB5.out.trans (B7.out.mono HB5.out.size))
    clear hb7 HSI RU6 B6 HR HB5 B7
    cases T
    · go_wp2_with fail
      go_ret
      exact ⟨rfl, HB7.out⟩
    · obtain ⟨t1, t2, t3, t4, t5⟩ := HTF.out rfl
      obtain rfl : k = n := by rw [← HK.out]; exact t1
      have hsl := Rt.stops_len HT.out
      rw [HL.out] at hsl
      have HAS := hide (Rt.stops_all HT.out)
      have T2 := hide t2
      have T3 := hide t3
      have T4 := hide t4
      have T5 := hide t5
      obtain ⟨n1, n7⟩ := hsl
      clear t1 t2 t3 t4 t5 HTF HT
      obtain ⟨NN, nn0, nn1, hNN⟩ := num_srcY hs1.out hl1
      have HNN := hide hNN
      clear hNN
      go_upto_region 25 with (go_at_call 24; refine (HNN.out _ _ HB7.out).mono ?_; rintro e wq ⟨rfl, hw⟩; obtain rfl : v7 = wq := hw.symm)
      obtain ⟨c, hc⟩ : ∃ c : Nat, NN % (k : Int) = (c : Int) := ⟨(NN % (k : Int)).toNat, by have := Int.emod_nonneg NN (show (k : Int) ≠ 0 by omega); omega⟩
      have hck : c < k := by have := Int.emod_lt_of_pos NN (show (0 : Int) < k by omega); omega
      rw [hc]
      clear hc nn0 nn1 HNN
      have cc0 : (0 : Int) ≤ (c : Int) := by omega
      have cc1 : (c : Int) < (k : Int) := by omega
      go_wp2_with fail
      go_loopw [34, 35, 36, 37, 212] (fun s _ _ _ r wr => ∃ (i : Nat) (x : Int), s = .int .i64 x ∧ r = .int .i64 i ∧ i ≤ k ∧ Hid (x = Rt.star L c i) ∧ Below v7.heap.size v7 wr) (fun _ _ _ _ r _ => k - (intOf r).toNat)
      case atStart => exact ⟨0, 0, rfl, rfl, Nat.zero_le _, hide rfl, Below.refl _ _⟩
      case round =>
        obtain ⟨i, x, rfl, rfl, hi, HX, hB⟩ := hrel
        have hxb := Rt.star_bd (c := c) HAS.out (by rw [HL.out]; omega) i (by rw [HL.out]; omega)
        rw [← HX.out] at hxb
        by_cases hlt : i < k
        · obtain ⟨b, o, ea, c1, c2, c3, c4⟩ := two_stops (R7.out.below hB) (i := c) (j := i) (by rw [HL.out]; exact hck) (by rw [HL.out]; exact hlt)
          subst ea
          have hwb := Rt.wy_bd HAS.out (i := c) (j := i) (by rw [HL.out]; exact hck) (by rw [HL.out]; exact hlt)
          have HWT := hide fun (V : World) => wb_at (i := c) (j := i) HAS.out (by rw [HL.out]; exact hck) (by rw [HL.out]; exact hlt) V
          have HSTEP : Hid (x + Rt.wy L c i = Rt.star L c (i + 1)) := hide (by rw [HX.out]; rfl)
          generalize Rt.wy L c i = Y at *
          generalize (L.getD c (0, 0)).1 = u1 at *
          generalize (L.getD c (0, 0)).2 = u2 at *
          generalize (L.getD i (0, 0)).1 = w1' at *
          generalize (L.getD i (0, 0)).2 = w2' at *
          have i0 : (0 : Int) ≤ (i : Int) := by omega
          have i1 : (i : Int) < (k : Int) := by omega
          have hx0 : 0 ≤ x := hxb.1
          have hx1 : x ≤ 700 := by omega
          have hy0 : 0 ≤ Y := hwb.1
          have hy1 : Y ≤ 100 := hwb.2
          have hwr : IntKind.i64.wrap (x + Y) = x + Y := by rw [IntKind.wrap_i64]; omega
          clear hxb hwb HX
          go_upto_region 29 with fail
          go_region_held3 (fun w' => w'.cell? ⟨b, o + c * 2, none⟩ = some (.int .i64 u1) ∧ w'.cell? ⟨b, o + c * 2 + 1, none⟩ = some (.int .i64 u2) ∧ w'.cell? ⟨b, o + i * 2, none⟩ = some (.int .i64 w1') ∧ w'.cell? ⟨b, o + i * 2 + 1, none⟩ = some (.int .i64 w2') ∧ Below v7.heap.size v7 w') (first | exact rh_drew ⟨c1, c2, c3, c4, hB⟩ | assumption | exact rh_below ‹_› (by assumption))
            (first
            | (go_at_call 19; refine (HWT.out _).mono ?_; rintro e w1 ⟨rfl, hb1⟩))
          obtain ⟨_, _, _, _, hBz⟩ := ‹_ ∧ _ ∧ _ ∧ _ ∧ Below v7.heap.size v7 _›
          go_wp2_with fail
          go_roundw
          case rel => exact ⟨i + 1, x + Y, by go_num, by go_num, by omega, HSTEP, hBz⟩
          case measure => simp only [intOf]; omega
        · have hke : i = k := by omega
          subst hke
          have hSx : S ≤ x := by rw [HX.out]; exact T5.out c hck
          have B8 := hide hB
          clear hB hck cc0 cc1 hxb HX T5
          go_wp2_with fail
          go_loopw [38, 39, 40, 41, 42, 235] (fun s _ _ _ _ r wr => ∃ (j : Nat) (z : Int), s = .int .i64 z ∧ r = .int .i64 j ∧ j ≤ i ∧ Hid (z = Rt.ups L up j) ∧ Below v7.heap.size v7 wr) (fun _ _ _ _ _ r _ => i - (intOf r).toNat)
          case atStart => exact ⟨0, 0, rfl, rfl, Nat.zero_le _, hide rfl, B8.out⟩
          case round =>
            obtain ⟨j, z, rfl, rfl, hj, HZ, hB⟩ := hrel
            have hzb := Rt.ups_bd HL.out HAS.out T3.out T2.out j hj
            rw [← HZ.out] at hzb
            by_cases hlt : j < i
            · obtain ⟨b', o', ea, q0⟩ := (RU7.out.below hB).at (i := j) (by rw [HK.out]; exact hlt)
              subst ea
              have j0 : (0 : Int) ≤ (j : Int) := by omega
              have j1 : (j : Int) < (i : Int) := by omega
              by_cases h0 : j = 0
              · subst h0
                rw [T2.out, Nat.add_zero] at q0
                have HE : Hid (z = Rt.ups L up (0 + 1)) := hide (by rw [HZ.out, Rt.ups_first T2.out]; rfl)
                clear HZ hzb
                go_wp2_with fail
                go_roundw
                case rel => exact ⟨0 + 1, z, rfl, rfl, by omega, HE, hB⟩
                case measure => simp only [intOf]; omega
              · have hj0 : ¬ (j : Int) = 0 := by omega
                obtain ⟨d, hd, hdn⟩ := T3.out j hlt h0
                rw [hd] at q0
                have d0 : (0 : Int) ≤ (d : Int) := by omega
                have d1 : (d : Int) < (i : Int) := by omega
                obtain ⟨b, o, ea, c1, c2, c3, c4⟩ := two_stops (R7.out.below hB) (i := d) (j := j) (by rw [HL.out]; exact hdn) (by rw [HL.out]; exact hlt)
                subst ea
                have hwb := Rt.wy_bd HAS.out (i := d) (j := j) (by rw [HL.out]; exact hdn) (by rw [HL.out]; exact hlt)
                have HWT := hide fun (V : World) => wb_at (i := d) (j := j) HAS.out (by rw [HL.out]; exact hdn) (by rw [HL.out]; exact hlt) V
                have HSTEP : Hid (z + Rt.wy L d j = Rt.ups L up (j + 1)) := hide (by rw [HZ.out, Rt.ups_step hd])
                generalize Rt.wy L d j = Y at *
                generalize (L.getD d (0, 0)).1 = u1 at *
                generalize (L.getD d (0, 0)).2 = u2 at *
                generalize (L.getD j (0, 0)).1 = w1' at *
                generalize (L.getD j (0, 0)).2 = w2' at *
                have hz0 : 0 ≤ z := hzb.1
                have hz1 : z ≤ 700 := by omega
                have hy0 : 0 ≤ Y := hwb.1
                have hy1 : Y ≤ 100 := hwb.2
                have hwr : IntKind.i64.wrap (z + Y) = z + Y := by rw [IntKind.wrap_i64]; omega
                clear hzb hwb HZ hd
                go_upto_region 41 with fail
                go_region_held3 (fun w' => w'.cell? ⟨b, o + d * 2, none⟩ = some (.int .i64 u1) ∧ w'.cell? ⟨b, o + d * 2 + 1, none⟩ = some (.int .i64 u2) ∧ w'.cell? ⟨b, o + j * 2, none⟩ = some (.int .i64 w1') ∧ w'.cell? ⟨b, o + j * 2 + 1, none⟩ = some (.int .i64 w2') ∧ Below v7.heap.size v7 w') (first | exact rh_drew ⟨c1, c2, c3, c4, hB⟩ | assumption | exact rh_below ‹_› (by assumption))
                  (first
                  | (go_at_call 19; refine (HWT.out _).mono ?_; rintro e w1 ⟨rfl, hb1⟩))
                obtain ⟨_, _, _, _, hBz⟩ := ‹_ ∧ _ ∧ _ ∧ _ ∧ Below v7.heap.size v7 _›
                go_wp2_with fail
                go_roundw
                case rel => exact ⟨j + 1, z + Y, by go_num, by go_num, by omega, HSTEP, hBz⟩
                case measure => simp only [intOf]; omega
            · have hke : j = i := by omega
              subst hke
              obtain rfl : z = S := by rw [HZ.out]; exact T4.out
              clear HZ hzb
              go_wp2_with fail
              go_ret
              exact ⟨rfl, HB7.out.trans (hB.mono HB7.out.size)⟩
theorem lTr11_walk {a1 a2 : Option Addr} {len1 cap1 len2 cap2 : Nat} {w : World} (hs1 : Src w a1 len1) (hs2 : Src w a2 len2) (m1 : len1 ≤ 140737488351232) (m2 : len2 ≤ 140737488351232) :
    Calls Try.prog 4 #[.slice a1 len1 cap1, .slice a2 len2 cap2] w fun e w' => e = .returned (.bool true) ∧ Below w.heap.size w w' := by
  by_cases h1 : (1048576 : Int) < wrap64 ((len1 : Int) + (len2 : Int))
  · exact lTr11_long h1
  · refine lTr11_main (hide hs1) (hide hs2) ?_ h1
    rw [wrap_id _ (by omega) (by omega)] at h1
    omega
end Go.Proofs.Ytphfcephinnkoaa
