/-
  Rounds: what roundCost and TourCost of the program and l11Cost and TourCost of the model answer.
-/
import Derived.Test.YtkiadodoehcbmaaRc11
import Derived.Test.YtkiadodoehcbmaaHb
import Derived.Deep.RegionHeld3
import Derived.Deep.DeepCutAuto
namespace Go.Proofs.Ytkiadodoehcbmaa
open Go.RowKit

theorem rh_below {W w1 w2 : World} {b p q r s : Nat} {x y u v : Value} (h : w1.cell? ⟨b, p, none⟩ = some x ∧ w1.cell? ⟨b, q, none⟩ = some y ∧ w1.cell? ⟨b, r, none⟩ = some u ∧ w1.cell? ⟨b, s, none⟩ = some v ∧ Below W.heap.size W w1) (hb : Below w1.heap.size w1 w2) :
    w2.cell? ⟨b, p, none⟩ = some x ∧ w2.cell? ⟨b, q, none⟩ = some y ∧ w2.cell? ⟨b, r, none⟩ = some u ∧ w2.cell? ⟨b, s, none⟩ = some v ∧ Below W.heap.size W w2 := by
  obtain ⟨h1, h2, h3, h4, h5⟩ := h
  have hl := World.block_lt_of_cell? w1 _ h1
  exact ⟨(hb.cell (p := ⟨b, p, none⟩) hl).trans h1, (hb.cell (p := ⟨b, q, none⟩) hl).trans h2, (hb.cell (p := ⟨b, r, none⟩) hl).trans h3, (hb.cell (p := ⟨b, s, none⟩) hl).trans h4, h5.trans (hb.mono h5.size)⟩
theorem rh_drew {W w1 : World} {b p q r s : Nat} {x y u v : Value} (h : w1.cell? ⟨b, p, none⟩ = some x ∧ w1.cell? ⟨b, q, none⟩ = some y ∧ w1.cell? ⟨b, r, none⟩ = some u ∧ w1.cell? ⟨b, s, none⟩ = some v ∧ Below W.heap.size W w1) :
    w1.drew.cell? ⟨b, p, none⟩ = some x ∧ w1.drew.cell? ⟨b, q, none⟩ = some y ∧ w1.drew.cell? ⟨b, r, none⟩ = some u ∧ w1.drew.cell? ⟨b, s, none⟩ = some v ∧ Below W.heap.size W w1.drew := ⟨h.1, h.2.1, h.2.2.1, h.2.2.2.1, h.2.2.2.2.drew⟩
/-- Two stops in memory. -/
theorem two_stops {w : World} {a : Option Addr} {L : List (Int × Int)} (h : FRow w a L) {i j : Nat} (hi : i < L.length) (hj : j < L.length) : ∃ b o, a = some ⟨b, o, none⟩ ∧ w.cell? ⟨b, o + i * 2, none⟩ = some (.int .i64 (L.getD i (0, 0)).1) ∧ w.cell? ⟨b, o + i * 2 + 1, none⟩ = some (.int .i64 (L.getD i (0, 0)).2) ∧ w.cell? ⟨b, o + j * 2, none⟩ = some (.int .i64 (L.getD j (0, 0)).1) ∧ w.cell? ⟨b, o + j * 2 + 1, none⟩ = some (.int .i64 (L.getD j (0, 0)).2) := by
  obtain ⟨b, o, e, _, r1, r2⟩ := h.at hi
  obtain ⟨b', o', e', _, r3, r4⟩ := h.at hj
  rw [e] at e'
  cases e'
  exact ⟨b, o, e, r1, r2, r3, r4⟩
set_option maxHeartbeats 4000000 in
theorem rc_any {a a' : Option Addr} {n m c d : Nat} {L : List (Int × Int)} {os : List Int} {w : World} (hl : Hid (L.length = n)) (ho : Hid (os.length = m)) (hm : 1 ≤ m) (hm7 : m ≤ 7) (hs : Hid (Rt.allS L = true)) (hin : Hid (Rt.InB L os)) (ha : Hid (FRow w a L)) (hb : Hid (ARow w a' os)) :
    Calls Try.prog 40 #[.slice a n c, .slice a' m d] w fun e w' => e = .returned (.int .i64 (Rt.tour L os)) ∧ Below w.heap.size w w' := by
  obtain ⟨b', o', ea, r0⟩ := hb.out.at (i := m - 1) (by rw [ho.out]; omega)
  obtain ⟨z1, z2⟩ := hin.out.nth (i := m - 1) (by rw [ho.out]; omega)
  have z3 : Od.nth os (m - 1) < n := by rw [← hl.out]; exact z1
  rw [z2] at r0
  have e1 : ((m : Int) - 1) = ((m - 1 : Nat) : Int) := by omega
  subst ea
  have i0 : (0 : Int) ≤ ((m - 1 : Nat) : Int) := by omega
  have i1 : ((m - 1 : Nat) : Int) < (m : Int) := by omega
  generalize hfr : Od.nth os (m - 1) = fr at *
  have HFR := hide hfr
  clear z1 z2 hfr
  go_enter Try.func40, Try.ntmps40
  go_wp2_with fail
  go_loopw [5, 6, 8, 17] (fun s5 s6 _ s wr => ∃ (k f : Nat) (x : Int), s5 = .int .i64 x ∧ s6 = .int .i64 f ∧ s = .int .i64 k ∧ k ≤ m ∧ f < n ∧ Hid (f = if k = 0 then Od.nth os (m - 1) else Od.nth os (k - 1)) ∧ Hid (x = Rt.addI L os k) ∧ Below w.heap.size w wr) (fun _ _ _ s _ => m - (intOf s).toNat)
  case atStart => exact ⟨0, fr, 0, rfl, rfl, rfl, Nat.zero_le _, z3, hide (by simp [HFR.out]), hide rfl, Below.refl _ _⟩
  case round =>
    obtain ⟨k, f, x, rfl, rfl, rfl, hk, hf, HF, HX, hB⟩ := hrel
    clear r0 e1 i0 i1
    by_cases hlt : k < m
    · obtain ⟨b2, o2, ea, q0⟩ := (hb.out.below hB).at (i := k) (by rw [ho.out]; exact hlt)
      cases ea
      obtain ⟨y1, y2⟩ := hin.out.nth (i := k) (by rw [ho.out]; exact hlt)
      have y3 : Od.nth os k < n := by rw [← hl.out]; exact y1
      rw [y2] at q0
      have hxb := Rt.addI_bd hs.out hin.out (k := k) (by rw [ho.out]; omega)
      rw [← HX.out] at hxb
      obtain ⟨b, o, ea, c1, c2, c3, c4⟩ := two_stops (ha.out.below hB) (i := f) (j := Od.nth os k) (by rw [hl.out]; exact hf) y1
      subst ea
      have hwb := Rt.wy_bd hs.out (i := f) (j := Od.nth os k) (by rw [hl.out]; exact hf) y1
      have HST : Hid (x + Rt.wy L f (Od.nth os k) = Rt.addI L os (k + 1)) := hide (by
        rw [Rt.addI_step, HX.out, HF.out, ho.out])
      have HWT := hide fun (V : World) => wt_any (w := V) (Rt.allS_at hs.out (show f < L.length by rw [hl.out]; exact hf)) (Rt.allS_at hs.out y1)
      have HG : Hid (Od.nth os k = if k + 1 = 0 then Od.nth os (m - 1) else Od.nth os (k + 1 - 1)) := hide (by simp)
      unfold Rt.wy at HST hwb
      generalize Rt.way (L.getD f (0, 0)) (L.getD (Od.nth os k) (0, 0)) = Y at *
      generalize (L.getD f (0, 0)).1 = u1 at *
      generalize (L.getD f (0, 0)).2 = u2 at *
      generalize (L.getD (Od.nth os k) (0, 0)).1 = v1 at *
      generalize (L.getD (Od.nth os k) (0, 0)).2 = v2 at *
      generalize Od.nth os k = g at *
      have i0 : (0 : Int) ≤ (k : Int) := by omega
      have i1 : (k : Int) < (m : Int) := by omega
      have f0 : (0 : Int) ≤ (f : Int) := by omega
      have f1 : (f : Int) < (n : Int) := by omega
      have g0 : (0 : Int) ≤ (g : Int) := by omega
      have g1 : (g : Int) < (n : Int) := by omega
      have hx0 : 0 ≤ x := hxb.1
      have hx1 : x ≤ 700 := by omega
      have hy0 : 0 ≤ Y := hwb.1
      have hy1 : Y ≤ 100 := hwb.2
      have hwr : IntKind.i64.wrap (x + Y) = x + Y := by rw [IntKind.wrap_i64]; omega
      clear y1 y2 hxb hwb HX HF z3 HFR
      go_upto_region 6 with fail
      go_region_held3 (fun w' => w'.cell? ⟨b, o + f * 2, none⟩ = some (.int .i64 u1) ∧ w'.cell? ⟨b, o + f * 2 + 1, none⟩ = some (.int .i64 u2) ∧ w'.cell? ⟨b, o + g * 2, none⟩ = some (.int .i64 v1) ∧ w'.cell? ⟨b, o + g * 2 + 1, none⟩ = some (.int .i64 v2) ∧ Below w.heap.size w w') (first | exact rh_drew ⟨c1, c2, c3, c4, hB⟩ | assumption | exact rh_below ‹_› (by assumption))
        (first
        | (go_at_call 36; refine (HWT.out _).mono ?_; rintro e w1 ⟨rfl, hb1⟩))
      obtain ⟨_, _, _, _, hBz⟩ := ‹_ ∧ _ ∧ _ ∧ _ ∧ Below w.heap.size w _›
      go_wp2_with fail
      go_roundw
      case rel => exact ⟨k + 1, g, x + Y, rfl, rfl, by go_num, by omega, y3, HG, HST, hBz⟩
      case measure => simp only [intOf]; omega
    · have hke : k = m := by omega
      subst hke
      have HE : Hid (x = Rt.tour L os) := hide (by rw [HX.out]; exact Rt.addI_end ho.out hm)
      go_wp2_with fail
      go_ret
      exact ⟨ret_int HE.out, hB⟩
theorem rm_below {W w1 w2 : World} {b p q r s b2 p2 : Nat} {x y u v z : Value} (h : w1.cell? ⟨b, p, none⟩ = some x ∧ w1.cell? ⟨b, q, none⟩ = some y ∧ w1.cell? ⟨b, r, none⟩ = some u ∧ w1.cell? ⟨b, s, none⟩ = some v ∧ w1.cell? ⟨b2, p2, none⟩ = some z ∧ Below W.heap.size W w1) (hb : Below w1.heap.size w1 w2) :
    w2.cell? ⟨b, p, none⟩ = some x ∧ w2.cell? ⟨b, q, none⟩ = some y ∧ w2.cell? ⟨b, r, none⟩ = some u ∧ w2.cell? ⟨b, s, none⟩ = some v ∧ w2.cell? ⟨b2, p2, none⟩ = some z ∧ Below W.heap.size W w2 := by
  obtain ⟨h1, h2, h3, h4, h6, h5⟩ := h
  have hl := World.block_lt_of_cell? w1 _ h1
  have hl2 := World.block_lt_of_cell? w1 _ h6
  exact ⟨(hb.cell (p := ⟨b, p, none⟩) hl).trans h1, (hb.cell (p := ⟨b, q, none⟩) hl).trans h2, (hb.cell (p := ⟨b, r, none⟩) hl).trans h3, (hb.cell (p := ⟨b, s, none⟩) hl).trans h4, (hb.cell (p := ⟨b2, p2, none⟩) hl2).trans h6, h5.trans (hb.mono h5.size)⟩
theorem rm_drew {W w1 : World} {b p q r s b2 p2 : Nat} {x y u v z : Value} (h : w1.cell? ⟨b, p, none⟩ = some x ∧ w1.cell? ⟨b, q, none⟩ = some y ∧ w1.cell? ⟨b, r, none⟩ = some u ∧ w1.cell? ⟨b, s, none⟩ = some v ∧ w1.cell? ⟨b2, p2, none⟩ = some z ∧ Below W.heap.size W w1) :
    w1.drew.cell? ⟨b, p, none⟩ = some x ∧ w1.drew.cell? ⟨b, q, none⟩ = some y ∧ w1.drew.cell? ⟨b, r, none⟩ = some u ∧ w1.drew.cell? ⟨b, s, none⟩ = some v ∧ w1.drew.cell? ⟨b2, p2, none⟩ = some z ∧ Below W.heap.size W w1.drew := ⟨h.1, h.2.1, h.2.2.1, h.2.2.2.1, h.2.2.2.2.1, h.2.2.2.2.2.drew⟩
set_option maxHeartbeats 4000000 in
theorem src_any {a a' : Option Addr} {n m c d : Nat} {L : List (Int × Int)} {os : List Int} {w : World} (hl : Hid (L.length = n)) (ho : Hid (os.length = m)) (hm : 1 ≤ m) (hm7 : m ≤ 7) (hs : Hid (Rt.allS L = true)) (hin : Hid (Rt.InB L os)) (ha : Hid (FRow w a L)) (hb : Hid (ARow w a' os)) :
    Calls Try.prog 38 #[.slice a n c, .slice a' m d] w fun e w' => e = .returned (.int .i64 (Rt.tour L os)) ∧ Below w.heap.size w w' := by
  go_enter Try.func38, Try.ntmps38
  go_wp2_with fail
  go_loopw [5, 6, 7, 10] (fun s5 _ _ s wr => ∃ (k : Nat) (x : Int), s5 = .int .i64 x ∧ s = .int .i64 k ∧ k ≤ m ∧ Hid (x = Rt.addM L os m k) ∧ Below w.heap.size w wr) (fun _ _ _ s _ => m - (intOf s).toNat)
  case atStart => exact ⟨0, 0, rfl, rfl, Nat.zero_le _, hide rfl, Below.refl _ _⟩
  case round =>
    obtain ⟨k, x, rfl, rfl, hk, HX, hB⟩ := hrel
    by_cases hlt : k < m
    · have hj : (k + 1) % m < m := Nat.mod_lt _ (by omega)
      obtain ⟨b', o', ea, q0⟩ := (hb.out.below hB).at (i := k) (by rw [ho.out]; exact hlt)
      obtain ⟨b2, o2, ea2, q1⟩ := (hb.out.below hB).at (i := (k + 1) % m) (by rw [ho.out]; exact hj)
      subst ea
      cases ea2
      obtain ⟨y1, y2⟩ := hin.out.nth (i := k) (by rw [ho.out]; exact hlt)
      obtain ⟨y4, y5⟩ := hin.out.nth (i := (k + 1) % m) (by rw [ho.out]; exact hj)
      have y3 : Od.nth os k < n := by rw [← hl.out]; exact y1
      have y6 : Od.nth os ((k + 1) % m) < n := by rw [← hl.out]; exact y4
      rw [y2] at q0
      rw [y5] at q1
      have hxb := Rt.addM_bd hs.out hin.out ho.out k hk
      rw [← HX.out] at hxb
      obtain ⟨b, o, ea, c1, c2, c3, c4⟩ := two_stops (ha.out.below hB) (i := Od.nth os k) (j := Od.nth os ((k + 1) % m)) y1 y4
      subst ea
      have hwb := Rt.wy_bd hs.out y1 y4
      have HST : Hid (x + Rt.wy L (Od.nth os k) (Od.nth os ((k + 1) % m)) = Rt.addM L os m (k + 1)) := hide (by
        rw [HX.out]; rfl)
      have HWT := hide fun (V : World) => lw_any (w := V) (Rt.allS_at hs.out y1) (Rt.allS_at hs.out y4)
      unfold Rt.wy at HST hwb
      have hmod : ((k : Int) + 1) % (m : Int) = (((k + 1) % m : Nat) : Int) := by
        rw [Int.natCast_emod]; rfl
      generalize Rt.way (L.getD (Od.nth os k) (0, 0)) (L.getD (Od.nth os ((k + 1) % m)) (0, 0)) = Y at *
      generalize (L.getD (Od.nth os k) (0, 0)).1 = u1 at *
      generalize (L.getD (Od.nth os k) (0, 0)).2 = u2 at *
      generalize (L.getD (Od.nth os ((k + 1) % m)) (0, 0)).1 = v1 at *
      generalize (L.getD (Od.nth os ((k + 1) % m)) (0, 0)).2 = v2 at *
      generalize Od.nth os ((k + 1) % m) = g at *
      generalize Od.nth os k = f at *
      generalize hJ : (k + 1) % m = j at *
      have i0 : (0 : Int) ≤ (k : Int) := by omega
      have i1 : (k : Int) < (m : Int) := by omega
      have j0 : (0 : Int) ≤ (j : Int) := by omega
      have j1 : (j : Int) < (m : Int) := by omega
      have m0 : (m : Int) ≠ 0 := by omega
      have m0' : ¬ m = 0 := by omega
      have hwk : IntKind.i64.wrap ((k : Int) + 1) = (k : Int) + 1 := by rw [IntKind.wrap_i64]; omega
      have hwj : IntKind.i64.wrap (j : Int) = (j : Int) := by rw [IntKind.wrap_i64]; omega
      have htm : ((k : Int) + 1).tmod (m : Int) = (j : Int) := by rw [Int.tmod_eq_emod_of_nonneg (by omega)]; exact hmod
      have f0 : (0 : Int) ≤ (f : Int) := by omega
      have f1 : (f : Int) < (n : Int) := by omega
      have g0 : (0 : Int) ≤ (g : Int) := by omega
      have g1 : (g : Int) < (n : Int) := by omega
      have hx0 : 0 ≤ x := hxb.1
      have hx1 : x ≤ 700 := by omega
      have hy0 : 0 ≤ Y := hwb.1
      have hy1 : Y ≤ 100 := hwb.2
      have hwr : IntKind.i64.wrap (x + Y) = x + Y := by rw [IntKind.wrap_i64]; omega
      clear y1 y2 y4 y5 hxb hwb HX hJ
      go_upto_region 5 with fail
      go_region_held3 (fun w' => w'.cell? ⟨b, o + f * 2, none⟩ = some (.int .i64 u1) ∧ w'.cell? ⟨b, o + f * 2 + 1, none⟩ = some (.int .i64 u2) ∧ w'.cell? ⟨b, o + g * 2, none⟩ = some (.int .i64 v1) ∧ w'.cell? ⟨b, o + g * 2 + 1, none⟩ = some (.int .i64 v2) ∧ w'.cell? ⟨b', o' + j, none⟩ = some (.int .i64 g) ∧ Below w.heap.size w w') (first | exact rm_drew ⟨c1, c2, c3, c4, q1, hB⟩ | assumption | exact rm_below ‹_› (by assumption))
        (first
        | (go_at_call 35; refine (HWT.out _).mono ?_; rintro e w1 ⟨rfl, hb1⟩))
      obtain ⟨_, _, _, _, _, hBz⟩ := ‹_ ∧ _ ∧ _ ∧ _ ∧ _ ∧ Below w.heap.size w _›
      go_wp2_with fail
      go_roundw
      case rel => exact ⟨k + 1, x + Y, rfl, by go_num, by omega, HST, hBz⟩
      case measure => simp only [intOf]; omega
    · have hke : k = m := by omega
      subst hke
      have HE : Hid (x = Rt.tour L os) := hide (by rw [HX.out]; exact Rt.addM_end ho.out hm)
      go_wp2_with fail
      go_ret
      exact ⟨ret_int HE.out, hB⟩
set_option maxHeartbeats 1000000 in
theorem tc_w {a a' : Option Addr} {n m c d : Nat} {L : List (Int × Int)} {os : List Int} {w : World} (hl : L.length = n) (ho : os.length = m) (ha : FRow w a L) (hb : ARow w a' os) :
    Calls Try.prog 19 #[.slice a n c, .slice a' m d] w fun e w' => e = .returned (.tuple #[.int .i64 (Rt.tcI L os), .bool (Rt.tcB L os)]) ∧ Below w.heap.size w w' := by
  have HA := hide ha
  have HB := hide hb
  have HL := hide hl
  have HO := hide ho
  cases hg : Rt.stopsB L
  · have HR : Hid (0 = Rt.tcI L os ∧ false = Rt.tcB L os) := hide (by simp [Rt.tcI, Rt.tcB, hg])
    have HG := hide hg
    generalize Rt.tcI L os = R at *
    generalize Rt.tcB L os = G at *
    clear ha hb hl ho hg
    go_enter Try.func19, Try.ntmps19
    go_wp2_with fail
    refine (gst_eq HL HA HG).mono ?_
    rintro e w1 ⟨rfl, hb1⟩
    go_wp2_with fail
    go_ret2
    exact ⟨by rw [← HR.out.1, ← HR.out.2]; rfl, hb1⟩
  · obtain ⟨s1, s2⟩ := Rt.stops_len hg
    have hn7 : n ≤ 7 := by omega
    cases hd : Od.ordB os L.length
    · have HR : Hid (0 = Rt.tcI L os ∧ false = Rt.tcB L os) := hide (by simp [Rt.tcI, Rt.tcB, hg, hd])
      have HG := hide hg
      rw [hl] at hd
      have HD := hide hd
      generalize Rt.tcI L os = R at *
      generalize Rt.tcB L os = G at *
      clear ha hb hl ho hg hd s1 s2
      go_enter Try.func19, Try.ntmps19
      go_wp2_with fail
      refine (gst_eq HL HA HG).mono ?_
      rintro e w1 ⟨rfl, hb1⟩
      have B1 := hide hb1
      clear hb1
      go_wp2_with fail
      refine (eo_eq HO (by omega) (hide (HB.out.below B1.out)) HD).mono ?_
      rintro e w2 ⟨rfl, hb2⟩
      have B2 := hide (B1.out.trans (hb2.mono B1.out.size))
      clear hb2
      go_wp2_with fail
      go_ret2
      exact ⟨by rw [← HR.out.1, ← HR.out.2]; rfl, B2.out⟩
    · have hom := Od.ordB_len hd
      have HR : Hid (Rt.tour L os = Rt.tcI L os ∧ true = Rt.tcB L os) := hide (by simp [Rt.tcI, Rt.tcB, hg, hd])
      have HRC := hide fun (W : World) (h : Below w.heap.size w W) => rc_any (w := W) (c := c) (d := d) HL HO (by omega) (by omega) (hide (Rt.stops_all hg)) (hide (Rt.ord_in hd)) (hide (ha.below h)) (hide (hb.below h))
      have HG := hide hg
      rw [hl] at hd
      have HD := hide hd
      generalize Rt.tcI L os = R at *
      generalize Rt.tcB L os = G at *
      generalize Rt.tour L os = Y at *
      clear ha hb hl ho hg hd s1 s2 hom
      go_enter Try.func19, Try.ntmps19
      go_wp2_with fail
      refine (gst_eq HL HA HG).mono ?_
      rintro e w1 ⟨rfl, hb1⟩
      have B1 := hide hb1
      clear hb1
      go_wp2_with fail
      refine (eo_eq HO (by omega) (hide (HB.out.below B1.out)) HD).mono ?_
      rintro e w2 ⟨rfl, hb2⟩
      have B2 := hide (B1.out.trans (hb2.mono B1.out.size))
      clear hb2 B1
      go_wp2_with fail
      refine (HRC.out _ B2.out).mono ?_
      rintro e w3 ⟨rfl, hb3⟩
      have B3 := hide (B2.out.trans (hb3.mono B2.out.size))
      clear hb3 B2
      go_wp2_with fail
      go_ret2
      exact ⟨by rw [← HR.out.1, ← HR.out.2]; rfl, B3.out⟩
set_option maxHeartbeats 1000000 in
theorem stc_w {a a' : Option Addr} {n m c d : Nat} {L : List (Int × Int)} {os : List Int} {w : World} (hl : L.length = n) (hn : n ≤ 1048576) (ho : os.length = m) (hd' : m ≤ d) (ha : FRow w a L) (hb : ARow w a' os) :
    Calls Try.prog 17 #[.slice a n c, .slice a' m d] w fun e w' => e = .returned (.tuple #[.int .i64 (Rt.tcI L os), .bool (Rt.tcB L os)]) ∧ Below w.heap.size w w' := by
  have HA := hide ha
  have HB := hide hb
  have HL := hide hl
  have HO := hide ho
  cases hg : Rt.stopsB L
  · have HR : Hid (0 = Rt.tcI L os ∧ false = Rt.tcB L os) := hide (by simp [Rt.tcI, Rt.tcB, hg])
    have HG := hide hg
    generalize Rt.tcI L os = R at *
    generalize Rt.tcB L os = G at *
    clear ha hb hl ho hg
    go_enter Try.func17, Try.ntmps17
    go_wp2_with fail
    refine (sgst_eq HL hn HA HG).mono ?_
    rintro e w1 ⟨rfl, hb1⟩
    go_wp2_with fail
    go_ret2
    exact ⟨by rw [← HR.out.1, ← HR.out.2]; rfl, hb1⟩
  · obtain ⟨s1, s2⟩ := Rt.stops_len hg
    have hn7 : n ≤ 7 := by omega
    cases hd : Od.ordB os L.length
    · have HR : Hid (0 = Rt.tcI L os ∧ false = Rt.tcB L os) := hide (by simp [Rt.tcI, Rt.tcB, hg, hd])
      have HG := hide hg
      rw [hl] at hd
      have HD := hide hd
      generalize Rt.tcI L os = R at *
      generalize Rt.tcB L os = G at *
      clear ha hb hl ho hg hd s1 s2
      go_enter Try.func17, Try.ntmps17
      go_wp2_with fail
      refine (sgst_eq HL hn HA HG).mono ?_
      rintro e w1 ⟨rfl, hb1⟩
      have B1 := hide hb1
      clear hb1
      go_wp2_with fail
      refine (seo_eq HO (by omega) hd' (hide (HB.out.below B1.out)) HD).mono ?_
      rintro e w2 ⟨rfl, hw2⟩
      obtain rfl : w1 = w2 := hw2.symm
      go_wp2_with fail
      go_ret2
      exact ⟨by rw [← HR.out.1, ← HR.out.2]; rfl, B1.out⟩
    · have hom := Od.ordB_len hd
      have HR : Hid (Rt.tour L os = Rt.tcI L os ∧ true = Rt.tcB L os) := hide (by simp [Rt.tcI, Rt.tcB, hg, hd])
      have HRC := hide fun (W : World) (h : Below w.heap.size w W) => src_any (w := W) (c := c) (d := d) HL HO (by omega) (by omega) (hide (Rt.stops_all hg)) (hide (Rt.ord_in hd)) (hide (ha.below h)) (hide (hb.below h))
      have HG := hide hg
      rw [hl] at hd
      have HD := hide hd
      generalize Rt.tcI L os = R at *
      generalize Rt.tcB L os = G at *
      generalize Rt.tour L os = Y at *
      clear ha hb hl ho hg hd s1 s2 hom
      go_enter Try.func17, Try.ntmps17
      go_wp2_with fail
      refine (sgst_eq HL hn HA HG).mono ?_
      rintro e w1 ⟨rfl, hb1⟩
      have B1 := hide hb1
      clear hb1
      go_wp2_with fail
      refine (seo_eq HO (by omega) hd' (hide (HB.out.below B1.out)) HD).mono ?_
      rintro e w2 ⟨rfl, hw2⟩
      obtain rfl : w1 = w2 := hw2.symm
      go_wp2_with fail
      refine (HRC.out _ B1.out).mono ?_
      rintro e w3 ⟨rfl, hb3⟩
      have B3 := hide (B1.out.trans (hb3.mono B1.out.size))
      clear hb3 B1
      go_wp2_with fail
      go_ret2
      exact ⟨by rw [← HR.out.1, ← HR.out.2]; rfl, B3.out⟩
end Go.Proofs.Ytkiadodoehcbmaa
