/-
  What OnWay of the program and of the model answers, in one word.
-/
import Derived.Test.YtphfcephinnkoaaRd11
import Derived.Deep.RegionHeld3
import Derived.Deep.DeepCutAuto
namespace Go.Proofs.Ytphfcephinnkoaa
open Go.RowKit

/-- Three spots in boxes. -/
def Bx3 (w W V : World) (x y u v p q : Int) : Prop := V.cell? ⟨w.heap.size, 0, none⟩ = some (.int .i64 x) ∧ V.cell? ⟨w.heap.size, 1, none⟩ = some (.int .i64 y) ∧ V.cell? ⟨w.heap.size + 1, 0, none⟩ = some (.int .i64 u) ∧ V.cell? ⟨w.heap.size + 1, 1, none⟩ = some (.int .i64 v) ∧ V.cell? ⟨w.heap.size + 2, 0, none⟩ = some (.int .i64 p) ∧ V.cell? ⟨w.heap.size + 2, 1, none⟩ = some (.int .i64 q) ∧ Below W.heap.size W V
theorem bx3_below {w W V V' : World} {x y u v p q : Int} (h : V.cell? ⟨w.heap.size, 0, none⟩ = some (.int .i64 x) ∧ V.cell? ⟨w.heap.size, 1, none⟩ = some (.int .i64 y) ∧ V.cell? ⟨w.heap.size + 1, 0, none⟩ = some (.int .i64 u) ∧ V.cell? ⟨w.heap.size + 1, 1, none⟩ = some (.int .i64 v) ∧ V.cell? ⟨w.heap.size + 2, 0, none⟩ = some (.int .i64 p) ∧ V.cell? ⟨w.heap.size + 2, 1, none⟩ = some (.int .i64 q) ∧ Below W.heap.size W V) (hb : Below V.heap.size V V') :
    V'.cell? ⟨w.heap.size, 0, none⟩ = some (.int .i64 x) ∧ V'.cell? ⟨w.heap.size, 1, none⟩ = some (.int .i64 y) ∧ V'.cell? ⟨w.heap.size + 1, 0, none⟩ = some (.int .i64 u) ∧ V'.cell? ⟨w.heap.size + 1, 1, none⟩ = some (.int .i64 v) ∧ V'.cell? ⟨w.heap.size + 2, 0, none⟩ = some (.int .i64 p) ∧ V'.cell? ⟨w.heap.size + 2, 1, none⟩ = some (.int .i64 q) ∧ Below W.heap.size W V' := by
  obtain ⟨h1, h2, h3, h4, h5, h6, h7⟩ := h
  have l1 := World.block_lt_of_cell? V _ h1
  have l3 := World.block_lt_of_cell? V _ h3
  have l5 := World.block_lt_of_cell? V _ h5
  exact ⟨(hb.cell (p := ⟨w.heap.size, 0, none⟩) l1).trans h1, (hb.cell (p := ⟨w.heap.size, 1, none⟩) l1).trans h2, (hb.cell (p := ⟨w.heap.size + 1, 0, none⟩) l3).trans h3, (hb.cell (p := ⟨w.heap.size + 1, 1, none⟩) l3).trans h4, (hb.cell (p := ⟨w.heap.size + 2, 0, none⟩) l5).trans h5, (hb.cell (p := ⟨w.heap.size + 2, 1, none⟩) l5).trans h6, h7.trans (hb.mono h7.size)⟩
theorem bx3_drew {w W V : World} {x y u v p q : Int} (h : V.cell? ⟨w.heap.size, 0, none⟩ = some (.int .i64 x) ∧ V.cell? ⟨w.heap.size, 1, none⟩ = some (.int .i64 y) ∧ V.cell? ⟨w.heap.size + 1, 0, none⟩ = some (.int .i64 u) ∧ V.cell? ⟨w.heap.size + 1, 1, none⟩ = some (.int .i64 v) ∧ V.cell? ⟨w.heap.size + 2, 0, none⟩ = some (.int .i64 p) ∧ V.cell? ⟨w.heap.size + 2, 1, none⟩ = some (.int .i64 q) ∧ Below W.heap.size W V) :
    V.drew.cell? ⟨w.heap.size, 0, none⟩ = some (.int .i64 x) ∧ V.drew.cell? ⟨w.heap.size, 1, none⟩ = some (.int .i64 y) ∧ V.drew.cell? ⟨w.heap.size + 1, 0, none⟩ = some (.int .i64 u) ∧ V.drew.cell? ⟨w.heap.size + 1, 1, none⟩ = some (.int .i64 v) ∧ V.drew.cell? ⟨w.heap.size + 2, 0, none⟩ = some (.int .i64 p) ∧ V.drew.cell? ⟨w.heap.size + 2, 1, none⟩ = some (.int .i64 q) ∧ Below W.heap.size W V.drew := bx3_below h ((Below.refl _ _).drew)
def w3 (w : World) (s t u : Int × Int) (ty : TypeId) : World := ((w.alloc (.cells #[.int .i64 s.1, .int .i64 s.2] ty)).alloc (.cells #[.int .i64 t.1, .int .i64 t.2] ty)).alloc (.cells #[.int .i64 u.1, .int .i64 u.2] ty)
theorem w3_bx (w : World) (s t u : Int × Int) (ty : TypeId) : Bx3 w w (w3 w s t u ty) s.1 s.2 t.1 t.2 u.1 u.2 := by
  unfold w3
  have c0 : ((w.alloc (.cells #[.int .i64 s.1, .int .i64 s.2] ty)).alloc (.cells #[.int .i64 t.1, .int .i64 t.2] ty)).cell? ⟨w.heap.size, 0, none⟩ = some (.int .i64 s.1) := by simp
  have c1 : ((w.alloc (.cells #[.int .i64 s.1, .int .i64 s.2] ty)).alloc (.cells #[.int .i64 t.1, .int .i64 t.2] ty)).cell? ⟨w.heap.size, 1, none⟩ = some (.int .i64 s.2) := by simp
  have c2 : ((w.alloc (.cells #[.int .i64 s.1, .int .i64 s.2] ty)).alloc (.cells #[.int .i64 t.1, .int .i64 t.2] ty)).cell? ⟨w.heap.size + 1, 0, none⟩ = some (.int .i64 t.1) := by simp
  have c3 : ((w.alloc (.cells #[.int .i64 s.1, .int .i64 s.2] ty)).alloc (.cells #[.int .i64 t.1, .int .i64 t.2] ty)).cell? ⟨w.heap.size + 1, 1, none⟩ = some (.int .i64 t.2) := by simp
  have hsz : ((w.alloc (.cells #[.int .i64 s.1, .int .i64 s.2] ty)).alloc (.cells #[.int .i64 t.1, .int .i64 t.2] ty)).heap.size = w.heap.size + 2 := by simp
  have hB := below_two w (.cells #[.int .i64 s.1, .int .i64 s.2] ty) (.cells #[.int .i64 t.1, .int .i64 t.2] ty)
  generalize (w.alloc (.cells #[.int .i64 s.1, .int .i64 s.2] ty)).alloc (.cells #[.int .i64 t.1, .int .i64 t.2] ty) = W at *
  have hb := below_alloc W (.cells #[.int .i64 u.1, .int .i64 u.2] ty)
  have l1 := World.block_lt_of_cell? W _ c0
  have l3 := World.block_lt_of_cell? W _ c2
  refine ⟨(hb.cell (p := ⟨w.heap.size, 0, none⟩) l1).trans c0, (hb.cell (p := ⟨w.heap.size, 1, none⟩) l1).trans c1, (hb.cell (p := ⟨w.heap.size + 1, 0, none⟩) l3).trans c2, (hb.cell (p := ⟨w.heap.size + 1, 1, none⟩) l3).trans c3, ?_, ?_, hB.trans (hb.mono hB.size)⟩
  · rw [← hsz]; simp
  · rw [← hsz]; simp
theorem wt_xy {x y u v : Int} {w : World} (hs : Rt.spotB (x, y) = true) (ht : Rt.spotB (u, v) = true) :
    Calls Try.prog 44 #[.agg #[.int .i64 x, .int .i64 y], .agg #[.int .i64 u, .int .i64 v]] w fun e w' => e = .returned (.int .i64 (Rt.way (x, y) (u, v))) ∧ Below w.heap.size w w' := wt_any hs ht
theorem lw_xy {x y u v : Int} {w : World} (hs : Rt.spotB (x, y) = true) (ht : Rt.spotB (u, v) = true) :
    Calls Try.prog 45 #[.agg #[.int .i64 x, .int .i64 y], .agg #[.int .i64 u, .int .i64 v]] w fun e w' => e = .returned (.int .i64 (Rt.way (x, y) (u, v))) ∧ Below w.heap.size w w' := lw_any hs ht
theorem as_three {W : World} {s t u : Int × Int} {ty : TypeId} {r : Bool} (h : Hid (Rt.owB s t u = r)) :
    Calls Try.prog 32 #[.slice (some ⟨W.heap.size, 0, none⟩) 3 3] (W.alloc (.cells #[.int .i64 s.1, .int .i64 s.2, .int .i64 t.1, .int .i64 t.2, .int .i64 u.1, .int .i64 u.2] ty)) fun e w' => e = .returned (.bool r) ∧ Below W.heap.size W w' := by
  refine (as_eq (L := [s, t, u]) (n := 3) (c := 3) (hide rfl) (by omega) (hide (frow_three W s t u ty)) (hide ((Rt.all_three s t u).trans h.out))).mono ?_
  rintro e w' ⟨rfl, hb⟩
  have h1 := below_new W (.cells #[.int .i64 s.1, .int .i64 s.2, .int .i64 t.1, .int .i64 t.2, .int .i64 u.1, .int .i64 u.2] ty)
  exact ⟨rfl, h1.trans (hb.mono h1.size)⟩
set_option maxRecDepth 100000 in
set_option maxHeartbeats 2000000 in
theorem ow_w (s t z : Int × Int) (w : World) :
    Calls Try.prog 17 #[.agg #[.int .i64 s.1, .int .i64 s.2], .agg #[.int .i64 t.1, .int .i64 t.2], .agg #[.int .i64 z.1, .int .i64 z.2]] w fun e w' => e = .returned (.tuple #[.bool (Rt.owI s t z), .bool (Rt.owB s t z)]) ∧ Below w.heap.size w w' := by
  have hbx := w3_bx w s t z 35
  obtain ⟨W, hW⟩ : ∃ W, w3 w s t z 35 = W := ⟨_, rfl⟩
  rw [hW] at hbx
  unfold w3 at hW
  have HW := hide hW
  have HBX := hide hbx
  obtain ⟨G, hG⟩ : ∃ G, Rt.owB s t z = G := ⟨_, rfl⟩
  have HG := hide hG
  have HAT := hide fun (ty : TypeId) => as_three (W := W) (ty := ty) HG
  have hsp : G = true → Rt.spotB s = true ∧ Rt.spotB t = true ∧ Rt.spotB z = true := fun h => by rw [h] at hG; simpa [Rt.owB, Bool.and_eq_true] using hG
  have HSP := hide hsp
  have HBD := hide fun (h : G = true) => (And.intro (Rt.way_bd (hsp h).1 (hsp h).2.1) (Rt.way_bd (hsp h).2.1 (hsp h).2.2) : _ ∧ _)
  have HI : Hid (Rt.owI s t z = (G && decide (Rt.way s t + Rt.way t z = Rt.way s z))) := hide (by unfold Rt.owI; rw [hG])
  rw [hG]
  generalize Rt.owI s t z = R at *
  clear hW hG hbx hsp
  obtain ⟨x, y⟩ := s
  obtain ⟨u, v⟩ := t
  obtain ⟨p, q⟩ := z
  simp only at *
  go_enter Try.func17, Try.ntmps17
  go_upto_region 1 with fail
  rw [HW.out]
  clear HW
  obtain ⟨c0, c1, c2, c3, c4, c5, hB⟩ := HBX.out
  cases G
  · have HR : Hid (false = R) := hide (by rw [HI.out]; rfl)
    go_wp2_with fail
    refine (HAT.out _).mono ?_
    rintro e w2 ⟨rfl, hb2⟩
    have HB2 := hide (hB.trans (hb2.mono hB.size))
    clear hb2
    go_wp2_with fail
    go_ret2
    exact ⟨by rw [← HR.out]; rfl, HB2.out⟩
  · have HR : Hid ((Rt.way (x, y) (u, v) + Rt.way (u, v) (p, q) == Rt.way (x, y) (p, q)) = R) := hide (by rw [HI.out]; by_cases h : Rt.way (x, y) (u, v) + Rt.way (u, v) (p, q) = Rt.way (x, y) (p, q) <;> simp [h])
    obtain ⟨⟨n0, n1⟩, n2, n3⟩ := HBD.out rfl
    obtain ⟨sp1, sp2, sp3⟩ := HSP.out rfl
    have hwr : IntKind.i64.wrap (Rt.way (x, y) (u, v) + Rt.way (u, v) (p, q)) = Rt.way (x, y) (u, v) + Rt.way (u, v) (p, q) := by rw [IntKind.wrap_i64]; omega
    have SP1 := hide sp1
    have SP2 := hide sp2
    have SP3 := hide sp3
    clear HI HBD HSP sp1 sp2 sp3
    go_wp2_with fail
    refine (HAT.out _).mono ?_
    rintro e w2 ⟨rfl, hb2⟩
    obtain ⟨d0, d1, d2, d3, d4, d5, hB2⟩ := bx3_below HBX.out hb2
    clear hb2 c0 c1 c2 c3 c4 c5 hB HBX HAT
    go_upto_region 3 with fail
    go_region_held3 (fun V => V.cell? ⟨w.heap.size, 0, none⟩ = some (.int .i64 x) ∧ V.cell? ⟨w.heap.size, 1, none⟩ = some (.int .i64 y) ∧ V.cell? ⟨w.heap.size + 1, 0, none⟩ = some (.int .i64 u) ∧ V.cell? ⟨w.heap.size + 1, 1, none⟩ = some (.int .i64 v) ∧ V.cell? ⟨w.heap.size + 2, 0, none⟩ = some (.int .i64 p) ∧ V.cell? ⟨w.heap.size + 2, 1, none⟩ = some (.int .i64 q) ∧ Below w.heap.size w V) (first | exact bx3_drew ⟨d0, d1, d2, d3, d4, d5, hB2⟩ | assumption | exact bx3_below ‹_› (by assumption))
      (first
      | (go_at_call 44; refine (wt_xy (by first | exact SP1.out | exact SP2.out) (by first | exact SP2.out | exact SP3.out)).mono ?_; rintro e w1 ⟨rfl, hb1⟩))
    obtain ⟨_, _, _, _, _, _, hBz⟩ := ‹_ ∧ _ ∧ _ ∧ _ ∧ _ ∧ _ ∧ Below w.heap.size w _›
    go_wp2_with fail
    go_ret2
    exact ⟨by rw [← HR.out]; rfl, hBz⟩
set_option maxRecDepth 100000 in
set_option maxHeartbeats 2000000 in
theorem sow_w (s t z : Int × Int) (w : World) :
    Calls Try.prog 18 #[.agg #[.int .i64 s.1, .int .i64 s.2], .agg #[.int .i64 t.1, .int .i64 t.2], .agg #[.int .i64 z.1, .int .i64 z.2]] w fun e w' => e = .returned (.tuple #[.bool (Rt.owI s t z), .bool (Rt.owB s t z)]) ∧ Below w.heap.size w w' := by
  have hbx := w3_bx w s t z 35
  obtain ⟨W, hW⟩ : ∃ W, w3 w s t z 35 = W := ⟨_, rfl⟩
  rw [hW] at hbx
  unfold w3 at hW
  have HW := hide hW
  have HBX := hide hbx
  have HG : Hid (Rt.owB s t z = (Rt.spotB s && (Rt.spotB t && Rt.spotB z))) := hide rfl
  have HI : Hid (Rt.owI s t z = (Rt.owB s t z && decide (Rt.way s t + Rt.way t z = Rt.way s z))) := hide rfl
  generalize Rt.owI s t z = R at *
  generalize Rt.owB s t z = G at *
  clear hW hbx
  obtain ⟨x, y⟩ := s
  obtain ⟨u, v⟩ := t
  obtain ⟨p, q⟩ := z
  simp only at *
  go_enter Try.func18, Try.ntmps18
  go_upto_region 1 with fail
  rw [HW.out]
  clear HW
  obtain ⟨c0, c1, c2, c3, c4, c5, hB⟩ := HBX.out
  cases e1 : Rt.spotB (x, y)
  · have HR : Hid (false = R ∧ false = G) := hide (by rw [HI.out, HG.out]; simp [e1])
    have E1 := hide e1
    clear e1
    go_wp2_with fail
    refine (ls_eq E1).mono ?_
    rintro e w2 ⟨rfl, hb2⟩
    have HB2 := hide (hB.trans (hb2.mono hB.size))
    clear hb2
    go_wp2_with fail
    go_ret2
    exact ⟨by rw [← HR.out.1, ← HR.out.2]; rfl, HB2.out⟩
  · cases e2 : Rt.spotB (u, v)
    · have HR : Hid (false = R ∧ false = G) := hide (by rw [HI.out, HG.out]; simp [e2])
      have E1 := hide e1
      have E2 := hide e2
      clear e1 e2
      go_wp2_with fail
      refine (ls_eq E1).mono ?_
      rintro e w2 ⟨rfl, hb2⟩
      obtain ⟨d0, d1, d2, d3, d4, d5, hB2⟩ := bx3_below HBX.out hb2
      clear hb2 c0 c1 c2 c3 c4 c5 hB HBX
      go_wp2_with fail
      refine (ls_eq E2).mono ?_
      rintro e w3' ⟨rfl, hb3⟩
      have HB3 := hide (hB2.trans (hb3.mono hB2.size))
      clear hb3
      go_wp2_with fail
      go_ret2
      exact ⟨by rw [← HR.out.1, ← HR.out.2]; rfl, HB3.out⟩
    · cases e3 : Rt.spotB (p, q)
      · have HR : Hid (false = R ∧ false = G) := hide (by rw [HI.out, HG.out]; simp [e3])
        have E1 := hide e1
        have E2 := hide e2
        have E3 := hide e3
        clear e1 e2 e3
        go_wp2_with fail
        refine (ls_eq E1).mono ?_
        rintro e w2 ⟨rfl, hb2⟩
        obtain ⟨d0, d1, d2, d3, d4, d5, hB2⟩ := bx3_below HBX.out hb2
        clear hb2 c0 c1 c2 c3 c4 c5 hB HBX
        go_wp2_with fail
        refine (ls_eq E2).mono ?_
        rintro e w3' ⟨rfl, hb3⟩
        obtain ⟨f0, f1, f2, f3, f4, f5, hB3⟩ := bx3_below (W := w) ⟨d0, d1, d2, d3, d4, d5, hB2⟩ hb3
        clear hb3 d0 d1 d2 d3 d4 d5 hB2
        go_wp2_with fail
        refine (ls_eq E3).mono ?_
        rintro e w4 ⟨rfl, hb4⟩
        have HB4 := hide (hB3.trans (hb4.mono hB3.size))
        clear hb4
        go_wp2_with fail
        go_ret2
        exact ⟨by rw [← HR.out.1, ← HR.out.2]; rfl, HB4.out⟩
      · have HR : Hid ((Rt.way (x, y) (u, v) + Rt.way (u, v) (p, q) == Rt.way (x, y) (p, q)) = R ∧ true = G) := hide (by rw [HI.out, HG.out]; by_cases h : Rt.way (x, y) (u, v) + Rt.way (u, v) (p, q) = Rt.way (x, y) (p, q) <;> simp [h, e1, e2, e3])
        obtain ⟨n0, n1⟩ := Rt.way_bd e1 e2
        obtain ⟨n2, n3⟩ := Rt.way_bd e2 e3
        have hwr : IntKind.i64.wrap (Rt.way (x, y) (u, v) + Rt.way (u, v) (p, q)) = Rt.way (x, y) (u, v) + Rt.way (u, v) (p, q) := by rw [IntKind.wrap_i64]; omega
        have SP1 := hide e1
        have SP2 := hide e2
        have SP3 := hide e3
        clear e1 e2 e3 HI HG
        go_wp2_with fail
        refine (ls_eq SP1).mono ?_
        rintro e w2 ⟨rfl, hb2⟩
        obtain ⟨d0, d1, d2, d3, d4, d5, hB2⟩ := bx3_below HBX.out hb2
        clear hb2 c0 c1 c2 c3 c4 c5 hB HBX
        go_wp2_with fail
        refine (ls_eq SP2).mono ?_
        rintro e w3' ⟨rfl, hb3⟩
        obtain ⟨f0, f1, f2, f3, f4, f5, hB3⟩ := bx3_below (W := w) ⟨d0, d1, d2, d3, d4, d5, hB2⟩ hb3
        clear hb3 d0 d1 d2 d3 d4 d5 hB2
        go_wp2_with fail
        refine (ls_eq SP3).mono ?_
        rintro e w4 ⟨rfl, hb4⟩
        obtain ⟨g0, g1, g2, g3, g4, g5, hB4⟩ := bx3_below (W := w) ⟨f0, f1, f2, f3, f4, f5, hB3⟩ hb4
        clear hb4 f0 f1 f2 f3 f4 f5 hB3
        go_upto_region 3 with fail
        go_region_held3 (fun V => V.cell? ⟨w.heap.size, 0, none⟩ = some (.int .i64 x) ∧ V.cell? ⟨w.heap.size, 1, none⟩ = some (.int .i64 y) ∧ V.cell? ⟨w.heap.size + 1, 0, none⟩ = some (.int .i64 u) ∧ V.cell? ⟨w.heap.size + 1, 1, none⟩ = some (.int .i64 v) ∧ V.cell? ⟨w.heap.size + 2, 0, none⟩ = some (.int .i64 p) ∧ V.cell? ⟨w.heap.size + 2, 1, none⟩ = some (.int .i64 q) ∧ Below w.heap.size w V) (first | exact bx3_drew ⟨g0, g1, g2, g3, g4, g5, hB4⟩ | assumption | exact bx3_below ‹_› (by assumption))
          (first
          | (go_at_call 45; refine (lw_xy (by first | exact SP1.out | exact SP2.out) (by first | exact SP2.out | exact SP3.out)).mono ?_; rintro e w1 ⟨rfl, hb1⟩))
        obtain ⟨_, _, _, _, _, _, hBz⟩ := ‹_ ∧ _ ∧ _ ∧ _ ∧ _ ∧ _ ∧ Below w.heap.size w _›
        go_wp2_with fail
        go_ret2
        exact ⟨by rw [← HR.out.1, ← HR.out.2]; rfl, hBz⟩
end Go.Proofs.Ytphfcephinnkoaa
