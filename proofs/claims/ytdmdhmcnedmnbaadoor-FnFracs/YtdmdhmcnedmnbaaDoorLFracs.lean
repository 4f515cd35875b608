/-
  The law on fractions: its own walk, out of what the functions answer.
-/
import Derived.Test.YtdmdhmcnedmnbaaDoorLFb
namespace Go.Proofs.YtdmdhmcnedmnbaaDoor
open Go.RowKit

theorem pf_of {W0 w' : World} {p9 p8 p7 p6 p5 p4 p3 p2 pb pa : Nat} {n1 d1 n2 d2 sN sD dN dD pN pD qN qD : Int} (hV : Vs W0 [(p9, qN, qD), (p8, qN, qD), (p7, pN, pD), (p6, pN, pD), (p5, dN, dD), (p4, dN, dD), (p3, sN, sD), (p2, sN, sD), (pb, n2, d2), (pa, n1, d1)]) (hB : Below W0.heap.size W0 w') :
    w'.cell? ⟨p9, 0, none⟩ = some (.int .i64 qN) ∧ w'.cell? ⟨p9, 1, none⟩ = some (.int .i64 qD) ∧ w'.cell? ⟨p8, 0, none⟩ = some (.int .i64 qN) ∧ w'.cell? ⟨p8, 1, none⟩ = some (.int .i64 qD) ∧ w'.cell? ⟨p7, 0, none⟩ = some (.int .i64 pN) ∧ w'.cell? ⟨p7, 1, none⟩ = some (.int .i64 pD) ∧ w'.cell? ⟨p6, 0, none⟩ = some (.int .i64 pN) ∧ w'.cell? ⟨p6, 1, none⟩ = some (.int .i64 pD) ∧ w'.cell? ⟨p5, 0, none⟩ = some (.int .i64 dN) ∧ w'.cell? ⟨p5, 1, none⟩ = some (.int .i64 dD) ∧ w'.cell? ⟨p4, 0, none⟩ = some (.int .i64 dN) ∧ w'.cell? ⟨p4, 1, none⟩ = some (.int .i64 dD) ∧ w'.cell? ⟨p3, 0, none⟩ = some (.int .i64 sN) ∧ w'.cell? ⟨p3, 1, none⟩ = some (.int .i64 sD) ∧ w'.cell? ⟨p2, 0, none⟩ = some (.int .i64 sN) ∧ w'.cell? ⟨p2, 1, none⟩ = some (.int .i64 sD) ∧ w'.cell? ⟨pa, 0, none⟩ = some (.int .i64 n1) ∧ w'.cell? ⟨pa, 1, none⟩ = some (.int .i64 d1) ∧ Below W0.heap.size W0 w' := by
  have h := hV.below hB
  have k0 := h.at (p := p9) (n := qN) (d := qD) (by simp)
  have k1 := h.at (p := p8) (n := qN) (d := qD) (by simp)
  have k2 := h.at (p := p7) (n := pN) (d := pD) (by simp)
  have k3 := h.at (p := p6) (n := pN) (d := pD) (by simp)
  have k4 := h.at (p := p5) (n := dN) (d := dD) (by simp)
  have k5 := h.at (p := p4) (n := dN) (d := dD) (by simp)
  have k6 := h.at (p := p3) (n := sN) (d := sD) (by simp)
  have k7 := h.at (p := p2) (n := sN) (d := sD) (by simp)
  have k9 := h.at (p := pa) (n := n1) (d := d1) (by simp)
  exact ⟨k0.2.1, k0.2.2, k1.2.1, k1.2.2, k2.2.1, k2.2.2, k3.2.1, k3.2.2, k4.2.1, k4.2.2, k5.2.1, k5.2.2, k6.2.1, k6.2.2, k7.2.1, k7.2.2, k9.2.1, k9.2.2, hB⟩
theorem pf_held {W0 w1 w2 : World} {p9 p8 p7 p6 p5 p4 p3 p2 pb pa : Nat} {n1 d1 n2 d2 sN sD dN dD pN pD qN qD : Int} (hV : Vs W0 [(p9, qN, qD), (p8, qN, qD), (p7, pN, pD), (p6, pN, pD), (p5, dN, dD), (p4, dN, dD), (p3, sN, sD), (p2, sN, sD), (pb, n2, d2), (pa, n1, d1)])
    (s : w1.cell? ⟨p9, 0, none⟩ = some (.int .i64 qN) ∧ w1.cell? ⟨p9, 1, none⟩ = some (.int .i64 qD) ∧ w1.cell? ⟨p8, 0, none⟩ = some (.int .i64 qN) ∧ w1.cell? ⟨p8, 1, none⟩ = some (.int .i64 qD) ∧ w1.cell? ⟨p7, 0, none⟩ = some (.int .i64 pN) ∧ w1.cell? ⟨p7, 1, none⟩ = some (.int .i64 pD) ∧ w1.cell? ⟨p6, 0, none⟩ = some (.int .i64 pN) ∧ w1.cell? ⟨p6, 1, none⟩ = some (.int .i64 pD) ∧ w1.cell? ⟨p5, 0, none⟩ = some (.int .i64 dN) ∧ w1.cell? ⟨p5, 1, none⟩ = some (.int .i64 dD) ∧ w1.cell? ⟨p4, 0, none⟩ = some (.int .i64 dN) ∧ w1.cell? ⟨p4, 1, none⟩ = some (.int .i64 dD) ∧ w1.cell? ⟨p3, 0, none⟩ = some (.int .i64 sN) ∧ w1.cell? ⟨p3, 1, none⟩ = some (.int .i64 sD) ∧ w1.cell? ⟨p2, 0, none⟩ = some (.int .i64 sN) ∧ w1.cell? ⟨p2, 1, none⟩ = some (.int .i64 sD) ∧ w1.cell? ⟨pa, 0, none⟩ = some (.int .i64 n1) ∧ w1.cell? ⟨pa, 1, none⟩ = some (.int .i64 d1) ∧ Below W0.heap.size W0 w1) (hb : Below w1.heap.size w1 w2) :
    w2.cell? ⟨p9, 0, none⟩ = some (.int .i64 qN) ∧ w2.cell? ⟨p9, 1, none⟩ = some (.int .i64 qD) ∧ w2.cell? ⟨p8, 0, none⟩ = some (.int .i64 qN) ∧ w2.cell? ⟨p8, 1, none⟩ = some (.int .i64 qD) ∧ w2.cell? ⟨p7, 0, none⟩ = some (.int .i64 pN) ∧ w2.cell? ⟨p7, 1, none⟩ = some (.int .i64 pD) ∧ w2.cell? ⟨p6, 0, none⟩ = some (.int .i64 pN) ∧ w2.cell? ⟨p6, 1, none⟩ = some (.int .i64 pD) ∧ w2.cell? ⟨p5, 0, none⟩ = some (.int .i64 dN) ∧ w2.cell? ⟨p5, 1, none⟩ = some (.int .i64 dD) ∧ w2.cell? ⟨p4, 0, none⟩ = some (.int .i64 dN) ∧ w2.cell? ⟨p4, 1, none⟩ = some (.int .i64 dD) ∧ w2.cell? ⟨p3, 0, none⟩ = some (.int .i64 sN) ∧ w2.cell? ⟨p3, 1, none⟩ = some (.int .i64 sD) ∧ w2.cell? ⟨p2, 0, none⟩ = some (.int .i64 sN) ∧ w2.cell? ⟨p2, 1, none⟩ = some (.int .i64 sD) ∧ w2.cell? ⟨pa, 0, none⟩ = some (.int .i64 n1) ∧ w2.cell? ⟨pa, 1, none⟩ = some (.int .i64 d1) ∧ Below W0.heap.size W0 w2 := by
  obtain ⟨_, _, _, _, _, _, _, _, _, _, _, _, _, _, _, _, _, _, h⟩ := s
  exact pf_of hV (h.trans (hb.mono h.size))

set_option maxRecDepth 100000 in
set_option maxHeartbeats 400000 in
theorem lFracs_long (a1 a2 : Option Addr) (len1 cap1 len2 cap2 : Nat) (w : World) (h : (1048576 : Int) < wrap64 ((len1 : Int) + (len2 : Int))) :
    Calls Tryd.prog 3 #[.slice a1 len1 cap1, .slice a2 len2 cap2] w fun e w' => e = .returned (.bool true) ∧ Below w.heap.size w w' := by
  go_enter Tryd.func3, Tryd.ntmps3
  go_wp2_with fail
  go_ret
  exact ⟨rfl, Below.refl _ _⟩

set_option maxRecDepth 100000 in
set_option maxHeartbeats 1000000 in
theorem lFracs_short (a1 a2 : Option Addr) (len1 cap1 len2 cap2 : Nat) (w : World) (h : ¬ (1048576 : Int) < wrap64 ((len1 : Int) + (len2 : Int))) (hs1 : Src w a1 len1) (hs2 : Src w a2 len2) (ht : Tab w) :
    Calls Tryd.prog 3 #[.slice a1 len1 cap1, .slice a2 len2 cap2] w fun e w' => e = .returned (.bool true) ∧ Below w.heap.size w w' := by
  have HS1 := hide hs1
  have HS2 := hide hs2
  have HT := hide ht
  clear hs1 hs2 ht
  go_enter Tryd.func3, Tryd.ntmps3
  go_wp2_with fail
  refine (drawAdd_any a1 len1 cap1 _ HS1.out).mono ?_
  rintro e w1 ⟨n1, d1, n2, d2, rfl, hB1⟩
  have V1 : Hid (Vs ((w1.alloc (.cells #[.int .i64 n1, .int .i64 d1] 24)).alloc (.cells #[.int .i64 n2, .int .i64 d2] 24)) [(w1.heap.size + 1, n2, d2), (w1.heap.size, n1, d1)]) := hide (by
    have h1 := ((Vs.nil w1).add n1 d1 24).add n2 d2 24
    rw [World.size_alloc] at h1
    exact h1)
  have hB1' : Below w.heap.size w ((w1.alloc (.cells #[.int .i64 n1, .int .i64 d1] 24)).alloc (.cells #[.int .i64 n2, .int .i64 d2] 24)) := (hB1.alloc hB1.size _).alloc (by have := hB1.size; simp; omega) _
  go_wp2_with fail
  refine (addF_any n1 d1 n2 d2 _).mono ?_
  rintro e w2 ⟨rfl, hb⟩
  have hB2 : Below w.heap.size w w2 := hB1'.trans (hb.mono hB1'.size)
  have U2 := hide (V1.out.below hb)
  obtain ⟨x0, x1, x2⟩ := U2.out.at (p := w1.heap.size) (n := n1) (d := d1) (by simp)
  obtain ⟨y0, y1, y2⟩ := U2.out.at (p := w1.heap.size + 1) (n := n2) (d := d2) (by simp)
  have V2 := hide (U2.out.add (Fr.addN n1 d1 n2 d2) (Fr.addD n1 d1 n2 d2) 24)
  have hB2' : Below w.heap.size w (w2.alloc (.cells #[.int .i64 (Fr.addN n1 d1 n2 d2), .int .i64 (Fr.addD n1 d1 n2 d2)] 24)) := hB2.alloc hB2.size _
  clear hb V1 U2 hB1 hB1'
  go_wp2_with fail
  clear x0 x1 x2 y0 y1 y2
  refine (sAddF_any n1 d1 n2 d2 _).mono ?_
  rintro e w3 ⟨rfl, hb⟩
  have hB3 : Below w.heap.size w w3 := hB2'.trans (hb.mono hB2'.size)
  have U3 := hide (V2.out.below hb)
  obtain ⟨x0, x1, x2⟩ := U3.out.at (p := w1.heap.size) (n := n1) (d := d1) (by simp)
  obtain ⟨y0, y1, y2⟩ := U3.out.at (p := w1.heap.size + 1) (n := n2) (d := d2) (by simp)
  have V3 := hide (U3.out.add (Fr.addN n1 d1 n2 d2) (Fr.addD n1 d1 n2 d2) 24)
  have hB3' : Below w.heap.size w (w3.alloc (.cells #[.int .i64 (Fr.addN n1 d1 n2 d2), .int .i64 (Fr.addD n1 d1 n2 d2)] 24)) := hB3.alloc hB3.size _
  clear hb V2 U3 hB2 hB2'
  go_wp2_with fail
  clear x0 x1 x2 y0 y1 y2
  refine (subF_any n1 d1 n2 d2 _).mono ?_
  rintro e w4 ⟨rfl, hb⟩
  have hB4 : Below w.heap.size w w4 := hB3'.trans (hb.mono hB3'.size)
  have U4 := hide (V3.out.below hb)
  obtain ⟨x0, x1, x2⟩ := U4.out.at (p := w1.heap.size) (n := n1) (d := d1) (by simp)
  obtain ⟨y0, y1, y2⟩ := U4.out.at (p := w1.heap.size + 1) (n := n2) (d := d2) (by simp)
  have V4 := hide (U4.out.add (Fr.subN n1 d1 n2 d2) (Fr.subD n1 d1 n2 d2) 24)
  have hB4' : Below w.heap.size w (w4.alloc (.cells #[.int .i64 (Fr.subN n1 d1 n2 d2), .int .i64 (Fr.subD n1 d1 n2 d2)] 24)) := hB4.alloc hB4.size _
  clear hb V3 U4 hB3 hB3'
  go_wp2_with fail
  clear x0 x1 x2 y0 y1 y2
  refine (sSubF_any n1 d1 n2 d2 _).mono ?_
  rintro e w5 ⟨rfl, hb⟩
  have hB5 : Below w.heap.size w w5 := hB4'.trans (hb.mono hB4'.size)
  have U5 := hide (V4.out.below hb)
  obtain ⟨x0, x1, x2⟩ := U5.out.at (p := w1.heap.size) (n := n1) (d := d1) (by simp)
  obtain ⟨y0, y1, y2⟩ := U5.out.at (p := w1.heap.size + 1) (n := n2) (d := d2) (by simp)
  have V5 := hide (U5.out.add (Fr.subN n1 d1 n2 d2) (Fr.subD n1 d1 n2 d2) 24)
  have hB5' : Below w.heap.size w (w5.alloc (.cells #[.int .i64 (Fr.subN n1 d1 n2 d2), .int .i64 (Fr.subD n1 d1 n2 d2)] 24)) := hB5.alloc hB5.size _
  clear hb V4 U5 hB4 hB4'
  go_wp2_with fail
  clear x0 x1 x2 y0 y1 y2
  refine (mulF_any n1 d1 n2 d2 _).mono ?_
  rintro e w6 ⟨rfl, hb⟩
  have hB6 : Below w.heap.size w w6 := hB5'.trans (hb.mono hB5'.size)
  have U6 := hide (V5.out.below hb)
  obtain ⟨x0, x1, x2⟩ := U6.out.at (p := w1.heap.size) (n := n1) (d := d1) (by simp)
  obtain ⟨y0, y1, y2⟩ := U6.out.at (p := w1.heap.size + 1) (n := n2) (d := d2) (by simp)
  have V6 := hide (U6.out.add (Fr.mulN n1 d1 n2 d2) (Fr.mulD n1 d1 n2 d2) 24)
  have hB6' : Below w.heap.size w (w6.alloc (.cells #[.int .i64 (Fr.mulN n1 d1 n2 d2), .int .i64 (Fr.mulD n1 d1 n2 d2)] 24)) := hB6.alloc hB6.size _
  clear hb V5 U6 hB5 hB5'
  go_wp2_with fail
  clear x0 x1 x2 y0 y1 y2
  refine (sMulF_any n1 d1 n2 d2 _).mono ?_
  rintro e w7 ⟨rfl, hb⟩
  have hB7 : Below w.heap.size w w7 := hB6'.trans (hb.mono hB6'.size)
  have U7 := hide (V6.out.below hb)
  obtain ⟨x0, x1, x2⟩ := U7.out.at (p := w1.heap.size) (n := n1) (d := d1) (by simp)
  obtain ⟨y0, y1, y2⟩ := U7.out.at (p := w1.heap.size + 1) (n := n2) (d := d2) (by simp)
  have V7 := hide (U7.out.add (Fr.mulN n1 d1 n2 d2) (Fr.mulD n1 d1 n2 d2) 24)
  have hB7' : Below w.heap.size w (w7.alloc (.cells #[.int .i64 (Fr.mulN n1 d1 n2 d2), .int .i64 (Fr.mulD n1 d1 n2 d2)] 24)) := hB7.alloc hB7.size _
  clear hb V6 U7 hB6 hB6'
  go_wp2_with fail
  clear x0 x1 x2 y0 y1 y2
  refine (divF_any n1 d1 n2 d2 _).mono ?_
  rintro e w8 ⟨rfl, hb⟩
  have hB8 : Below w.heap.size w w8 := hB7'.trans (hb.mono hB7'.size)
  have U8 := hide (V7.out.below hb)
  obtain ⟨x0, x1, x2⟩ := U8.out.at (p := w1.heap.size) (n := n1) (d := d1) (by simp)
  obtain ⟨y0, y1, y2⟩ := U8.out.at (p := w1.heap.size + 1) (n := n2) (d := d2) (by simp)
  have V8 := hide (U8.out.add (Fr.divN n1 d1 n2 d2) (Fr.divD n1 d1 n2 d2) 24)
  have hB8' : Below w.heap.size w (w8.alloc (.cells #[.int .i64 (Fr.divN n1 d1 n2 d2), .int .i64 (Fr.divD n1 d1 n2 d2)] 24)) := hB8.alloc hB8.size _
  clear hb V7 U8 hB7 hB7'
  go_wp2_with fail
  clear x0 x1 x2 y0 y1 y2
  refine (sDivF_any n1 d1 n2 d2 _).mono ?_
  rintro e w9 ⟨rfl, hb⟩
  have hB9 : Below w.heap.size w w9 := hB8'.trans (hb.mono hB8'.size)
  have U9 := hide (V8.out.below hb)
  obtain ⟨x0, x1, x2⟩ := U9.out.at (p := w1.heap.size) (n := n1) (d := d1) (by simp)
  obtain ⟨y0, y1, y2⟩ := U9.out.at (p := w1.heap.size + 1) (n := n2) (d := d2) (by simp)
  have V9 := hide (U9.out.add (Fr.divN n1 d1 n2 d2) (Fr.divD n1 d1 n2 d2) 24)
  have hB9' : Below w.heap.size w (w9.alloc (.cells #[.int .i64 (Fr.divN n1 d1 n2 d2), .int .i64 (Fr.divD n1 d1 n2 d2)] 24)) := hB9.alloc hB9.size _
  clear hb V8 U9 hB8 hB8'
  clear x0 x1 x2 y0 y1 y2
  go_upto_region 12 with fail
  have z9 : w9.heap.size < (w9.alloc (.cells #[.int .i64 (Fr.divN n1 d1 n2 d2), .int .i64 (Fr.divD n1 d1 n2 d2)] 24)).heap.size := by simp
  generalize hsN : Fr.addN n1 d1 n2 d2 = sN at *
  generalize hsD : Fr.addD n1 d1 n2 d2 = sD at *
  generalize hsB : Fr.addB n1 d1 n2 d2 = sB at *
  generalize hdN : Fr.subN n1 d1 n2 d2 = dN at *
  generalize hdD : Fr.subD n1 d1 n2 d2 = dD at *
  generalize hdB : Fr.subB n1 d1 n2 d2 = dB at *
  generalize hpN : Fr.mulN n1 d1 n2 d2 = pN at *
  generalize hpD : Fr.mulD n1 d1 n2 d2 = pD at *
  generalize hpB : Fr.mulB n1 d1 n2 d2 = pB at *
  generalize hqN : Fr.divN n1 d1 n2 d2 = qN at *
  generalize hqD : Fr.divD n1 d1 n2 d2 = qD at *
  generalize hqB : Fr.divB n1 d1 n2 d2 = qB at *
  have HE := hide (And.intro (And.intro (And.intro hsN hsD) (And.intro hsB (And.intro hpN hpD))) hpB)
  clear hsN hsD hsB hdN hdD hdB hpN hpD hpB hqN hqD hqB
  obtain ⟨gB, hgB⟩ : ∃ x, Fr.goodB n1 d1 = x := ⟨_, rfl⟩
  have hg1 := fun w => good_any n1 d1 w
  have hg2 := fun w => sgood_any n1 d1 w
  rw [hgB] at hg1 hg2
  have HG1 := hide hg1
  have HG2 := hide hg2
  clear hg1 hg2 hgB
  generalize w9.alloc (.cells #[.int .i64 qN, .int .i64 qD] 24) = W0 at *
  have r0 : (gB != gB) = false := by simp
  have rs : (sB != sB) = false := by simp
  have ts : ∀ w, (binOp .neq 24 (.agg #[.int .i64 sN, .int .i64 sD]) (.agg #[.int .i64 sN, .int .i64 sD])).run Tryd.prog w = .ok (.bool false) w := fun w => by rw [frac_neq]; simp
  have vs := fun x y => frac_neqg x y sN sD sN sD
  have rd : (dB != dB) = false := by simp
  have td : ∀ w, (binOp .neq 24 (.agg #[.int .i64 dN, .int .i64 dD]) (.agg #[.int .i64 dN, .int .i64 dD])).run Tryd.prog w = .ok (.bool false) w := fun w => by rw [frac_neq]; simp
  have vd := fun x y => frac_neqg x y dN dD dN dD
  have rp : (pB != pB) = false := by simp
  have tp : ∀ w, (binOp .neq 24 (.agg #[.int .i64 pN, .int .i64 pD]) (.agg #[.int .i64 pN, .int .i64 pD])).run Tryd.prog w = .ok (.bool false) w := fun w => by rw [frac_neq]; simp
  have vp := fun x y => frac_neqg x y pN pD pN pD
  have rq : (qB != qB) = false := by simp
  have tq : ∀ w, (binOp .neq 24 (.agg #[.int .i64 qN, .int .i64 qD]) (.agg #[.int .i64 qN, .int .i64 qD])).run Tryd.prog w = .ok (.bool false) w := fun w => by rw [frac_neq]; simp
  have vq := fun x y => frac_neqg x y qN qD qN qD
  have HV : Vs W0 [(w9.heap.size, qN, qD), (w8.heap.size, qN, qD), (w7.heap.size, pN, pD), (w6.heap.size, pN, pD), (w5.heap.size, dN, dD), (w4.heap.size, dN, dD), (w3.heap.size, sN, sD), (w2.heap.size, sN, sD), (w1.heap.size + 1, n2, d2), (w1.heap.size, n1, d1)] := V9.out
  have HP := pf_of HV (Below.refl _ W0).drew
  have HHV := hide HV
  clear HV V9
  go_cut [145] (fun s wc => s = .bool false ∧ Below W0.heap.size W0 wc)
  case first =>
    go_region_held3 (fun w' => w'.cell? ⟨w9.heap.size, 0, none⟩ = some (.int .i64 qN) ∧ w'.cell? ⟨w9.heap.size, 1, none⟩ = some (.int .i64 qD) ∧ w'.cell? ⟨w8.heap.size, 0, none⟩ = some (.int .i64 qN) ∧ w'.cell? ⟨w8.heap.size, 1, none⟩ = some (.int .i64 qD) ∧ w'.cell? ⟨w7.heap.size, 0, none⟩ = some (.int .i64 pN) ∧ w'.cell? ⟨w7.heap.size, 1, none⟩ = some (.int .i64 pD) ∧ w'.cell? ⟨w6.heap.size, 0, none⟩ = some (.int .i64 pN) ∧ w'.cell? ⟨w6.heap.size, 1, none⟩ = some (.int .i64 pD) ∧ w'.cell? ⟨w5.heap.size, 0, none⟩ = some (.int .i64 dN) ∧ w'.cell? ⟨w5.heap.size, 1, none⟩ = some (.int .i64 dD) ∧ w'.cell? ⟨w4.heap.size, 0, none⟩ = some (.int .i64 dN) ∧ w'.cell? ⟨w4.heap.size, 1, none⟩ = some (.int .i64 dD) ∧ w'.cell? ⟨w3.heap.size, 0, none⟩ = some (.int .i64 sN) ∧ w'.cell? ⟨w3.heap.size, 1, none⟩ = some (.int .i64 sD) ∧ w'.cell? ⟨w2.heap.size, 0, none⟩ = some (.int .i64 sN) ∧ w'.cell? ⟨w2.heap.size, 1, none⟩ = some (.int .i64 sD) ∧ w'.cell? ⟨w1.heap.size, 0, none⟩ = some (.int .i64 n1) ∧ w'.cell? ⟨w1.heap.size, 1, none⟩ = some (.int .i64 d1) ∧ Below W0.heap.size W0 w')
      (first | exact HP | assumption | exact pf_held HHV.out ‹_› (by assumption))
      (first
      | (go_at_call 13; refine (HG1.out _).mono ?_; rintro e wD ⟨rfl, hb⟩)
      | (go_at_call 14; refine (HG2.out _).mono ?_; rintro e wE ⟨rfl, hb'⟩))
    all_goals
      go_wp2_with fail
      go_meet
      case rel =>
        obtain ⟨_, _, _, _, _, _, _, _, _, _, _, _, _, _, _, _, _, _, hh⟩ := ‹_ ∧ _ ∧ _ ∧ _ ∧ _ ∧ _ ∧ _ ∧ _ ∧ _ ∧ _ ∧ _ ∧ _ ∧ _ ∧ _ ∧ _ ∧ _ ∧ _ ∧ _ ∧ Below W0.heap.size W0 _›
        exact ⟨by simp, hh⟩
  case rest =>
    obtain ⟨rfl, hh⟩ := hcut
    have hBc : Below w.heap.size w wc := hB9'.trans (hh.mono hB9'.size)
    have UC := hide (HHV.out.below hh)
    obtain ⟨⟨⟨e1, e2⟩, e3, e4, e5⟩, e6⟩ := HE.out
    rename_i K1 hK1 K0 hK0
    refine hK0 _ _ (wp_cond_false rfl (wp_skip ?_))
    show K1 _ _
    refine hK1 _ _ ?_
    exact fr_b a1 a2 len1 cap1 len2 cap2 w _ HS2.out HT.out hBc _ _ _ _ _ _ _ _ _ _ n1 d1 n2 d2 sN sD dN dD pN pD qN qD sB pB UC.out e1 e2 e3 e4 e5 e6 _ _ _ _ _ _ _ _ _ _ _ _ _ _ _ _ _ _ _ _ _ _ _ _ _ _ _ _ _ _ _ _ _ _ _ _ _ _ _ _ _ _ _ _ _ _ _ _ _ _ _ _ _ _ _ _ _ _ _ _ _ _ _ _ _ _ _ _ _ _ _ _ _ _ _ _ _ _ _ _ _ _ _ _ _ _ _ _ _ _ _ _ _ _ _ _ _ _ _ _ _ _ _ _ _ _ _ _ _ _ _ _ _ _ _ _ _ _ _ _ _ _ _ _ _ _ _ _ _ _ _ _ _ _ _ _ _ _ _ _ _ _ _ _ _ _ _ _ _ _ _ _ _ _ _ _ _ _ _ _ _ _ _ _ _ _ _ _ _ _ _ _ _ _ _ _ _ _ _ _ _ _ _ _ _ _ _ _ _ _ _ _ _ _ _ _ _ _ _ _ _ _ _ _ _ _ _ _ _ _ _ _ _ _ _ _ _ _ _ _ _ _ _ _ _ _ _ _ _ _ _ _ _ _ _ _ _ _ _ _ _ _ _ _ _ _ _ _ _ _ _ _ _ _ _ _ _
end Go.Proofs.YtdmdhmcnedmnbaaDoor
