/-
  In one: Gf13, Gh13, Gj13, Fy13, Rf14, Fc13, Gi13, Fw13, Fx13, Fm13, Fn13.
-/
import Derived.Test.YtnepjahhconodaaY3
import Derived.Test.YtnepjahhconodaaY1
import Derived.Deep.RegionWith
import Derived.Test.YtnepjahhconodaaY2
namespace Go.Proofs.Ytnepjahhconodaa
open Go.RowKit

/-- What the model's own look at a way has found so far. -/
structure Lk (W F : List (List Int)) (n : Nat) (P : List Int) (k : Nat) : Prop where
  ok : ∀ i, i < k → Nt.okAt n P i = true
  room : ∀ i, i + 1 < k → 0 < Nt.roomAt W F (P.getD i 0).toNat (P.getD (i + 1) 0).toNat
theorem inB_out {x lo hi : Int} (h : x < lo ∨ hi < x) : Pf.inB x lo hi = false := by
  cases e : Pf.inB x lo hi
  · rfl
  · have := Pf.inB_yes e; omega
theorem Lk.step {W F : List (List Int)} {n : Nat} {P : List Int} {k : Nat} (h : Lk W F n P k) (h1 : Nt.okAt n P k = true) (h2 : k = 0 ∨ 0 < Nt.roomAt W F (P.getD (k - 1) 0).toNat (P.getD k 0).toNat) : Lk W F n P (k + 1) := by
  refine ⟨fun i hi => ?_, fun i hi => ?_⟩
  · by_cases e : i = k
    · subst e; exact h1
    · exact h.ok i (by omega)
  · by_cases e : i + 1 = k
    · rcases h2 with h2 | h2
      · omega
      · rw [← e, Nat.add_sub_cancel] at h2; rw [e] at h2 ⊢; exact h2
    · exact h.room i (by omega)
theorem Lk.all {W F : List (List Int)} {n : Nat} {P : List Int} (hn : W.length = n) (h : Lk W F n P P.length) (h0 : P.getD 0 0 = 0) (hl : P.getD (P.length - 1) 0 = (n : Int) - 1) (h2 : 0 < P.length) : Nt.wayB (Nt.rooms W F) n P = true := by
  refine Nt.wayB_iff.2 ⟨h2, h0, hl, h.ok, ?_⟩
  cases hc : (Nt.along (Nt.rooms W F) P).contains 0
  · rfl
  · have hm := List.contains_iff_mem.1 hc
    obtain ⟨i, hi, e⟩ := List.getElem_of_mem hm
    have hi' : i + 1 < P.length := by rw [Nt.along_len] at hi; omega
    have ea := Nt.along_at (Nt.rooms W F) P hi'
    rw [Pf.getD_lt _ _ hi, e] at ea
    have hr := h.room i hi'
    have l1 := Nt.ok_lo (h.ok i (by omega))
    have l2 := Nt.ok_lo (h.ok (i + 1) hi')
    rw [Nt.rooms_at W F (by rw [hn]; omega) (by rw [hn]; omega)] at ea
    omega
set_option maxRecDepth 100000 in
set_option maxHeartbeats 8000000 in
theorem spw_nf {aw af : Option Addr} {b o n l c d e' : Nat} {W F : List (List Int)} {P : List Int} {w : World} (HN : Hid (W.length = n)) (HM : Hid (F.length = n)) (HL : Hid (P.length = l)) (hl : l ≤ 1048576) (he : l ≤ e') (HNF : Hid (Nt.NF W F)) (HSL : Hid (Calls Try.prog 61 #[.slice aw n c, .slice af n d] w fun e w' => e = .returned (.bool true) ∧ Below w.heap.size w w')) (HW : Hid (CRow w aw W)) (HA : Hid (CRow w af F)) (HP : Hid (ARow w (some ⟨b, o, none⟩) P)) :
    Calls Try.prog 51 #[.slice aw n c, .slice af n d, .slice (some ⟨b, o, none⟩) l e'] w fun e w' => ∃ v us, e = .returned (.tuple #[v, .int .i64 (Nt.pwI W F P), .bool (Nt.pwB W F P)]) ∧ LL w' w.heap.size 25 3 1 ints v us (Nt.pwL W F P) ∧ Below w.heap.size w w' := by
  have HG := hide HNF.out.net
  have h8 := Nt.rowsB_len (Nt.netB_rows HNF.out.net)
  rw [HN.out] at h8
  obtain ⟨h2, h8⟩ := h8
  have hn : n ≤ 1048576 := by omega
  have e0 : Nt.pwB W F P = Nt.wayB (Nt.rooms W F) n P := by rw [Nt.pwB, Nt.nfB_iff.2 HNF.out, HN.out]; rfl
  have HE0 := hide e0
  have HZ : Hid (Nt.wayB (Nt.rooms W F) n P = false → Nt.pwB W F P = false ∧ Nt.pwL W F P = [] ∧ Nt.pwI W F P = 0) := hide fun h => by
    have h1 : Nt.pwB W F P = false := HE0.out.trans h
    exact ⟨h1, by simp [Nt.pwL, h1], by simp [Nt.pwI, h1]⟩
  clear e0
  by_cases hl2 : l < 2
  · have hz : Nt.wayB (Nt.rooms W F) n P = false := by
      cases e : Nt.wayB (Nt.rooms W F) n P
      · rfl
      · have := (Nt.pw_way HNF.out (by rw [HN.out]; exact e)).len; rw [HL.out] at this; omega
    obtain ⟨z1, z2, z3⟩ := HZ.out hz
    rw [z1, z2, z3]
    have hl2' : (l : Int) < 2 := by omega
    clear z1 z2 z3 hz HZ HE0
    go_enter Try.func51, Try.ntmps51
    go_wp2_with fail
    refine (sgn_eq HN hn HW HG).mono ?_
    rintro e w1 ⟨rfl, hw1⟩
    obtain rfl : w = w1 := hw1.symm
    go_wp2_with fail
    refine HSL.out.mono ?_
    rintro e w2 ⟨rfl, hb2⟩
    go_wp2_with fail
    go_ret3
    exact ⟨_, [], rfl, LL.nil _ _ _ _ _ _, hb2⟩
  have hl2' : ¬ (l : Int) < 2 := by omega
  have m1 : (0 : Int) < (l : Int) := by omega
  have m2 : (0 : Int) ≤ (l : Int) - 1 := by omega
  have m3 : (l : Int) - 1 < (l : Int) := by omega
  have mt : ((l : Int) - 1).toNat = l - 1 := by omega
  have HRD : Hid (∀ (V : World) (i : Nat), Below w.heap.size w V → i < l → V.cell? ⟨b, o + i, none⟩ = some (.int .i64 (P.getD i 0))) := hide fun V i hV hi => by
    obtain ⟨b0, o0, e0, r0⟩ := (HP.out.below hV).at (i := i) (by rw [HL.out]; exact hi)
    cases e0
    exact r0
  by_cases hf : P.getD 0 0 = 0
  rotate_left
  · have hz : Nt.wayB (Nt.rooms W F) n P = false := Nt.wayB_no fun ⟨_, h, _⟩ => hf h
    obtain ⟨z1, z2, z3⟩ := HZ.out hz
    rw [z1, z2, z3]
    have hx : (P.getD 0 0 != (0 : Int)) = true := by simpa using hf
    clear z1 z2 z3 hz HZ HE0 hf
    go_enter Try.func51, Try.ntmps51
    go_wp2_with fail
    refine (sgn_eq HN hn HW HG).mono ?_
    rintro e w1 ⟨rfl, hw1⟩
    obtain rfl : w = w1 := hw1.symm
    go_wp2_with fail
    refine HSL.out.mono ?_
    rintro e w2 ⟨rfl, hb2⟩
    have r0 := HRD.out w2 0 hb2 (by omega)
    rw [Nat.add_zero] at r0
    generalize P.getD 0 0 = x at *
    go_wp2_with fail
    go_ret3
    exact ⟨_, [], rfl, LL.nil _ _ _ _ _ _, hb2⟩
  by_cases hlast : P.getD (l - 1) 0 = (n : Int) - 1
  rotate_left
  · have hz : Nt.wayB (Nt.rooms W F) n P = false := Nt.wayB_no fun ⟨_, _, h, _⟩ => by rw [HL.out] at h; exact hlast h
    obtain ⟨z1, z2, z3⟩ := HZ.out hz
    rw [z1, z2, z3]
    have hx : (P.getD (l - 1) 0 != (n : Int) - 1) = true := by simpa using hlast
    have HF0 := hide hf
    clear z1 z2 z3 hz HZ HE0 hlast hf
    go_enter Try.func51, Try.ntmps51
    go_wp2_with fail
    refine (sgn_eq HN hn HW HG).mono ?_
    rintro e w1 ⟨rfl, hw1⟩
    obtain rfl : w = w1 := hw1.symm
    go_wp2_with fail
    refine HSL.out.mono ?_
    rintro e w2 ⟨rfl, hb2⟩
    have r0 := HRD.out w2 0 hb2 (by omega)
    rw [Nat.add_zero, HF0.out] at r0
    have r1 := HRD.out w2 (l - 1) hb2 (by omega)
    have r1' : w2.cell? ⟨b, o + ((l : Int) - 1).toNat, none⟩ = some (.int .i64 (P.getD (l - 1) 0)) := by rw [mt]; exact r1
    generalize P.getD (l - 1) 0 = x at *
    go_wp2_with fail
    go_ret3
    exact ⟨_, [], rfl, LL.nil _ _ _ _ _ _, hb2⟩
  have HF0 := hide hf
  have HFL := hide hlast
  have hnl : ((n : Int) - 1 != (n : Int) - 1) = false := by simp
  have HK8 : Hid (∀ k, k ≤ l → Lk W F n P k → k ≤ 8) := hide fun k hk h => by have := Nt.ok_few (by rw [HL.out]; exact hk) h.ok; omega
  have HNO1 : Hid (∀ k, k < l → Nt.okAt n P k = false → Nt.wayB (Nt.rooms W F) n P = false) := hide fun k hk h => Nt.wayB_no fun ⟨_, _, _, h3, _⟩ => by
    have := h3 k (by rw [HL.out]; exact hk)
    rw [h] at this; cases this
  have HNO2 : Hid (∀ k, 0 < k → k < l → Lk W F n P k → Nt.okAt n P k = true → ¬ 0 < Nt.roomAt W F (P.getD (k - 1) 0).toNat (P.getD k 0).toNat → Nt.wayB (Nt.rooms W F) n P = false) := hide fun k h0 hk hlk hok hr => by
    obtain ⟨j, rfl⟩ : ∃ j, k = j + 1 := ⟨k - 1, by omega⟩
    rw [Nat.add_sub_cancel] at hr
    have l1 := Nt.ok_lo (hlk.ok j (by omega))
    have l2 := Nt.ok_lo hok
    have hb := HNF.out.room_bd (i := (P.getD j 0).toNat) (k := (P.getD (j + 1) 0).toNat) (by rw [HN.out]; omega) (by rw [HN.out]; omega)
    refine Nt.way_zero (i := j) (by rw [HL.out]; exact hk) ?_
    rw [Nt.rooms_at W F (by rw [HN.out]; omega) (by rw [HN.out]; omega)]
    omega
  have HYE : Hid (Lk W F n P l → Nt.wayB (Nt.rooms W F) n P = true) := hide fun h => Lk.all HN.out (by rw [HL.out]; exact h) HF0.out (by rw [HL.out]; exact HFL.out) (by rw [HL.out]; omega)
  clear hf hlast
  generalize hpl : Nt.pwL W F P = PL at *
  generalize hpi : Nt.pwI W F P = PI at *
  generalize hpb : Nt.pwB W F P = PB at *
  have HPL := hide hpl
  have HPI := hide hpi
  have HPB := hide hpb
  clear hpl hpi hpb
  go_enter Try.func51, Try.ntmps51
  go_wp2_with fail
  refine (sgn_eq HN hn HW HG).mono ?_
  rintro e w1 ⟨rfl, hw1⟩
  obtain rfl : w = w1 := hw1.symm
  go_wp2_with fail
  refine HSL.out.mono ?_
  rintro e w2 ⟨rfl, hb2⟩
  have r0 := HRD.out w2 0 hb2 (by omega)
  rw [Nat.add_zero, HF0.out] at r0
  have r1 := HRD.out w2 (l - 1) hb2 (by omega)
  rw [HFL.out] at r1
  have r1' : w2.cell? ⟨b, o + ((l : Int) - 1).toNat, none⟩ = some (.int .i64 ((n : Int) - 1)) := by rw [mt]; exact r1
  have HB2 := hide hb2
  clear hb2
  go_wp2_with fail
  clear r0 r1 r1'
  go_loopw [6, 7, 8, 9, 10, 47] (fun s6 s7 s8 _ _ sk wr => ∃ (k : Nat), s6 = .slice none 0 0 ∧ s7 = .int .i64 0 ∧ s8 = .bool false ∧ sk = .int .i64 k ∧ k ≤ l ∧ Hid (Lk W F n P k) ∧ Hid (Below w.heap.size w wr)) (fun _ _ _ _ _ sk _ => l - (intOf sk).toNat)
  case atStart => exact ⟨0, rfl, rfl, rfl, rfl, Nat.zero_le _, hide ⟨fun i hi => absurd hi (Nat.not_lt_zero _), fun i hi => absurd hi (Nat.not_lt_zero _)⟩, HB2⟩
  case round =>
    clear HB2
    obtain ⟨k, rfl, rfl, rfl, rfl, hk, HLK, HB⟩ := hrel
    by_cases hlt : k < l
    · have r2 := HRD.out _ k HB.out hlt
      have k0 : (0 : Int) ≤ (k : Int) := by omega
      have k1 : (k : Int) < (l : Int) := by omega
      have hk8 := HK8.out k hk HLK.out
      have HOK : Hid (Nt.okAt n P k = (Pf.inB (P.getD k 0) 0 ((n : Int) - 1) && !(P.take k).contains (P.getD k 0))) := hide rfl
      have HN1 := hide (HNO1.out k hlt)
      by_cases hx0 : P.getD k 0 < 0
      · obtain ⟨z1, z2, z3⟩ := HZ.out (HN1.out (by rw [HOK.out, inB_out (by omega)]; rfl))
        subst z1 z2 z3
        generalize P.getD k 0 = x at *
        go_wp2_with fail
        go_ret3
        first | exact ⟨_, [], rfl, LL.nil _ _ _ _ _ _, HB.out⟩ | exact ⟨_, rfl, ⟨[], LL.nil _ _ _ _ _ _⟩, HB.out⟩
      by_cases hxn : (n : Int) ≤ P.getD k 0
      · obtain ⟨z1, z2, z3⟩ := HZ.out (HN1.out (by rw [HOK.out, inB_out (by omega)]; rfl))
        subst z1 z2 z3
        generalize P.getD k 0 = x at *
        go_wp2_with fail
        go_ret3
        first | exact ⟨_, [], rfl, LL.nil _ _ _ _ _ _, HB.out⟩ | exact ⟨_, rfl, ⟨[], LL.nil _ _ _ _ _ _⟩, HB.out⟩
      have hin : Pf.inB (P.getD k 0) 0 ((n : Int) - 1) = true := Pf.inB_of (by omega) (by omega)
      rw [hin, Bool.true_and] at HOK
      have HTL : Hid ((P.take k).length = k) := hide (by rw [List.length_take, HL.out]; omega)
      have HTA := hide ((HP.out.below HB.out).take k)
      obtain ⟨p, ep⟩ : ∃ p : Nat, P.getD k 0 = (p : Int) := ⟨(P.getD k 0).toNat, by omega⟩
      have HEP := hide ep
      rw [ep] at r2 hx0 hxn HOK
      have hke : (k : Int) ≤ (e' : Int) := by omega
      clear hin ep
      cases hc : (P.take k).contains (p : Int)
      rotate_left
      · obtain ⟨z1, z2, z3⟩ := HZ.out (HN1.out (by rw [HOK.out, hc]; rfl))
        subst z1 z2 z3
        have HHA := hide (has7_eq (c := e') HTL (by omega) HTA (hide hc))
        clear hc HOK HN1
        go_wp2_with fail
        refine HHA.out.mono ?_
        rintro e w3 ⟨rfl, hw3⟩
        obtain rfl : wr = w3 := hw3.symm
        go_wp2_with fail
        go_ret3
        first | exact ⟨_, [], rfl, LL.nil _ _ _ _ _ _, HB.out⟩ | exact ⟨_, rfl, ⟨[], LL.nil _ _ _ _ _ _⟩, HB.out⟩
      have HHA := hide (has7_eq (c := e') HTL (by omega) HTA (hide hc))
      have hok : Nt.okAt n P k = true := by rw [HOK.out, hc]; rfl
      have HOKK := hide hok
      clear hc HOK HN1 hok
      by_cases hk0 : k = 0
      · have HLK2 := hide (HLK.out.step HOKK.out (Or.inl hk0))
        subst hk0
        rw [Nat.add_zero] at r2
        go_wp2_with fail
        refine HHA.out.mono ?_
        rintro e w3 ⟨rfl, hw3⟩
        obtain rfl : wr = w3 := hw3.symm
        go_wp2_with fail
        go_roundw
        case rel => exact ⟨1, rfl, rfl, rfl, by go_num, by omega, HLK2, HB⟩
        case measure => simp only [intOf]; omega
      · have kp : (0 : Int) < (k : Int) := by omega
        have kp' : ¬ (k : Int) ≤ 0 := by omega
        have kq : (0 : Int) ≤ (k : Int) - 1 := by omega
        have kr : (k : Int) - 1 < (l : Int) := by omega
        have kt : ((k : Int) - 1).toNat = k - 1 := by omega
        have r3 := HRD.out _ (k - 1) HB.out (by omega)
        have l1 := Nt.ok_lo (HLK.out.ok (k - 1) (by omega))
        have l2 := Nt.ok_lo HOKK.out
        rw [HEP.out] at l2
        have HN2 := hide (HNO2.out k (by omega) hlt HLK.out HOKK.out)
        have HST := hide fun (h : 0 < Nt.roomAt W F (P.getD (k - 1) 0).toNat (P.getD k 0).toNat) => HLK.out.step HOKK.out (Or.inr h)
        obtain ⟨q, eq⟩ : ∃ q : Nat, P.getD (k - 1) 0 = (q : Int) := ⟨(P.getD (k - 1) 0).toNat, by omega⟩
        rw [eq] at r3 l1
        rw [eq, HEP.out, Int.toNat_natCast, Int.toNat_natCast] at HN2 HST
        have r3' : wr.cell? ⟨b, o + ((k : Int) - 1).toNat, none⟩ = some (.int .i64 (q : Int)) := by rw [kt]; exact r3
        have HRM := hide (slm_any (c := c) (d := d) HN (show q < n by omega) (show p < n by omega) HNF (hide (HW.out.below HB.out)) (hide (HA.out.below HB.out)))
        generalize Nt.roomAt W F q p = x at *
        by_cases hx : 0 < x
        · have HLK2 := hide (HST.out hx)
          have hx' : ¬ x ≤ 0 := by omega
          clear HN2 HST l1 l2
          go_wp2_with fail
          refine HHA.out.mono ?_
          rintro e w3 ⟨rfl, hw3⟩
          obtain rfl : wr = w3 := hw3.symm
          go_wp2_with fail
          refine HRM.out.mono ?_
          rintro e w4 ⟨rfl, hb4⟩
          have HB4 := hide (HB.out.trans (hb4.mono HB.out.size))
          clear hb4 HRM
          go_wp2_with fail
          go_roundw
          case rel => exact ⟨k + 1, rfl, rfl, rfl, by go_num, by omega, HLK2, HB4⟩
          case measure => simp only [intOf]; omega
        · obtain ⟨z1, z2, z3⟩ := HZ.out (HN2.out (by omega))
          subst z1 z2 z3
          have hx' : x ≤ 0 := by omega
          clear HN2 HST l1 l2
          go_wp2_with fail
          refine HHA.out.mono ?_
          rintro e w3 ⟨rfl, hw3⟩
          obtain rfl : wr = w3 := hw3.symm
          go_wp2_with fail
          refine HRM.out.mono ?_
          rintro e w4 ⟨rfl, hb4⟩
          have HB4 := hide (HB.out.trans (hb4.mono HB.out.size))
          clear hb4 HRM
          go_wp2_with fail
          go_ret3
          first | exact ⟨_, [], rfl, LL.nil _ _ _ _ _ _, HB4.out⟩ | exact ⟨_, rfl, ⟨[], LL.nil _ _ _ _ _ _⟩, HB4.out⟩
    · have hke : k = l := by omega
      subst hke
      have hw := HYE.out HLK.out
      have HWAY := hide (Nt.pw_way HNF.out (by rw [HN.out]; exact hw))
      have hpb : PB = true := HE0.out.trans hw
      have hpl : PL = Nt.pushL (Nt.byI W F P) F P := by rw [← HPL.out]; unfold Nt.pwL; rw [HPB.out, hpb]; rfl
      have hpi : PI = Nt.byI W F P := by rw [← HPI.out]; unfold Nt.pwI; rw [HPB.out, hpb]; rfl
      subst hpb hpl hpi
      have HRW : Hid (∀ i, i < n → (F.getD i []).length = n) := hide fun i hi => by rw [Nt.rowsB_row HNF.out.rows (by rw [HM.out]; exact hi), HM.out]
      clear hw HLK HZ HE0 HNO1 HNO2 HYE
      go_wp2_with fail
      refine (slo_any HM h8 HRW (hide (HA.out.below HB.out))).mono ?_
      rintro e w5 ⟨v5, us5, rfl, L5, hb5⟩
      obtain ⟨G, cap, e5, _, _⟩ := L5.1.form (by rw [HM.out]; omega)
      rw [HM.out] at e5
      subst e5
      have HL5 := hide L5
      have HB5 := hide (HB.out.trans (hb5.mono HB.out.size))
      have hz5 := hb5.size
      have HWK : Hid (∀ V, Below wr.heap.size w5 V → CRow V aw W) := hide fun V hV => HW.out.below (HB5.out.trans (hV.mono HB.out.size))
      have HPK : Hid (∀ V, KU us5 w5 V → ARow V (some ⟨b, o, none⟩) P) := hide fun V hV => by
        have hp := HP.out
        rcases hp with h | ⟨b', o', e, hl', hc⟩
        · exact Or.inl h
        · cases e
          have hbb : b < wr.heap.size := Nat.lt_of_lt_of_le hl' HB.out.size
          have hblk : V.heap[b]? = w.heap[b]? := (hV.2 b (by omega) fun i e => by
            by_cases hi : i < F.length
            · have := ((L5.2.1 i hi).lt b e).1; omega
            · have := L5.len
              rw [List.getD_eq_getElem?_getD, List.getElem?_eq_none (by omega)] at e
              simp [nilS, Value.ownBlock] at e).trans (HB5.out.block b hl')
          refine Or.inr ⟨b, o, rfl, by have := hV.1; omega, fun i hi => (World.cell?_of_block (w := w) (a := ⟨b, o + i, none⟩) hblk).trans (hc i hi)⟩
      clear L5 hb5
      go_wp2_with fail
      refine (slp_any HN HNF HWAY HL HWK HL5 HPK hz5).mono ?_
      rintro e w6 ⟨rfl, L6, hb6⟩
      have HL6 := hide (L6.low HB.out.size)
      have HB6 := hide (HB5.out.trans (hb6.mono HB.out.size))
      clear L6 hb6 HL5 HPK HWK
      go_wp2_with fail
      go_ret3
      first | exact ⟨_, us5, rfl, HL6.out, HB6.out⟩ | exact ⟨_, rfl, ⟨us5, HL6.out⟩, HB6.out⟩
set_option maxRecDepth 100000 in
set_option maxHeartbeats 2000000 in
theorem spw_w {aw af : Option Addr} {b o n m l c d e' : Nat} {W F : List (List Int)} {P : List Int} {w : World} (HN : Hid (W.length = n)) (hn : n ≤ 1048576) (HM : Hid (F.length = m)) (hm : m ≤ 1048576) (HL : Hid (P.length = l)) (hl : l ≤ 1048576) (he : l ≤ e') (HW : Hid (CRow w aw W)) (HA : Hid (CRow w af F)) (HP : Hid (ARow w (some ⟨b, o, none⟩) P)) :
    Calls Try.prog 51 #[.slice aw n c, .slice af m d, .slice (some ⟨b, o, none⟩) l e'] w fun e w' => ∃ v us, e = .returned (.tuple #[v, .int .i64 (Nt.pwI W F P), .bool (Nt.pwB W F P)]) ∧ LL w' w.heap.size 25 3 1 ints v us (Nt.pwL W F P) ∧ Below w.heap.size w w' := by
  cases hg : Nt.netB W
  · have HG := hide hg
    have e0 : Nt.pwB W F P = false := by simp [Nt.pwB, Nt.nfB, hg]
    have e1 : Nt.pwL W F P = [] := by simp [Nt.pwL, e0]
    have e2 : Nt.pwI W F P = 0 := by simp [Nt.pwI, e0]
    rw [e1, e2, e0]
    clear hg e0 e1 e2
    go_enter Try.func51, Try.ntmps51
    go_wp2_with fail
    refine (sgn_eq HN hn HW HG).mono ?_
    rintro e w1 ⟨rfl, hw1⟩
    obtain rfl : w = w1 := hw1.symm
    go_wp2_with fail
    go_ret3
    exact ⟨_, [], rfl, LL.nil _ _ _ _ _ _, Below.refl _ _⟩
  · have HG := hide hg
    have HSL := hide (slf_w (c := c) (d := d) HN HM hm (hide (Nt.netB_rows hg)) HW HA)
    rw [← Nt.flow_eq hg] at HSL
    cases hf : Nt.nfB W F
    · have e0 : Nt.pwB W F P = false := by simp [Nt.pwB, hf]
      have e1 : Nt.pwL W F P = [] := by simp [Nt.pwL, e0]
      have e2 : Nt.pwI W F P = 0 := by simp [Nt.pwI, e0]
      rw [e1, e2, e0]
      rw [hf] at HSL
      clear hg hf e0 e1 e2
      go_enter Try.func51, Try.ntmps51
      go_wp2_with fail
      refine (sgn_eq HN hn HW HG).mono ?_
      rintro e w1 ⟨rfl, hw1⟩
      obtain rfl : w = w1 := hw1.symm
      go_wp2_with fail
      refine HSL.out.mono ?_
      rintro e w2 ⟨rfl, hb2⟩
      go_wp2_with fail
      go_ret3
      exact ⟨_, [], rfl, LL.nil _ _ _ _ _ _, hb2⟩
    · have HNF := hide (Nt.nfB_iff.1 hf)
      rw [hf] at HSL
      have hmn : m = n := by have := HNF.out.len; rw [HM.out, HN.out] at this; exact this
      subst hmn
      exact spw_nf HN HM HL hl he HNF HSL HW HA HP
end Go.Proofs.Ytnepjahhconodaa
namespace Go.Proofs.Ytnepjahhconodaa
open Go.RowKit

def NfPost (w : World) (c : Nat) (a : Option Addr) (len cap M : Nat) (e : Ending) (w' : World) : Prop :=
  ∃ v f us m F, e = .returned (.tuple #[v, f]) ∧ m ≤ 9 ∧ F.length = m ∧ LL w' w.heap.size 25 3 1 ints f us F ∧ Cur w' c a len cap M ∧ Kp c w w'
theorem kp_under13 {c k : Nat} {a b d : World} (h : Kp c a b) (hb : Below k b d) (hk : a.heap.size ≤ k) : Kp c a d := ⟨hb.os.trans h.os, hb.tape.trans h.tape, hb.output.trans h.output, Nat.le_trans h.size hb.size, fun x hx hne => (hb.block x (by omega)).trans (h.block x hx hne)⟩
theorem pwL_shape {W F : List (List Int)} {P : List Int} {m : Nat} (hF : F.length = m) (hr : ∀ j, j < m → (F.getD j []).length = m) : (Nt.pwL W F P).length ≤ m ∧ ∀ j, j < (Nt.pwL W F P).length → ((Nt.pwL W F P).getD j []).length = (Nt.pwL W F P).length := by
  cases h : Nt.pwB W F P
  · have e : Nt.pwL W F P = [] := by simp [Nt.pwL, h]
    rw [e]
    exact ⟨Nat.zero_le _, fun j hj => absurd hj (Nat.not_lt_zero _)⟩
  · have e : Nt.pwL W F P = Nt.pushL (Nt.byI W F P) F P := by simp [Nt.pwL, h]
    rw [e]
    have hl : (Nt.pushL (Nt.byI W F P) F P).length = m := (Nt.pushTo_len _ F P _).trans hF
    rw [hl]
    exact ⟨Nat.le_refl _, fun j hj => (Nt.pushTo_row _ F P j _).trans (hr j hj)⟩
theorem zeros_shape (n : Nat) : ∀ j, j < n → ((Nt.zeros n).getD j []).length = n := fun j hj => by rw [Nt.zeros_row hj, List.length_replicate]
def rdI (w : World) (g : Nat) : Int := match w.cell? ⟨g, 1, none⟩ with
  | some (.int .i64 z) => z
  | _ => 0
theorem rd_of {w : World} {g : Nat} {z : Int} (h : w.cell? ⟨g, 1, none⟩ = some (.int .i64 z)) : w.cell? ⟨g, 1, none⟩ = some (.int .i64 (rdI w g)) := by
  have e : rdI w g = z := by rw [rdI, h]
  rw [e]; exact h
theorem rd_set {w : World} {g : Nat} {u : Value} {z : Int} (h : w.cell? ⟨g, 1, none⟩ = some u) : (w.setCell ⟨g, 1, none⟩ (.int .i64 z)).cell? ⟨g, 1, none⟩ = some (.int .i64 (rdI (w.setCell ⟨g, 1, none⟩ (.int .i64 z)) g)) := rd_of (World.cell?_setCell_same w _ _ h)
set_option maxRecDepth 100000 in
set_option maxHeartbeats 8000000 in
theorem nf_any {c len cap N : Nat} {a : Option Addr} {w : World} (hc : Cur w c a len cap N) (hN : N ≤ 600000000) :
    Calls Try.prog 30 #[.pointer (some ⟨c, 0, none⟩)] w (NfPost w c a len cap (N + 2000)) := by
  have hcw := hc.1
  have HOLD := hide hc.old
  have HC := hide hc
  clear hc
  go_enter Try.func30, Try.ntmps30
  go_wp2_with fail
  refine (net_any HC.out (by omega)).mono ?_
  rintro e w1 ⟨v1, us1, n, C, rfl, hn9, hn1, hCl, hCr, L1, hc1, hk1⟩
  obtain ⟨a1, c1, ev1⟩ := L1.form
  rw [hCl] at ev1
  subst ev1
  have HN : Hid (C.length = n) := hide hCl
  have HL1 := hide L1
  have HC1 := hide hc1
  have HK1 := hide hk1
  have hcw1 : c < w1.heap.size := by have := hk1.size; omega
  have hw1 := hk1.size
  clear hc1 hk1 L1 hCl hCr HC
  have hmk := makeI_run n (by omega)
  have HZL : Hid ((Nt.zeros n).length = n) := hide (Nt.zeros_len n)
  go_wp2_with fail
  go_loopw [5, 14] (fun s3 sk wr => ∃ (k : Nat) (us : List Value), sk = .int .i64 k ∧ k ≤ n ∧ Hid (LL wr w1.heap.size 25 3 1 ints s3 us ((Nt.zeros n).take k)) ∧ Hid (Below w1.heap.size w1 wr)) (fun _ sk _ => n - (intOf sk).toNat)
  case atStart => exact ⟨0, [], rfl, Nat.zero_le _, hide (LL.nil _ _ _ _ _ _), hide (Below.refl _ _)⟩
  case round =>
    obtain ⟨k, us, rfl, hk, HL, HB⟩ := hrel
    by_cases hlt : k < n
    · have j0 : (0 : Int) ≤ (k : Int) := by omega
      have j1 : (k : Int) < (n : Int) := by omega
      have hkl : ((Nt.zeros n).take k).length = k := by rw [List.length_take, HZL.out]; omega
      obtain ⟨av, cv, ev⟩ := HL.out.form
      rw [hkl] at ev
      subst ev
      obtain ⟨G, cap', w2, p1, L2, B2⟩ := HL.out.pushRow (V := wr.alloc (.cells (madeCells #[.int .i64 0] n) 3)) (u := .slice (some ⟨wr.heap.size, 0, none⟩) n n) (r := List.replicate n 0) (below_new _ _) (by rw [List.length_replicate]; exact made_own wr n (by omega)) rfl (by rw [hkl]; omega) HB.out.size
      rw [hkl] at p1 L2
      rw [World.size_alloc] at p1
      rw [Nt.zeros_snoc hlt] at L2
      have HL2 := hide L2
      have HB2 := hide (HB.out.trans (B2.mono (Nat.le_refl _)))
      clear L2 B2 HL hkl
      go_wp2_with (first | (at_builtin; refine Lib.wpList_append_run _ rfl _ _ _ _ rfl _ _ rfl rfl _ _ (p1 _) ?_))
      go_roundw
      case rel => exact ⟨k + 1, _, by go_num, by omega, HL2, HB2⟩
      case measure => simp only [intOf]; omega
    · have hke : k = n := by omega
      subst hke
      have HE : Hid ((Nt.zeros k).take k = Nt.zeros k) := hide (List.take_of_length_le (by rw [HZL.out]; exact Nat.le_refl _))
      rw [HE.out] at HL
      have HLC := hide (HL1.out.below HB.out)
      have HC2 := hide (HC1.out.below HB.out)
      have HK2 := hide (kp_under13 HK1.out HB.out hw1)
      have hwr1 := HB.out.size
      clear hmk HE HL1 HC1 HK1 HB
      go_wp2_with fail
      refine (pick_any 4 (by omega) HC2.out (by omega)).mono ?_
      rintro e w3 ⟨r3, rfl, q0, q1, hc3, hk3⟩
      have HL3 := hide (HL.out.kp hk3 hcw1)
      have HLC3 := hide (HLC.out.kp hk3 hcw)
      have HC3 := hide hc3
      have HK3 := hide (HK2.out.trans hk3)
      have hw3 : w1.heap.size ≤ w3.heap.size := Nat.le_trans hwr1 hk3.size
      clear hc3 hk3 HL HLC HC2 HK2 hwr1
      go_wp2_with fail
      go_loopw [5, 6, 7, 8, 9] (fun sf s _ _ _ wr => ∃ (i : Int) (m : Nat) (us : List Value) (F : List (List Int)), s = .int .i64 i ∧ 0 ≤ i ∧ i ≤ 4 ∧ m ≤ 9 ∧ Hid (F.length = m) ∧ Hid (∀ j, j < m → (F.getD j []).length = m) ∧ Hid (LL wr w1.heap.size 25 3 1 ints sf us F) ∧ Hid (LL wr w.heap.size 25 3 1 ints (.slice a1 k c1) us1 C) ∧ Hid (Cur wr c a len cap (N + 1010)) ∧ Hid (Kp c w wr) ∧ w1.heap.size ≤ wr.heap.size) (fun _ s _ _ _ _ => (intOf s).toNat)
      case atStart => exact ⟨r3, k, us, Nt.zeros k, rfl, by omega, by omega, by omega, HZL, hide (zeros_shape k), HL3, HLC3, hide (HC3.out.le (by omega)), HK3, hw3⟩
      case round =>
        clear HL3 HLC3 HC3 HK3 hw3 q0 q1 us
        obtain ⟨i, m, us, F, rfl, hi0, hi4, hm9, HF, HR, HL, HLC, HCR, HKR, hwr⟩ := hrel
        obtain ⟨af, cf, ef⟩ := HL.out.form
        rw [HF.out] at ef
        subst ef
        by_cases hip : 0 < i
        · have HWC : Hid (CRow wr a1 C) := hide (LL.crow (c := c1) (by rw [HN.out]; exact HLC.out))
          have HFC : Hid (CRow wr af F) := hide (LL.crow (c := cf) (by rw [HF.out]; exact HL.out))
          have HNW := hide (snw_w (c := c1) (d := cf) HN (by omega) HF (by omega) HWC HFC)
          cases hnf : Nt.nfB C F
          · rw [hnf] at HNW
            generalize hnw : Nt.nwB C F = nwb at HNW
            clear hnf hnw
            go_wp2_with fail
            refine HNW.out.mono ?_
            rintro e w5 ⟨v5, rfl, own5, hb5⟩
            obtain ⟨a5, c5, e5⟩ := own_form2 own5
            subst e5
            have HL5 := hide (HL.out.below hb5)
            have HC5 := hide (HCR.out.below hb5)
            have HK5 := hide (kp_under13 HKR.out hb5 (by omega))
            have hw5 := hb5.size
            clear own5 hb5 HL HCR HKR HNW HWC HFC HLC
            generalize (Nt.nwL C F).length = l5 at *
            cases nwb
            · by_cases hm1 : 1 < m
              · have m1 : (1 : Int) < (m : Int) := by omega
                go_wp2_with fail
                refine (one_any 8 (by omega) HC5.out (by omega)).mono ?_
                rintro e w7 ⟨r7, rfl, hc7, hk7⟩
                have HL7 := hide (HL5.out.kp hk7 hcw1)
                have HC7 := hide hc7
                have HK7 := hide (HK5.out.trans hk7)
                clear hc7 hk7 HL5 HC5 HK5
                cases r7
                · go_wp2_with fail
                  go_ret2
                  exact ⟨_, _, us, m, F, rfl, hm9, HF.out, HL7.out.low hw1, HC7.out.le (by omega), HK7.out⟩
                · have hL0 : (F.getD 0 []).length = m := HR.out 0 (by omega)
                  have hFl := HF.out
                  have hF0 : 0 < F.length := by omega
                  obtain ⟨G, cv', eG, hG0, _⟩ := HL7.out.1.form hF0
                  rw [hFl] at eG
                  cases eG
                  obtain ⟨g, cg, t0, ug, t1⟩ := HL7.out.at2 hFl (i := 0) (k := 1) (by omega) (by omega)
                  rw [hL0] at t0 ug
                  have hGl := HL7.out.1.lt G rfl
                  have hgb : (us.getD 0 nilS).ownBlock = some g := by rw [ug]; rfl
                  have hGn : G ≠ g := fun e => HL7.out.2.2.1 0 g hF0 hgb (by rw [← e]; rfl)
                  have hgl := (HL7.out.2.1 0 hF0).lt g hgb
                  have HFP : Hid (∀ W z, Kp c w7 W → W.frozen? ⟨g, 1, none⟩ = false ∧ LL (W.setCell ⟨g, 1, none⟩ (.int .i64 z)) w1.heap.size 25 3 1 ints (.slice (some ⟨G, 0, none⟩) m cf) us (F.set 0 ((F.getD 0 []).set 1 z))) := hide fun W z hW => by
                    obtain ⟨g', c', e', r1, r2, _, _, r5⟩ := (HL7.out.kp hW hcw1).write (i := 0) (k := 1) (x := z) hF0 (by omega)
                    rw [ug] at e'
                    cases e'
                    exact ⟨r2, r5⟩
                  have hGc : G ≠ c := by omega
                  have hgc : g ≠ c := by omega
                  have hCD : Cur w7.drew c a len cap (N + 1012) := (HC7.out.le (by omega)).blocks (w' := w7.drew) (Nat.le_refl _) rfl (fun _ _ _ _ => rfl)
                  have HCD := hide hCD
                  have z1 : (0 : Int) < (m : Int) := by omega
                  have z2 : 0 < m := by omega
                  have z3 : ¬ m = 0 := by omega
                  generalize (F.getD 0 []).getD 1 0 = x at *
                  clear hCD ug hgb hL0 hFl hF0
                  go_upto_region 14 with fail
                  go_region_with (first
                    | (go_at_call 48; refine (pick_any 3 (by omega) HCD.out (by omega)).mono ?_; rintro e w6 ⟨z, rfl, z0, z1', hc6, hk6⟩; have hk6' : Kp c w7 w6 := ⟨hk6.os, hk6.tape, hk6.output, hk6.size, hk6.block⟩; have t6 := (hk6'.cell (o := 0) hGl.2 hGc).trans t0; have u6 := (hk6'.cell (o := 1) hgl.2 hgc).trans t1; obtain ⟨f6, _⟩ := HFP.out w6 0 hk6'; have HC6 := hide hc6; have HK6 := hide hk6'; clear hc6 hk6 hk6')
                    | fail)
                  all_goals
                    have FIN := hide (HFP.out w6 (IntKind.i64.wrap (x + IntKind.i64.wrap (z - 1))) HK6.out).2
                    have HK9 := hide (kp_set (o := 1) (v := .int .i64 (IntKind.i64.wrap (x + IntKind.i64.wrap (z - 1)))) (HK7.out.trans HK6.out) (Nat.le_trans hw1 hgl.1))
                    have HC9 := hide (cur_set (o := 1) (v := .int .i64 (IntKind.i64.wrap (x + IntKind.i64.wrap (z - 1)))) HC6.out hcw HOLD.out (Nat.le_trans hw1 hgl.1))
                    clear u6 f6 t6 t0 t1
                    generalize w6.setCell ⟨g, 1, none⟩ (.int .i64 (IntKind.i64.wrap (x + IntKind.i64.wrap (z - 1)))) = w9 at *
                    go_wp2_with fail
                    go_ret2
                    exact ⟨_, _, us, m, _, rfl, hm9, by rw [List.length_set]; exact HF.out, FIN.out.low hw1, HC9.out.le (by omega), HK9.out⟩
              · have m1 : ¬ (1 : Int) < (m : Int) := by omega
                go_wp2_with fail
                go_ret2
                exact ⟨_, _, us, m, F, rfl, hm9, HF.out, HL5.out.low hw1, HC5.out.le (by omega), HK5.out⟩
            · by_cases hm1 : 1 < m
              · have m1 : (1 : Int) < (m : Int) := by omega
                go_wp2_with fail
                refine (one_any 8 (by omega) HC5.out (by omega)).mono ?_
                rintro e w7 ⟨r7, rfl, hc7, hk7⟩
                have HL7 := hide (HL5.out.kp hk7 hcw1)
                have HC7 := hide hc7
                have HK7 := hide (HK5.out.trans hk7)
                clear hc7 hk7 HL5 HC5 HK5
                cases r7
                · go_wp2_with fail
                  go_ret2
                  exact ⟨_, _, us, m, F, rfl, hm9, HF.out, HL7.out.low hw1, HC7.out.le (by omega), HK7.out⟩
                · have hL0 : (F.getD 0 []).length = m := HR.out 0 (by omega)
                  have hFl := HF.out
                  have hF0 : 0 < F.length := by omega
                  obtain ⟨G, cv', eG, hG0, _⟩ := HL7.out.1.form hF0
                  rw [hFl] at eG
                  cases eG
                  obtain ⟨g, cg, t0, ug, t1⟩ := HL7.out.at2 hFl (i := 0) (k := 1) (by omega) (by omega)
                  rw [hL0] at t0 ug
                  have hGl := HL7.out.1.lt G rfl
                  have hgb : (us.getD 0 nilS).ownBlock = some g := by rw [ug]; rfl
                  have hGn : G ≠ g := fun e => HL7.out.2.2.1 0 g hF0 hgb (by rw [← e]; rfl)
                  have hgl := (HL7.out.2.1 0 hF0).lt g hgb
                  have HFP : Hid (∀ W z, Kp c w7 W → W.frozen? ⟨g, 1, none⟩ = false ∧ LL (W.setCell ⟨g, 1, none⟩ (.int .i64 z)) w1.heap.size 25 3 1 ints (.slice (some ⟨G, 0, none⟩) m cf) us (F.set 0 ((F.getD 0 []).set 1 z))) := hide fun W z hW => by
                    obtain ⟨g', c', e', r1, r2, _, _, r5⟩ := (HL7.out.kp hW hcw1).write (i := 0) (k := 1) (x := z) hF0 (by omega)
                    rw [ug] at e'
                    cases e'
                    exact ⟨r2, r5⟩
                  have hGc : G ≠ c := by omega
                  have hgc : g ≠ c := by omega
                  have hCD : Cur w7.drew c a len cap (N + 1012) := (HC7.out.le (by omega)).blocks (w' := w7.drew) (Nat.le_refl _) rfl (fun _ _ _ _ => rfl)
                  have HCD := hide hCD
                  have z1 : (0 : Int) < (m : Int) := by omega
                  have z2 : 0 < m := by omega
                  have z3 : ¬ m = 0 := by omega
                  generalize (F.getD 0 []).getD 1 0 = x at *
                  clear hCD ug hgb hL0 hFl hF0
                  go_upto_region 14 with fail
                  go_region_with (first
                    | (go_at_call 48; refine (pick_any 3 (by omega) HCD.out (by omega)).mono ?_; rintro e w6 ⟨z, rfl, z0, z1', hc6, hk6⟩; have hk6' : Kp c w7 w6 := ⟨hk6.os, hk6.tape, hk6.output, hk6.size, hk6.block⟩; have t6 := (hk6'.cell (o := 0) hGl.2 hGc).trans t0; have u6 := (hk6'.cell (o := 1) hgl.2 hgc).trans t1; obtain ⟨f6, _⟩ := HFP.out w6 0 hk6'; have HC6 := hide hc6; have HK6 := hide hk6'; clear hc6 hk6 hk6')
                    | fail)
                  all_goals
                    have FIN := hide (HFP.out w6 (IntKind.i64.wrap (x + IntKind.i64.wrap (z - 1))) HK6.out).2
                    have HK9 := hide (kp_set (o := 1) (v := .int .i64 (IntKind.i64.wrap (x + IntKind.i64.wrap (z - 1)))) (HK7.out.trans HK6.out) (Nat.le_trans hw1 hgl.1))
                    have HC9 := hide (cur_set (o := 1) (v := .int .i64 (IntKind.i64.wrap (x + IntKind.i64.wrap (z - 1)))) HC6.out hcw HOLD.out (Nat.le_trans hw1 hgl.1))
                    clear u6 f6 t6 t0 t1
                    generalize w6.setCell ⟨g, 1, none⟩ (.int .i64 (IntKind.i64.wrap (x + IntKind.i64.wrap (z - 1)))) = w9 at *
                    go_wp2_with fail
                    go_ret2
                    exact ⟨_, _, us, m, _, rfl, hm9, by rw [List.length_set]; exact HF.out, FIN.out.low hw1, HC9.out.le (by omega), HK9.out⟩
              · have m1 : ¬ (1 : Int) < (m : Int) := by omega
                go_wp2_with fail
                go_ret2
                exact ⟨_, _, us, m, F, rfl, hm9, HF.out, HL5.out.low hw1, HC5.out.le (by omega), HK5.out⟩
          · cases hnw : Nt.nwB C F
            · rw [hnf, hnw] at HNW
              clear hnf hnw
              go_wp2_with fail
              refine HNW.out.mono ?_
              rintro e w5 ⟨v5, rfl, own5, hb5⟩
              obtain ⟨a5, c5, e5⟩ := own_form2 own5
              subst e5
              have HL5 := hide (HL.out.below hb5)
              have HC5 := hide (HCR.out.below hb5)
              have HK5 := hide (kp_under13 HKR.out hb5 (by omega))
              have hw5 := hb5.size
              clear own5 hb5 HL HCR HKR HNW HWC HFC HLC
              generalize (Nt.nwL C F).length = l5 at *
              by_cases hm1 : 1 < m
              · have m1 : (1 : Int) < (m : Int) := by omega
                go_wp2_with fail
                refine (one_any 8 (by omega) HC5.out (by omega)).mono ?_
                rintro e w7 ⟨r7, rfl, hc7, hk7⟩
                have HL7 := hide (HL5.out.kp hk7 hcw1)
                have HC7 := hide hc7
                have HK7 := hide (HK5.out.trans hk7)
                clear hc7 hk7 HL5 HC5 HK5
                cases r7
                · go_wp2_with fail
                  go_ret2
                  exact ⟨_, _, us, m, F, rfl, hm9, HF.out, HL7.out.low hw1, HC7.out.le (by omega), HK7.out⟩
                · have hL0 : (F.getD 0 []).length = m := HR.out 0 (by omega)
                  have hFl := HF.out
                  have hF0 : 0 < F.length := by omega
                  obtain ⟨G, cv', eG, hG0, _⟩ := HL7.out.1.form hF0
                  rw [hFl] at eG
                  cases eG
                  obtain ⟨g, cg, t0, ug, t1⟩ := HL7.out.at2 hFl (i := 0) (k := 1) (by omega) (by omega)
                  rw [hL0] at t0 ug
                  have hGl := HL7.out.1.lt G rfl
                  have hgb : (us.getD 0 nilS).ownBlock = some g := by rw [ug]; rfl
                  have hGn : G ≠ g := fun e => HL7.out.2.2.1 0 g hF0 hgb (by rw [← e]; rfl)
                  have hgl := (HL7.out.2.1 0 hF0).lt g hgb
                  have HFP : Hid (∀ W z, Kp c w7 W → W.frozen? ⟨g, 1, none⟩ = false ∧ LL (W.setCell ⟨g, 1, none⟩ (.int .i64 z)) w1.heap.size 25 3 1 ints (.slice (some ⟨G, 0, none⟩) m cf) us (F.set 0 ((F.getD 0 []).set 1 z))) := hide fun W z hW => by
                    obtain ⟨g', c', e', r1, r2, _, _, r5⟩ := (HL7.out.kp hW hcw1).write (i := 0) (k := 1) (x := z) hF0 (by omega)
                    rw [ug] at e'
                    cases e'
                    exact ⟨r2, r5⟩
                  have hGc : G ≠ c := by omega
                  have hgc : g ≠ c := by omega
                  have hCD : Cur w7.drew c a len cap (N + 1012) := (HC7.out.le (by omega)).blocks (w' := w7.drew) (Nat.le_refl _) rfl (fun _ _ _ _ => rfl)
                  have HCD := hide hCD
                  have z1 : (0 : Int) < (m : Int) := by omega
                  have z2 : 0 < m := by omega
                  have z3 : ¬ m = 0 := by omega
                  generalize (F.getD 0 []).getD 1 0 = x at *
                  clear hCD ug hgb hL0 hFl hF0
                  go_upto_region 14 with fail
                  go_region_with (first
                    | (go_at_call 48; refine (pick_any 3 (by omega) HCD.out (by omega)).mono ?_; rintro e w6 ⟨z, rfl, z0, z1', hc6, hk6⟩; have hk6' : Kp c w7 w6 := ⟨hk6.os, hk6.tape, hk6.output, hk6.size, hk6.block⟩; have t6 := (hk6'.cell (o := 0) hGl.2 hGc).trans t0; have u6 := (hk6'.cell (o := 1) hgl.2 hgc).trans t1; obtain ⟨f6, _⟩ := HFP.out w6 0 hk6'; have HC6 := hide hc6; have HK6 := hide hk6'; clear hc6 hk6 hk6')
                    | fail)
                  all_goals
                    have FIN := hide (HFP.out w6 (IntKind.i64.wrap (x + IntKind.i64.wrap (z - 1))) HK6.out).2
                    have HK9 := hide (kp_set (o := 1) (v := .int .i64 (IntKind.i64.wrap (x + IntKind.i64.wrap (z - 1)))) (HK7.out.trans HK6.out) (Nat.le_trans hw1 hgl.1))
                    have HC9 := hide (cur_set (o := 1) (v := .int .i64 (IntKind.i64.wrap (x + IntKind.i64.wrap (z - 1)))) HC6.out hcw HOLD.out (Nat.le_trans hw1 hgl.1))
                    clear u6 f6 t6 t0 t1
                    generalize w6.setCell ⟨g, 1, none⟩ (.int .i64 (IntKind.i64.wrap (x + IntKind.i64.wrap (z - 1)))) = w9 at *
                    go_wp2_with fail
                    go_ret2
                    exact ⟨_, _, us, m, _, rfl, hm9, by rw [List.length_set]; exact HF.out, FIN.out.low hw1, HC9.out.le (by omega), HK9.out⟩
              · have m1 : ¬ (1 : Int) < (m : Int) := by omega
                go_wp2_with fail
                go_ret2
                exact ⟨_, _, us, m, F, rfl, hm9, HF.out, HL5.out.low hw1, HC5.out.le (by omega), HK5.out⟩
            · have hpos : 0 < (Nt.nwL C F).length := of_decide_eq_true hnw
              have hl8 : (Nt.nwL C F).length ≤ 1048576 := by
                have e : Nt.nwL C F = Nt.wayOf C F := by simp [Nt.nwL, hnf]
                have hN := Nt.nfB_iff.1 hnf
                have h2 := Nt.rowsB_len (Nt.netB_rows hN.net)
                rw [e]
                rw [e] at hpos
                have := (Nt.wayOf_is h2.1 (List.length_pos_iff.1 hpos)).few
                omega
              rw [hnf, hnw] at HNW
              generalize hP : Nt.nwL C F = P at *
              obtain ⟨l, hl⟩ : ∃ l, P.length = l := ⟨_, rfl⟩
              rw [hl] at hpos hl8 HNW
              have HP := hide hl
              clear hnf hnw hP hl
              go_wp2_with fail
              refine HNW.out.mono ?_
              rintro e w5 ⟨v5, rfl, own5, hb5⟩
              obtain ⟨g5, c5, e5, hg5, hc5⟩ := own5.form hpos
              subst e5
              have HL5 := hide (HL.out.below hb5)
              have HLC5 := hide (HLC.out.below hb5)
              have HC5 := hide (HCR.out.below hb5)
              have HK5 := hide (kp_under13 HKR.out hb5 (by omega))
              have hw5 := hb5.size
              have HPR : Hid (ARow w5 (some ⟨g5, 0, none⟩) P) := hide (arow_owns HP.out.symm own5)
              have HWC5 : Hid (CRow w5 a1 C) := hide (HWC.out.below hb5)
              have HFC5 : Hid (CRow w5 af F) := hide (HFC.out.below hb5)
              have HSH := hide (pwL_shape (W := C) (P := P) HF.out HR.out)
              have hlc5 : l ≤ c5 := by
                obtain ⟨_, _, e9, h9, _⟩ := own_cap HP.out own5
                cases e9
                exact h9
              have HPW := hide (spw_w (c := c1) (d := cf) (e' := c5) HN (by omega) HF (by omega) HP hl8 hlc5 HWC5 HFC5 HPR)
              clear own5 hb5 HL HLC HCR HKR HNW HWC HFC HWC5 HFC5 HPR
              go_wp2_with fail
              refine HPW.out.mono ?_
              rintro e w6 ⟨v6, us6, rfl, L6, hb6⟩
              have HL6 := hide (L6.low (by omega : w1.heap.size ≤ w5.heap.size))
              have HLC6 := hide (HLC5.out.below hb6)
              have HC6 := hide (HC5.out.below hb6)
              have HK6 := hide (kp_under13 HK5.out hb6 (by omega))
              have hw6 := hb6.size
              obtain ⟨a6, c6, e6⟩ := L6.form
              subst e6
              obtain ⟨F6, hF6⟩ : ∃ F6, F6 = Nt.pwL C F P := ⟨_, rfl⟩
              rw [← hF6] at HL6 HSH
              clear L6 hb6 HPW HL5 HLC5 HC5 HK5
              rw [← hF6]
              obtain ⟨m6, hm6⟩ : ∃ m6, F6.length = m6 := ⟨_, rfl⟩
              rw [hm6] at HL6 HSH ⊢
              have hm69 : m6 ≤ 9 := by have := HSH.out.1; omega
              have HF6 := hide hm6
              have HR6 := hide HSH.out.2
              clear HSH hm6 hF6
              go_wp2_with fail
              go_roundw
              case rel => exact ⟨i - 1, m6, us6, F6, by go_num, by omega, by omega, hm69, HF6, HR6, HL6, HLC6, HC6, HK6, by omega⟩
              case measure => simp only [intOf]; omega
        · have hw5 : wr.heap.size ≤ wr.heap.size := Nat.le_refl _
          obtain ⟨w5, ew5⟩ : ∃ w5, w5 = wr := ⟨_, rfl⟩
          subst ew5
          have HL5 := HL
          have HC5 := HCR
          have HK5 := HKR
          clear HL HCR HKR HLC
          by_cases hm1 : 1 < m
          · have m1 : (1 : Int) < (m : Int) := by omega
            go_wp2_with fail
            refine (one_any 8 (by omega) HC5.out (by omega)).mono ?_
            rintro e w7 ⟨r7, rfl, hc7, hk7⟩
            have HL7 := hide (HL5.out.kp hk7 hcw1)
            have HC7 := hide hc7
            have HK7 := hide (HK5.out.trans hk7)
            clear hc7 hk7 HL5 HC5 HK5
            cases r7
            · go_wp2_with fail
              go_ret2
              exact ⟨_, _, us, m, F, rfl, hm9, HF.out, HL7.out.low hw1, HC7.out.le (by omega), HK7.out⟩
            · have hL0 : (F.getD 0 []).length = m := HR.out 0 (by omega)
              have hFl := HF.out
              have hF0 : 0 < F.length := by omega
              obtain ⟨G, cv', eG, hG0, _⟩ := HL7.out.1.form hF0
              rw [hFl] at eG
              cases eG
              obtain ⟨g, cg, t0, ug, t1⟩ := HL7.out.at2 hFl (i := 0) (k := 1) (by omega) (by omega)
              rw [hL0] at t0 ug
              have hGl := HL7.out.1.lt G rfl
              have hgb : (us.getD 0 nilS).ownBlock = some g := by rw [ug]; rfl
              have hGn : G ≠ g := fun e => HL7.out.2.2.1 0 g hF0 hgb (by rw [← e]; rfl)
              have hgl := (HL7.out.2.1 0 hF0).lt g hgb
              have HFP : Hid (∀ W z, Kp c w7 W → W.frozen? ⟨g, 1, none⟩ = false ∧ LL (W.setCell ⟨g, 1, none⟩ (.int .i64 z)) w1.heap.size 25 3 1 ints (.slice (some ⟨G, 0, none⟩) m cf) us (F.set 0 ((F.getD 0 []).set 1 z))) := hide fun W z hW => by
                obtain ⟨g', c', e', r1, r2, _, _, r5⟩ := (HL7.out.kp hW hcw1).write (i := 0) (k := 1) (x := z) hF0 (by omega)
                rw [ug] at e'
                cases e'
                exact ⟨r2, r5⟩
              have hGc : G ≠ c := by omega
              have hgc : g ≠ c := by omega
              have hCD : Cur w7.drew c a len cap (N + 1012) := (HC7.out.le (by omega)).blocks (w' := w7.drew) (Nat.le_refl _) rfl (fun _ _ _ _ => rfl)
              have HCD := hide hCD
              have z1 : (0 : Int) < (m : Int) := by omega
              have z2 : 0 < m := by omega
              have z3 : ¬ m = 0 := by omega
              generalize (F.getD 0 []).getD 1 0 = x at *
              clear hCD ug hgb hL0 hFl hF0
              go_upto_region 14 with fail
              go_region_with (first
                | (go_at_call 48; refine (pick_any 3 (by omega) HCD.out (by omega)).mono ?_; rintro e w6 ⟨z, rfl, z0, z1', hc6, hk6⟩; have hk6' : Kp c w7 w6 := ⟨hk6.os, hk6.tape, hk6.output, hk6.size, hk6.block⟩; have t6 := (hk6'.cell (o := 0) hGl.2 hGc).trans t0; have u6 := (hk6'.cell (o := 1) hgl.2 hgc).trans t1; obtain ⟨f6, _⟩ := HFP.out w6 0 hk6'; have HC6 := hide hc6; have HK6 := hide hk6'; clear hc6 hk6 hk6')
                | fail)
              all_goals
                have FIN := hide (HFP.out w6 (IntKind.i64.wrap (x + IntKind.i64.wrap (z - 1))) HK6.out).2
                have HK9 := hide (kp_set (o := 1) (v := .int .i64 (IntKind.i64.wrap (x + IntKind.i64.wrap (z - 1)))) (HK7.out.trans HK6.out) (Nat.le_trans hw1 hgl.1))
                have HC9 := hide (cur_set (o := 1) (v := .int .i64 (IntKind.i64.wrap (x + IntKind.i64.wrap (z - 1)))) HC6.out hcw HOLD.out (Nat.le_trans hw1 hgl.1))
                clear u6 f6 t6 t0 t1
                generalize w6.setCell ⟨g, 1, none⟩ (.int .i64 (IntKind.i64.wrap (x + IntKind.i64.wrap (z - 1)))) = w9 at *
                go_wp2_with fail
                go_ret2
                exact ⟨_, _, us, m, _, rfl, hm9, by rw [List.length_set]; exact HF.out, FIN.out.low hw1, HC9.out.le (by omega), HK9.out⟩
          · have m1 : ¬ (1 : Int) < (m : Int) := by omega
            go_wp2_with fail
            go_ret2
            exact ⟨_, _, us, m, F, rfl, hm9, HF.out, HL5.out.low hw1, HC5.out.le (by omega), HK5.out⟩
end Go.Proofs.Ytnepjahhconodaa
namespace Go.Proofs.Ytnepjahhconodaa
open Go.RowKit

theorem cur_below13 {w w1 : World} {o : Obj} (hk : Kp w.heap.size (w.alloc o) w1) : Below w.heap.size w w1 :=
  (below_alloc w o).trans (hk.below (Nat.le_refl _) (by simp))
def NGPost (w : World) (e : Ending) (w' : World) : Prop := ∃ ao co n, ∃ (C : List (List Int)), e = .returned (.slice ao n co) ∧ n ≤ 9 ∧ C.length = n ∧ CRow w' ao C ∧ Below w.heap.size w w'
set_option maxRecDepth 100000 in
set_option maxHeartbeats 1000000 in
theorem drawGN_any {a : Option Addr} {len cap : Nat} {w : World} (hs : Hid (Src w a len)) :
    Calls Try.prog 15 #[.slice a len cap] w (NGPost w) := by
  have HC := hide (cur_new (cap := cap) hs.out)
  go_enter Try.func15, Try.ntmps15
  go_wp2_with fail
  refine (net_any HC.out (by omega)).mono ?_
  rintro e w1 ⟨v, us, n, C, rfl, hn, _, hl, _, L1, hc1, hk1⟩
  obtain ⟨ao, co, ev⟩ := L1.form
  have HR : Hid (CRow w1 ao C) := hide (LL.crow (c := co) (by rw [← ev]; exact L1))
  rw [hl] at ev
  subst ev
  have HB := hide (cur_below13 hk1)
  have HL := hide hl
  clear L1 hc1 hk1 HC hl
  go_wp2_with fail
  go_ret
  exact ⟨ao, co, n, C, rfl, hn, HL.out, HR.out, HB.out⟩
set_option maxRecDepth 100000 in
set_option maxHeartbeats 1000000 in
theorem drawCO_any {a : Option Addr} {len cap : Nat} {w : World} (hs : Hid (Src w a len)) :
    Calls Try.prog 4 #[.slice a len cap] w (NGPost w) := by
  go_enter Try.func4, Try.ntmps4
  go_wp2_with fail
  refine (drawGN_any hs).mono ?_
  rintro e w1 ⟨ao, co, n, C, rfl, hn, hl, hr, hb⟩
  have HR := hide hr
  have HB := hide hb
  have HL := hide hl
  clear hr hb hl
  go_wp2_with fail
  go_ret
  exact ⟨ao, co, n, C, rfl, hn, HL.out, HR.out, HB.out⟩
set_option maxRecDepth 100000 in
set_option maxHeartbeats 1000000 in
theorem drawFV_any {a : Option Addr} {len cap : Nat} {w : World} (hs : Hid (Src w a len)) :
    Calls Try.prog 12 #[.slice a len cap] w (NGPost w) := by
  have HC := hide (cur_new (cap := cap) hs.out)
  go_enter Try.func12, Try.ntmps12
  go_wp2_with fail
  refine (nf_any HC.out (by omega)).mono ?_
  rintro e w1 ⟨v, f, us, n, C, rfl, hn, hl, L1, hc1, hk1⟩
  obtain ⟨ao, co, ev⟩ := L1.form
  have HR : Hid (CRow w1 ao C) := hide (LL.crow (c := co) (by rw [← ev]; exact L1))
  rw [hl] at ev
  subst ev
  have HB := hide (cur_below13 hk1)
  have HL := hide hl
  clear L1 hc1 hk1 HC hl
  go_wp2_with fail
  go_ret
  exact ⟨ao, co, n, C, rfl, hn, HL.out, HR.out, HB.out⟩
def CWPost (w : World) (e : Ending) (w' : World) : Prop := ∃ ao co n am cm m, ∃ (C : List (List Int)) (s : List Int), e = .returned (.tuple #[.slice ao n co, .slice am m cm]) ∧ n ≤ 9 ∧ C.length = n ∧ m ≤ 9 ∧ s.length = m ∧ CRow w' ao C ∧ ARow w' am s ∧ Below w.heap.size w w'
set_option maxRecDepth 100000 in
set_option maxHeartbeats 4000000 in
theorem drawCW_any {a : Option Addr} {len cap : Nat} {w : World} (hs : Hid (Src w a len)) :
    Calls Try.prog 10 #[.slice a len cap] w (CWPost w) := by
  have HC := hide (cur_new (cap := cap) hs.out)
  have HOLD : Hid (∀ b off, a = some ⟨b, off, none⟩ → 0 < len → b < w.heap.size) := hide (by
    have h := cur_new (cap := cap) hs.out
    intro b off e hl
    have h1 := h.2.2.2.2.2.2.2 b off e hl
    have h2 := h1.2
    have h3 := h1.1
    simp at h2
    omega)
  obtain ⟨w0, hw0⟩ : ∃ w0, w0 = w.alloc (.cells #[.slice a len cap, .int .i64 0, .int .u64 0] 47) := ⟨_, rfl⟩
  have HW0 := hide hw0
  have hcw0 : w.heap.size < w0.heap.size := by rw [hw0]; simp
  rw [← hw0] at HC
  clear hw0
  go_enter Try.func10, Try.ntmps10
  go_wp2_with fail
  rw [← HW0.out]
  refine (net_any HC.out (by omega)).mono ?_
  rintro e w1 ⟨v, us, n, C, rfl, hn, hn1, hl, _, L1, hc1, hk1⟩
  obtain ⟨ao, co, ev⟩ := L1.form
  have HR : Hid (∀ W, Kp w.heap.size w1 W → CRow W ao C) := hide fun W hW => LL.crow (c := co) (by rw [← ev]; exact L1.kp hW hcw0)
  rw [hl] at ev
  subst ev
  have HL := hide hl
  have HC1 := hide hc1
  have HK1 := hide hk1
  have hz1 := hk1.size
  clear L1 hc1 hk1 HC hl
  have own0 : (w1.alloc (.cells #[.int .i64 0] 3)).ownsRow w1.heap.size 3 1 (.slice (some ⟨w1.heap.size, 0, none⟩) 1 1) 1 (ints [0]) := by
    have h := World.ownsRow_lit (base := w1.heap.size) (e := 3) (size := 1) w1 #[.int .i64 0] 1 (Nat.le_refl _) (by unfold maxLen; omega) (by simp)
    simpa [ints] using h
  have HO0 := hide own0
  have HC2 := hide (HC1.out.below (below_alloc w1 (.cells #[.int .i64 0] 3)))
  have HK2 : Hid (Kp w.heap.size w1 (w1.alloc (.cells #[.int .i64 0] 3))) := hide ((Kp.refl _ _).alloc _)
  have hcw1 : w.heap.size < w1.heap.size := by omega
  clear own0 HC1
  go_wp2_with fail
  go_loopw [6, 7] (fun sv sk wr => ∃ (k m : Nat) (s : List Int), sk = .int .i64 k ∧ 1 ≤ k ∧ k ≤ n ∧ m ≤ k ∧ Hid (s.length = m) ∧ Hid (wr.ownsRow w1.heap.size 3 1 sv m (ints s)) ∧ Hid (Cur wr w.heap.size a len cap (1000 + 4 * k)) ∧ Hid (Kp w.heap.size w1 wr)) (fun _ sk _ => n - (intOf sk).toNat)
  case atStart => exact ⟨1, 1, [0], rfl, by omega, by omega, by omega, hide rfl, HO0, hide (HC2.out.le (by omega)), HK2⟩
  case round =>
    clear HO0 HC2 HK2
    obtain ⟨k, m, s, rfl, hk1, hkn, hmk, HM, HO, HCR, HKR⟩ := hrel
    obtain ⟨as1, cs, es⟩ := own_form2 HO.out
    subst es
    by_cases hlt : k < n
    · have j1 : (k : Int) < (n : Int) := by omega
      go_wp2_with fail
      refine (one_any 2 (by omega) HCR.out (by omega)).mono ?_
      rintro e w5 ⟨r5, rfl, hc5, hk5⟩
      have HC5 := hide hc5
      have HK5 := hide (HKR.out.trans hk5)
      have HO5 := hide (own_kp HO.out hk5 hcw1)
      clear hc5 hk5 HCR HKR HO
      cases r5
      · go_wp2_with fail
        go_roundw
        case rel => exact ⟨k + 1, m, s, by go_num, by omega, by omega, by omega, HM, HO5, hide (HC5.out.le (by omega)), HK5⟩
        case measure => simp only [intOf]; omega
      · obtain ⟨v4, w4, hr4, own4, hg4⟩ := push_int (x := (k : Int)) HO5.out (by omega) HK5.out.size
        rw [← ints_snoc] at own4
        have HO4 := hide own4
        have HK4' := hide (kp_push HK5.out HO5.out hg4)
        have HC4' := hide (cur_push HC5.out hcw1 (fun b off e hl => by have := HOLD.out b off e hl; omega) HK5.out.size HO5.out hg4)
        clear own4 hg4
        go_wp2_with (first | (at_builtin; refine Lib.wpList_append_run _ rfl _ _ _ _ rfl _ _ rfl rfl _ _ (hr4 _) ?_))
        go_roundw
        case rel => exact ⟨k + 1, m + 1, s ++ [(k : Int)], by go_num, by omega, by omega, by omega, hide (by rw [List.length_append, HM.out]; rfl), HO4, hide (HC4'.out.le (by omega)), HK4'⟩
        case measure => simp only [intOf]; omega
    · have j1 : ¬ (k : Int) < (n : Int) := by omega
      have HRR := hide (HR.out _ HKR.out)
      have HAR : Hid (ARow wr as1 s) := hide (by
        obtain ⟨a9, c9, e9, _, r9⟩ := own_cap HM.out HO.out
        cases e9
        exact r9)
      have HB : Hid (Below w.heap.size w wr) := hide (by
        have h := HK1.out.trans HKR.out
        rw [HW0.out] at h
        exact cur_below13 h)
      go_wp2_with fail
      go_ret2
      exact ⟨ao, co, n, as1, cs, m, C, s, rfl, hn, HL.out, by omega, HM.out, HRR.out, HAR.out, HB.out⟩
end Go.Proofs.Ytnepjahhconodaa
namespace Go.Proofs.Ytnepjahhconodaa.Nt

def moL (W : List (List Int)) : List (List Int) := if netB W then mostL W else []
def moI (W : List (List Int)) : Int := if netB W then outI (mostL W) 0 else 0
def coL (W : List (List Int)) : List Int := if netB W then sideL (come (rooms W (mostL W)) W.length) else []
theorem come_len (R : List (List Int)) {n : Nat} (hn : 0 < n) : (come R n).length = n := by
  obtain ⟨H, hb⟩ := come_inv R hn
  exact hb.len
end Go.Proofs.Ytnepjahhconodaa.Nt
namespace Go.Proofs.Ytnepjahhconodaa
open Go.RowKit

theorem ri_z14 {a : Option Addr} {n c q : Nat} {z : Int} {l : List Int} {w : World} {r : Bool} (hz : z = (q : Int)) (hn : Hid (l.length = n)) (hl : n ≤ 1048576) (hq : q ≤ 1000) (h : Hid (ARow w a l)) (hr : Hid (Ma.riseB l q = r)) :
    Calls Try.prog 59 #[.slice a n c, .int .i64 z] w fun e w' => e = .returned (.bool r) ∧ w' = w := hz ▸ ri_eq hn hl hq h hr
set_option maxRecDepth 100000 in
set_option maxHeartbeats 1000000 in
theorem rf0_eq {a : Option Addr} {c m q : Nat} {z : Int} {s : List Int} {w : World} {r : Bool} (hz : z = (q : Int)) (HN : Hid (s.length = m)) (hm : m ≤ 1048576) (hq : q ≤ 1000) (H : Hid (ARow w a s)) (hr : Hid ((decide (0 < s.length) && (s.getD 0 0 == 0) && Ma.riseB s q) = r)) :
    Calls Try.prog 46 #[.slice a m c, .int .i64 z] w fun e w' => e = .returned (.bool r) ∧ w' = w := by
  by_cases hm0 : m = 0
  · subst hm0
    have H1 : Hid (r = false) := hide (by rw [← hr.out]; simp [HN.out])
    clear hz
    go_enter Try.func46, Try.ntmps46
    go_wp2_with fail
    go_ret
    exact ⟨ret_bool H1.out.symm, rfl⟩
  · obtain ⟨b, off, rfl, r1⟩ := H.out.at (i := 0) (by rw [HN.out]; omega)
    have m0 : (0 : Int) < (m : Int) := by omega
    have m1 : ¬ ((m : Int) ≤ 0) := by omega
    rw [Nat.add_zero] at r1
    have HR : Hid ((decide (0 < s.length) && (s.getD 0 0 == 0) && Ma.riseB s q) = ((s.getD 0 0 == 0) && Ma.riseB s q)) := hide (by simp [HN.out, show 0 < m by omega])
    generalize s.getD 0 0 = x at *
    by_cases hx : x = 0
    · subst hx
      have H1 : Hid (Ma.riseB s q = r) := hide (by rw [← hr.out, HR.out]; rfl)
      have HZ := hide hz
      clear hz
      go_enter Try.func46, Try.ntmps46
      go_wp2_with fail
      refine (ri_z14 HZ.out HN hm hq H H1).mono ?_
      rintro e w1 ⟨rfl, hw1⟩
      obtain rfl : w = w1 := hw1.symm
      go_wp2_with fail
      go_ret
      exact ⟨rfl, rfl⟩
    · have H1 : Hid (r = false) := hide (by rw [← hr.out, HR.out]; simp [hx])
      have hx' : (x == (0 : Int)) = false := by simpa using hx
      clear hz
      go_enter Try.func46, Try.ntmps46
      go_wp2_with fail
      go_ret
      exact ⟨ret_bool H1.out.symm, rfl⟩
end Go.Proofs.Ytnepjahhconodaa
namespace Go.Proofs.Ytnepjahhconodaa
namespace Nt
open Bx (sumTo)
/-- What goes from a hall to the first so many halls that are not of the side. -/
def cut1 (c : List (List Int)) (s : List Int) (a k : Nat) : Int := sumTo (fun b => if s.contains (b : Int) then 0 else at2 c a b) k
def cutTo (c : List (List Int)) (s : List Int) (j : Nat) : Int := sumTo (fun i => cut1 c s (s.getD i 0).toNat c.length) j
def cwI (c : List (List Int)) (s : List Int) : Int := if sideB c s then cutTo c s s.length else 0
/-- A side, of so many halls. -/
def sB (s : List Int) (n : Nat) : Bool := decide (0 < s.length) && (s.getD 0 0 == 0) && Ma.riseB s (n - 1)
theorem sideB_eq (c : List (List Int)) (s : List Int) : sideB c s = (netB c && sB s c.length) := rfl
theorem sB_at {s : List Int} {n i : Nat} (h : sB s n = true) (hi : i < s.length) : 0 ≤ s.getD i 0 ∧ s.getD i 0 + 1 < n := by
  simp only [sB, Bool.and_eq_true] at h
  have h1 : ∀ j, j < s.length → Ma.riseAt s (n - 1) j = true := fun j hj => List.all_eq_true.1 h.2 j (by simpa using hj)
  have h2 := Ma.least_nn (k := i) fun j hj => h1 j (by omega)
  have h3 := Pf.inB_yes (h1 i hi)
  omega
theorem sB_len {s : List Int} {n : Nat} (h : sB s n = true) : s.length ≤ n - 1 := by
  simp only [sB, Bool.and_eq_true] at h
  exact Ma.riseB_len h.2
theorem cut1_bd {c : List (List Int)} {s : List Int} {a k : Nat} (h : rowsB c = true) (ha : a < c.length) (hk : k ≤ c.length) : 0 ≤ cut1 c s a k ∧ cut1 c s a k ≤ 50 * k := by
  have := sumTo_bd (f := fun b => if s.contains (b : Int) then 0 else at2 c a b) (lo := 0) (hi := 50) k fun i hi => by
    have := rowsB_bd h ha (k := i) (by omega)
    show 0 ≤ (if s.contains (i : Int) then 0 else at2 c a i) ∧ (if s.contains (i : Int) then 0 else at2 c a i) ≤ 50
    split <;> omega
  rw [Int.zero_mul] at this
  exact this
theorem cutTo_bd {c : List (List Int)} {s : List Int} {j : Nat} (h : rowsB c = true) (hs : sB s c.length = true) (hj : j ≤ s.length) : 0 ≤ cutTo c s j ∧ cutTo c s j ≤ 400 * j := by
  have := sumTo_bd (f := fun i => cut1 c s (s.getD i 0).toNat c.length) (lo := 0) (hi := 400) j fun i hi => by
    have h1 := sB_at hs (i := i) (by omega)
    have h2 := cut1_bd (s := s) h (a := (s.getD i 0).toNat) (k := c.length) (by omega) (Nat.le_refl _)
    have h3 := rowsB_len h
    omega
  rw [Int.zero_mul] at this
  exact this
end Nt
open Go.RowKit
theorem ri_z {a : Option Addr} {n c q : Nat} {z : Int} {l : List Int} {w : World} {r : Bool} (hz : z = (q : Int)) (hn : Hid (l.length = n)) (hl : n ≤ 1048576) (hq : q ≤ 1000) (h : Hid (ARow w a l)) (hr : Hid (Ma.riseB l q = r)) :
    Calls Try.prog 59 #[.slice a n c, .int .i64 z] w fun e w' => e = .returned (.bool r) ∧ w' = w := hz ▸ ri_eq hn hl hq h hr
set_option maxRecDepth 100000 in
set_option maxHeartbeats 1000000 in
theorem is_eq {a : Option Addr} {n c m : Nat} {s : List Int} {w : World} {r : Bool} (HN : Hid (s.length = m)) (hm : m ≤ 1048576) (h2 : 2 ≤ n) (h8 : n ≤ 8) (H : Hid (ARow w a s)) (hr : Hid (Nt.sB s n = r)) :
    Calls Try.prog 24 #[.slice a m c, .int .i64 (n : Int)] w fun e w' => e = .returned (.bool r) ∧ w' = w := by
  have hz : (n : Int) - 1 = ((n - 1 : Nat) : Int) := by omega
  have HC := hide (rf0_eq (c := c) hz HN hm (by omega) H hr)
  clear hz
  go_enter Try.func24, Try.ntmps24
  go_wp2_with fail
  refine HC.out.mono ?_
  rintro e w1 ⟨rfl, hw1⟩
  obtain rfl : w = w1 := hw1.symm
  go_wp2_with fail
  go_ret
  exact ⟨rfl, rfl⟩
set_option maxRecDepth 100000 in
set_option maxHeartbeats 2000000 in
theorem cw_no {a a' : Option Addr} {n c m d : Nat} {C : List (List Int)} {s : List Int} {w : World} (HN : Hid (C.length = n)) (HM : Hid (s.length = m)) (hm : m ≤ 1048576) (H : Hid (CRow w a C)) (H' : Hid (ARow w a' s)) (hr : Nt.sideB C s = false) :
    Calls Try.prog 9 #[.slice a n c, .slice a' m d] w fun e w' => e = .returned (.tuple #[.int .i64 0, .bool false]) ∧ w' = w := by
  cases hg : Nt.netB C
  · have HG := hide hg
    go_enter Try.func9, Try.ntmps9
    go_wp2_with fail
    refine (gn_eq HN H HG).mono ?_
    rintro e w1 ⟨rfl, hw1⟩
    obtain rfl : w = w1 := hw1.symm
    go_wp2_with fail
    go_ret2
    exact ⟨rfl, rfl⟩
  · have HG := hide hg
    have HS : Hid (Nt.sB s n = false) := hide (by rw [Nt.sideB_eq, hg, HN.out] at hr; exact hr)
    have h8 := Nt.rowsB_len (Nt.netB_rows hg)
    rw [HN.out] at h8
    obtain ⟨h2, h8⟩ := h8
    go_enter Try.func9, Try.ntmps9
    go_wp2_with fail
    refine (gn_eq HN H HG).mono ?_
    rintro e w1 ⟨rfl, hw1⟩
    obtain rfl : w = w1 := hw1.symm
    go_wp2_with fail
    refine (is_eq HM hm h2 h8 H' HS).mono ?_
    rintro e w1 ⟨rfl, hw1⟩
    obtain rfl : w = w1 := hw1.symm
    go_wp2_with fail
    go_ret2
    exact ⟨rfl, rfl⟩
set_option maxRecDepth 100000 in
set_option maxHeartbeats 2000000 in
theorem cw_yes {a a' : Option Addr} {n c m d : Nat} {C : List (List Int)} {s : List Int} {w : World} (HN : Hid (C.length = n)) (HM : Hid (s.length = m)) (hm : m ≤ 1048576) (H : Hid (CRow w a C)) (H' : Hid (ARow w a' s)) (hr : Nt.sideB C s = true) :
    Calls Try.prog 9 #[.slice a n c, .slice a' m d] w fun e w' => e = .returned (.tuple #[.int .i64 (Nt.cwI C s), .bool true]) ∧ w' = w := by
  have hE : Nt.cwI C s = Nt.cutTo C s m := by rw [Nt.cwI, if_pos hr, HM.out]
  rw [hE]
  rw [Nt.sideB_eq, Bool.and_eq_true, HN.out] at hr
  have HG := hide hr.1
  have HS := hide hr.2
  have HRW := hide (Nt.netB_rows hr.1)
  have h8 := Nt.rowsB_len (Nt.netB_rows hr.1)
  rw [HN.out] at h8
  obtain ⟨h2, h8⟩ := h8
  have hml := Nt.sB_len hr.2
  rw [HM.out] at hml
  clear hr hE
  go_enter Try.func9, Try.ntmps9
  go_wp2_with fail
  refine (gn_eq HN H HG).mono ?_
  rintro e w1 ⟨rfl, hw1⟩
  obtain rfl : w = w1 := hw1.symm
  go_wp2_with fail
  refine (is_eq HM hm h2 h8 H' HS).mono ?_
  rintro e w1 ⟨rfl, hw1⟩
  obtain rfl : w = w1 := hw1.symm
  go_wp2_with fail
  go_loop [6, 8, 9, 10, 23] (fun s6 _ _ _ sk => ∃ (i : Nat) (x : Int), s6 = .int .i64 x ∧ sk = .int .i64 i ∧ i ≤ m ∧ Hid (x = Nt.cutTo C s i)) (fun _ _ _ _ sk => m - (intOf sk).toNat)
  case atStart => exact ⟨0, 0, rfl, rfl, Nat.zero_le _, hide rfl⟩
  case round =>
    obtain ⟨i, x, rfl, rfl, hi, HX⟩ := hrel
    by_cases hlt : i < m
    · have hat := Nt.sB_at HS.out (i := i) (by rw [HM.out]; exact hlt)
      obtain ⟨b', off', rfl, r1⟩ := H'.out.at (i := i) (by rw [HM.out]; exact hlt)
      have hbd := Nt.cutTo_bd (j := i) HRW.out (by rw [HN.out]; exact HS.out) (by rw [HM.out]; omega)
      have HNX : Hid (Nt.cutTo C s (i + 1) = Nt.cutTo C s i + Nt.cut1 C s (s.getD i 0).toNat n) := hide (by rw [← HN.out]; rfl)
      rw [← HX.out] at hbd HNX
      obtain ⟨p, hp⟩ : ∃ p : Nat, s.getD i 0 = (p : Int) := ⟨(s.getD i 0).toNat, by omega⟩
      rw [hp] at r1 hat HNX
      rw [Int.toNat_natCast] at HNX
      have hpn : p < n := by omega
      have i0 : (0 : Int) ≤ (i : Int) := by omega
      have i1 : (i : Int) < (m : Int) := by omega
      have p0 : (0 : Int) ≤ (p : Int) := by omega
      have p1 : (p : Int) < (n : Int) := by omega
      obtain ⟨b, off, ai, ci, rfl, hb, r2, R2⟩ := H.out.at (i := p) (by rw [HN.out]; exact hpn)
      rw [Nt.rowsB_row HRW.out (i := p) (by rw [HN.out]; exact hpn), HN.out] at r2
      have HR2 := hide R2
      have x0 : 0 ≤ x := hbd.1
      have x1 : x ≤ 4000 := by omega
      clear hbd hat hp R2
      go_wp2_with fail
      go_loop [6, 9, 10, 32] (fun s6 _ _ sk => ∃ (k : Nat) (y : Int), s6 = .int .i64 y ∧ sk = .int .i64 k ∧ k ≤ n ∧ Hid (y = x + Nt.cut1 C s p k)) (fun _ _ _ sk => n - (intOf sk).toNat)
      case atStart => exact ⟨0, x, rfl, rfl, Nat.zero_le _, hide (by simp [Nt.cut1, Bx.sumTo])⟩
      case round =>
        obtain ⟨k, y, rfl, rfl, hk, HY⟩ := hrel
        by_cases hkn : k < n
        · obtain ⟨b1, off1, e1, r3⟩ := HR2.out.at (i := k) (by rw [Nt.rowsB_row HRW.out (i := p) (by rw [HN.out]; exact hpn), HN.out]; exact hkn)
          cases e1
          have k0 : (0 : Int) ≤ (k : Int) := by omega
          have k1 : (k : Int) < (n : Int) := by omega
          have hb1 := Nt.cut1_bd (s := s) (a := p) (k := k) HRW.out (by rw [HN.out]; exact hpn) (by rw [HN.out]; omega)
          have hb2 := Nt.rowsB_bd HRW.out (i := p) (k := k) (by rw [HN.out]; exact hpn) (by rw [HN.out]; exact hkn)
          have y0 : 0 ≤ y := by have := HY.out; omega
          have y1 : y ≤ 5000 := by have := HY.out; omega
          have HNY : Hid (Nt.cut1 C s p (k + 1) = Nt.cut1 C s p k + if s.contains (k : Int) then 0 else Nt.at2 C p k) := hide rfl
          have r4 : w.cell? ⟨b1, off1 + k, none⟩ = some (.int .i64 (Nt.at2 C p k)) := r3
          obtain ⟨z0, z1⟩ := hb2
          generalize Nt.at2 C p k = z at *
          clear r3 hb1
          cases hc : s.contains (k : Int)
          · have HC := hide hc
            have H1 : Hid (y + z = x + Nt.cut1 C s p (k + 1)) := hide (by rw [HNY.out, hc, HY.out]; simp; omega)
            go_wp2_with fail
            refine (con_eq HM hm H' HC).mono ?_
            rintro e w1 ⟨rfl, hw1⟩
            obtain rfl : w = w1 := hw1.symm
            go_wp2_with fail
            go_round
            case rel => exact ⟨k + 1, y + z, by go_num, by go_num, by omega, H1⟩
            case measure => simp only [intOf]; omega
          · have HC := hide hc
            have H1 : Hid (y = x + Nt.cut1 C s p (k + 1)) := hide (by rw [HNY.out, hc, HY.out]; simp)
            go_wp2_with fail
            refine (con_eq HM hm H' HC).mono ?_
            rintro e w1 ⟨rfl, hw1⟩
            obtain rfl : w = w1 := hw1.symm
            go_wp2_with fail
            go_round
            case rel => exact ⟨k + 1, y, rfl, by go_num, by omega, H1⟩
            case measure => simp only [intOf]; omega
        · have hke : k = n := by omega
          subst hke
          have H1 : Hid (y = Nt.cutTo C s (i + 1)) := hide (by rw [HNX.out]; exact HY.out)
          go_wp2_with fail
          go_round
          case rel => exact ⟨i + 1, y, rfl, by go_num, by omega, H1⟩
          case measure => simp only [intOf]; omega
    · have hke : i = m := by omega
      subst hke
      have hx := HX.out
      subst hx
      go_wp2_with fail
      go_ret2
      exact ⟨rfl, rfl⟩
theorem cw_any {a a' : Option Addr} {n c m d : Nat} {C : List (List Int)} {s : List Int} {w : World} (hn : C.length = n) (hm : s.length = m) (hl : m ≤ 1048576) (h : CRow w a C) (h' : ARow w a' s) :
    Calls Try.prog 9 #[.slice a n c, .slice a' m d] w fun e w' => e = .returned (.tuple #[.int .i64 (Nt.cwI C s), .bool (Nt.sideB C s)]) ∧ w' = w := by
  cases hr : Nt.sideB C s
  · rw [show Nt.cwI C s = 0 by simp [Nt.cwI, hr]]
    exact cw_no (hide hn) (hide hm) hl (hide h) (hide h') hr
  · exact cw_yes (hide hn) (hide hm) hl (hide h) (hide h') hr
theorem sri_z {a : Option Addr} {n c q : Nat} {z : Int} {l : List Int} {w : World} {r : Bool} (hz : z = (q : Int)) (hn : Hid (l.length = n)) (hl : n ≤ 1048576) (h : Hid (ARow w a l)) (hr : Hid (Ma.riseB l q = r)) :
    Calls Try.prog 28 #[.slice a n c, .int .i64 z] w fun e w' => e = .returned (.bool r) ∧ w' = w := hz ▸ sri_eq hn hl h hr
set_option maxRecDepth 100000 in
set_option maxHeartbeats 2000000 in
theorem scw_no {a a' : Option Addr} {n c m d : Nat} {C : List (List Int)} {s : List Int} {w : World} (HN : Hid (C.length = n)) (hn : n ≤ 1048576) (HM : Hid (s.length = m)) (hm : m ≤ 1048576) (H : Hid (CRow w a C)) (H' : Hid (ARow w a' s)) (hr : Nt.sideB C s = false) :
    Calls Try.prog 11 #[.slice a n c, .slice a' m d] w fun e w' => e = .returned (.tuple #[.int .i64 0, .bool false]) ∧ w' = w := by
  cases hg : Nt.netB C
  · have HG := hide hg
    go_enter Try.func11, Try.ntmps11
    go_wp2_with fail
    refine (sgn_eq HN hn H HG).mono ?_
    rintro e w1 ⟨rfl, hw1⟩
    obtain rfl : w = w1 := hw1.symm
    go_wp2_with fail
    go_ret2
    exact ⟨rfl, rfl⟩
  · have HG := hide hg
    have HS : Hid (Nt.sB s n = false) := hide (by rw [Nt.sideB_eq, hg, HN.out] at hr; exact hr)
    have h8 := Nt.rowsB_len (Nt.netB_rows hg)
    rw [HN.out] at h8
    obtain ⟨h2, h8⟩ := h8
    cases hri : Ma.riseB s (n - 1)
    · have HRI := hide hri
      go_enter Try.func11, Try.ntmps11
      go_wp2_with fail
      refine (sgn_eq HN hn H HG).mono ?_
      rintro e w1 ⟨rfl, hw1⟩
      obtain rfl : w = w1 := hw1.symm
      go_wp2_with fail
      refine (sri_z (q := n - 1) (by omega) HM hm H' HRI).mono ?_
      rintro e w1 ⟨rfl, hw1⟩
      obtain rfl : w = w1 := hw1.symm
      go_wp2_with fail
      go_ret2
      exact ⟨rfl, rfl⟩
    · have HRI := hide hri
      by_cases hm0 : m = 0
      · subst hm0
        go_enter Try.func11, Try.ntmps11
        go_wp2_with fail
        refine (sgn_eq HN hn H HG).mono ?_
        rintro e w1 ⟨rfl, hw1⟩
        obtain rfl : w = w1 := hw1.symm
        go_wp2_with fail
        refine (sri_z (q := n - 1) (by omega) HM hm H' HRI).mono ?_
        rintro e w1 ⟨rfl, hw1⟩
        obtain rfl : w = w1 := hw1.symm
        go_wp2_with fail
        go_ret2
        exact ⟨rfl, rfl⟩
      · obtain ⟨b, off, rfl, r1⟩ := H'.out.at (i := 0) (by rw [HM.out]; omega)
        have m0 : (0 : Int) < (m : Int) := by omega
        have m1 : ((m : Int) == (0 : Int)) = false := by simp; omega
        rw [Nat.add_zero] at r1
        have HX : Hid ((s.getD 0 0 == 0) = false) := hide (by
          have := HS.out
          simp only [Nt.sB, HM.out, hri, Bool.and_true] at this
          simpa [show 0 < m by omega] using this)
        generalize s.getD 0 0 = x at *
        have hx : (x != (0 : Int)) = true := by have := HX.out; simp at this; simpa using this
        go_enter Try.func11, Try.ntmps11
        go_wp2_with fail
        refine (sgn_eq HN hn H HG).mono ?_
        rintro e w1 ⟨rfl, hw1⟩
        obtain rfl : w = w1 := hw1.symm
        go_wp2_with fail
        refine (sri_z (q := n - 1) (by omega) HM hm H' HRI).mono ?_
        rintro e w1 ⟨rfl, hw1⟩
        obtain rfl : w = w1 := hw1.symm
        go_wp2_with fail
        go_ret2
        exact ⟨rfl, rfl⟩
set_option maxRecDepth 100000 in
set_option maxHeartbeats 2000000 in
theorem scw_yes {a a' : Option Addr} {n c m d : Nat} {C : List (List Int)} {s : List Int} {w : World} (HN : Hid (C.length = n)) (hn : n ≤ 1048576) (HM : Hid (s.length = m)) (hm : m ≤ 1048576) (H : Hid (CRow w a C)) (H' : Hid (ARow w a' s)) (hr : Nt.sideB C s = true) :
    Calls Try.prog 11 #[.slice a n c, .slice a' m d] w fun e w' => e = .returned (.tuple #[.int .i64 (Nt.cwI C s), .bool true]) ∧ w' = w := by
  have hE : Nt.cwI C s = Nt.cutTo C s m := by rw [Nt.cwI, if_pos hr, HM.out]
  rw [hE]
  rw [Nt.sideB_eq, Bool.and_eq_true, HN.out] at hr
  have HG := hide hr.1
  have HS := hide hr.2
  have HRW := hide (Nt.netB_rows hr.1)
  have h8 := Nt.rowsB_len (Nt.netB_rows hr.1)
  rw [HN.out] at h8
  obtain ⟨h2, h8⟩ := h8
  have hml := Nt.sB_len hr.2
  rw [HM.out] at hml
  have hsb := hr.2
  simp only [Nt.sB, Bool.and_eq_true, decide_eq_true_eq, HM.out, beq_iff_eq] at hsb
  obtain ⟨⟨hm0, hs0⟩, hri⟩ := hsb
  have HRI := hide hri
  have HBIG := hide hm
  obtain ⟨b', off', rfl, r0⟩ := H'.out.at (i := 0) (by rw [HM.out]; exact hm0)
  rw [hs0, Nat.add_zero] at r0
  have m0 : (0 : Int) < (m : Int) := by omega
  have m1 : ((m : Int) == (0 : Int)) = false := by simp; omega
  clear hr hE hri hs0
  go_enter Try.func11, Try.ntmps11
  go_wp2_with fail
  refine (sgn_eq HN hn H HG).mono ?_
  rintro e w1 ⟨rfl, hw1⟩
  obtain rfl : w = w1 := hw1.symm
  go_wp2_with fail
  refine (sri_z (q := n - 1) (by omega) HM hm H' HRI).mono ?_
  rintro e w1 ⟨rfl, hw1⟩
  obtain rfl : w = w1 := hw1.symm
  go_wp2_with fail
  go_loop [6, 8, 9, 34] (fun s6 _ _ sk => ∃ (i : Nat) (x : Int), s6 = .int .i64 x ∧ sk = .int .i64 i ∧ i ≤ m ∧ Hid (x = Nt.cutTo C s i)) (fun _ _ _ sk => m - (intOf sk).toNat)
  case atStart => exact ⟨0, 0, rfl, rfl, Nat.zero_le _, hide rfl⟩
  case round =>
    obtain ⟨i, x, rfl, rfl, hi, HX⟩ := hrel
    by_cases hlt : i < m
    · have hat := Nt.sB_at HS.out (i := i) (by rw [HM.out]; exact hlt)
      obtain ⟨b2, off2, e2, r1⟩ := H'.out.at (i := i) (by rw [HM.out]; exact hlt)
      cases e2
      have hbd := Nt.cutTo_bd (j := i) HRW.out (by rw [HN.out]; exact HS.out) (by rw [HM.out]; omega)
      have HNX : Hid (Nt.cutTo C s (i + 1) = Nt.cutTo C s i + Nt.cut1 C s (s.getD i 0).toNat n) := hide (by rw [← HN.out]; rfl)
      rw [← HX.out] at hbd HNX
      obtain ⟨p, hp⟩ : ∃ p : Nat, s.getD i 0 = (p : Int) := ⟨(s.getD i 0).toNat, by omega⟩
      rw [hp] at r1 hat HNX
      rw [Int.toNat_natCast] at HNX
      have hpn : p < n := by omega
      have i0 : (0 : Int) ≤ (i : Int) := by omega
      have i1 : (i : Int) < (m : Int) := by omega
      have p0 : (0 : Int) ≤ (p : Int) := by omega
      have p1 : (p : Int) < (n : Int) := by omega
      have x0 : 0 ≤ x := hbd.1
      have x1 : x ≤ 4000 := by omega
      clear hbd hat hp
      go_wp2_with fail
      go_loop [6, 9, 40] (fun s6 _ sk => ∃ (k : Nat) (y : Int), s6 = .int .i64 y ∧ sk = .int .i64 k ∧ k ≤ n ∧ Hid (y = x + Nt.cut1 C s p k)) (fun _ _ sk => n - (intOf sk).toNat)
      case atStart => exact ⟨0, x, rfl, rfl, Nat.zero_le _, hide (by simp [Nt.cut1, Bx.sumTo])⟩
      case round =>
        obtain ⟨k, y, rfl, rfl, hk, HY⟩ := hrel
        by_cases hkn : k < n
        · obtain ⟨b1, off1, b3, off3, ci, rfl, r3, r4⟩ := crow_at2 H.out HN.out HRW.out hpn hkn
          have k0 : (0 : Int) ≤ (k : Int) := by omega
          have k1 : (k : Int) < (n : Int) := by omega
          have hb1 := Nt.cut1_bd (s := s) (a := p) (k := k) HRW.out (by rw [HN.out]; exact hpn) (by rw [HN.out]; omega)
          have hb2 := Nt.rowsB_bd HRW.out (i := p) (k := k) (by rw [HN.out]; exact hpn) (by rw [HN.out]; exact hkn)
          have y0 : 0 ≤ y := by have := HY.out; omega
          have y1 : y ≤ 5000 := by have := HY.out; omega
          have HNY : Hid (Nt.cut1 C s p (k + 1) = Nt.cut1 C s p k + if s.contains (k : Int) then 0 else Nt.at2 C p k) := hide rfl
          obtain ⟨z0, z1⟩ := hb2
          generalize Nt.at2 C p k = z at *
          clear hb1
          cases hc : s.contains (k : Int)
          · have HC := hide hc
            have H1 : Hid (y + z = x + Nt.cut1 C s p (k + 1)) := hide (by rw [HNY.out, hc, HY.out]; simp; omega)
            go_wp2_with fail
            refine (has7_eq HM (by omega) H' HC).mono ?_
            rintro e w1 ⟨rfl, hw1⟩
            obtain rfl : w = w1 := hw1.symm
            go_wp2_with fail
            go_round
            case rel => exact ⟨k + 1, y + z, by go_num, by go_num, by omega, H1⟩
            case measure => simp only [intOf]; omega
          · have HC := hide hc
            have H1 : Hid (y = x + Nt.cut1 C s p (k + 1)) := hide (by rw [HNY.out, hc, HY.out]; simp)
            go_wp2_with fail
            refine (has7_eq HM (by omega) H' HC).mono ?_
            rintro e w1 ⟨rfl, hw1⟩
            obtain rfl : w = w1 := hw1.symm
            go_wp2_with fail
            go_round
            case rel => exact ⟨k + 1, y, rfl, by go_num, by omega, H1⟩
            case measure => simp only [intOf]; omega
        · have hke : k = n := by omega
          subst hke
          have H1 : Hid (y = Nt.cutTo C s (i + 1)) := hide (by rw [HNX.out]; exact HY.out)
          go_wp2_with fail
          go_round
          case rel => exact ⟨i + 1, y, rfl, by go_num, by omega, H1⟩
          case measure => simp only [intOf]; omega
    · have hke : i = m := by omega
      subst hke
      have hx := HX.out
      subst hx
      go_wp2_with fail
      go_ret2
      exact ⟨rfl, rfl⟩
theorem scw_any {a a' : Option Addr} {n c m d : Nat} {C : List (List Int)} {s : List Int} {w : World} (hn : C.length = n) (hl : n ≤ 1048576) (hm : s.length = m) (hlm : m ≤ 1048576) (h : CRow w a C) (h' : ARow w a' s) :
    Calls Try.prog 11 #[.slice a n c, .slice a' m d] w fun e w' => e = .returned (.tuple #[.int .i64 (Nt.cwI C s), .bool (Nt.sideB C s)]) ∧ w' = w := by
  cases hr : Nt.sideB C s
  · rw [show Nt.cwI C s = 0 by simp [Nt.cwI, hr]]
    exact scw_no (hide hn) hl (hide hm) hlm (hide h) (hide h') hr
  · exact scw_yes (hide hn) hl (hide hm) hlm (hide h) (hide h') hr
end Go.Proofs.Ytnepjahhconodaa
namespace Go.Proofs.Ytnepjahhconodaa.Nt
open Bx (sumTo sum_add sum_eq sum_only sum_const)

theorem sum_nodup {g : Nat → Int} {n : Nat} : ∀ {s : List Nat}, s.Nodup → (∀ x ∈ s, x < n) → (s.map g).sum = sumTo (fun a => if s.contains a then g a else 0) n
  | [], _, _ => by
    have : sumTo (fun a => if ([] : List Nat).contains a then g a else 0) n = sumTo (fun _ => 0) n := sum_eq n fun _ _ => by simp
    rw [this, sum_const]; simp
  | x :: t, hn, hl => by
    rw [List.nodup_cons] at hn
    have ih := sum_nodup (g := g) (n := n) hn.2 (fun y hy => hl y (List.mem_cons_of_mem _ hy))
    have e : sumTo (fun a => if (x :: t).contains a then g a else 0) n = sumTo (fun a => (if a = x then g a else 0) + (if t.contains a then g a else 0)) n := sum_eq n fun a _ => by
      by_cases h : a = x
      · subst h
        have h2 : t.contains a = false := by simpa using hn.1
        have h1 : (a :: t).contains a = true := by simp
        rw [h1, h2]; simp
      · have h1 : (x :: t).contains a = t.contains a := by
          rw [List.contains_cons]
          simp [h]
        rw [h1, if_neg h]; omega
    rw [e, sum_add, ← ih, sum_only (x := x) n (hl x List.mem_cons_self) (fun i hi hne => if_neg hne)]
    simp
theorem rise_pw {s : List Int} {m : Nat} (h : Ma.riseB s m = true) : ∀ j i, i < j → j < s.length → s.getD i 0 < s.getD j 0
  | 0, i, hi, _ => absurd hi (Nat.not_lt_zero _)
  | j + 1, i, hi, hj => by
    have h1 := Pf.inB_yes (List.all_eq_true.1 h (j + 1) (by simpa using hj))
    have h2 : Ma.least s (j + 1) = s.getD j 0 + 1 := by simp [Ma.least]
    by_cases e : i = j
    · subst e; omega
    · have := rise_pw h j i (by omega) (by omega); omega
theorem side_has {s : List Int} {n : Nat} (h : sB s n = true) (a : Nat) : (s.map Int.toNat).contains a = s.contains (a : Int) := by
  rw [Bool.eq_iff_iff, List.contains_iff_mem, List.contains_iff_mem, List.mem_map]
  constructor
  · rintro ⟨x, hx, rfl⟩
    obtain ⟨i, hi, e⟩ := List.getElem_of_mem hx
    have := (sB_at h hi).1
    rw [Pf.getD_lt _ 0 hi, e] at this
    rw [Int.toNat_of_nonneg this]; exact hx
  · intro hx
    exact ⟨_, hx, by simp⟩
theorem side_nd {s : List Int} {n : Nat} (h : sB s n = true) : (s.map Int.toNat).Nodup := by
  have h' := h
  simp only [sB, Bool.and_eq_true] at h'
  rw [List.nodup_iff_pairwise_ne, List.pairwise_map, List.pairwise_iff_getElem]
  intro i j hi hj hij
  have h1 := rise_pw h'.2 j i hij hj
  have h2 := (sB_at h hi).1
  rw [Pf.getD_lt _ 0 hi] at h1 h2
  rw [Pf.getD_lt _ 0 hj] at h1
  omega
theorem cw_over {W : List (List Int)} {s : List Int} (hs : sideB W s = true) : cwI W s = Fl.over W.length (fun a => s.contains (a : Int)) (at2 W) := by
  have hb : sB s W.length = true := by rw [sideB_eq, Bool.and_eq_true] at hs; exact hs.2
  have e1 : cwI W s = ((s.map Int.toNat).map fun a => cut1 W s a W.length).sum := by
    rw [cwI, if_pos hs, cutTo, sum_list, List.length_map, List.length_map]
    refine sum_eq _ fun i hi => ?_
    simp [hi]
  rw [e1, sum_nodup (n := W.length) (side_nd hb) (fun x hx => by
    obtain ⟨y, hy, rfl⟩ := List.mem_map.1 hx
    obtain ⟨i, hi, e⟩ := List.getElem_of_mem hy
    have := sB_at hb hi
    rw [Pf.getD_lt _ 0 hi, e] at this
    omega), Fl.over]
  refine sum_eq _ fun a _ => ?_
  rw [side_has hb a]
  cases hS : s.contains (a : Int)
  · have : sumTo (fun b => if (false && !s.contains (b : Int)) then at2 W a b else 0) W.length = sumTo (fun _ => 0) W.length := sum_eq _ fun b _ => by simp
    rw [this, sum_const]; simp
  · rw [if_pos rfl, cut1]
    refine sum_eq _ fun b _ => ?_
    cases s.contains (b : Int) <;> simp
theorem mem_side {M : List Int} {x : Int} : x ∈ sideL M ↔ ∃ b : Nat, b < M.length ∧ M.getD b 0 ≠ -2 ∧ x = (b : Int) := by
  simp only [sideL, List.mem_map, List.mem_filter, List.mem_range, bne_iff_ne]
  constructor
  · rintro ⟨b, ⟨h1, h2⟩, rfl⟩; exact ⟨b, h1, h2, rfl⟩
  · rintro ⟨b, h1, h2, rfl⟩; exact ⟨b, ⟨h1, h2⟩, rfl⟩
theorem side_rise (M : List Int) : (sideL M).Pairwise (· < ·) := by
  unfold sideL
  rw [List.pairwise_map]
  have : ((List.range M.length).filter fun b => M.getD b 0 != -2).Pairwise (· < ·) := List.Pairwise.filter _ List.pairwise_lt_range
  exact this.imp fun h => by omega
theorem side_sB {M : List Int} {n : Nat} (hn : M.length = n) (h2 : 2 ≤ n) (h0 : M.getD 0 0 = -1) (hl : M.getD (n - 1) 0 = -2) : sB (sideL M) n = true := by
  have hm : ∀ j (hj : j < (sideL M).length), ∃ k : Nat, k + 1 < n ∧ (sideL M).getD j 0 = (k : Int) := fun j hj => by
    have : (sideL M).getD j 0 ∈ sideL M := by rw [Pf.getD_lt _ 0 hj]; exact List.getElem_mem hj
    obtain ⟨k, h1, h3, h4⟩ := mem_side.1 this
    refine ⟨k, ?_, h4⟩
    by_cases e : k = n - 1
    · rw [e] at h3; exact absurd hl h3
    · omega
  have hp := List.pairwise_iff_getElem.1 (side_rise M)
  have hz : (0 : Int) ∈ sideL M := mem_side.2 ⟨0, by omega, by rw [h0]; decide, rfl⟩
  obtain ⟨i0, hi0, e0⟩ := List.getElem_of_mem hz
  have hpos : 0 < (sideL M).length := by omega
  have hf : (sideL M).getD 0 0 = 0 := by
    by_cases e : i0 = 0
    · subst e; rw [Pf.getD_lt _ 0 hpos]; exact e0
    · have h3 := hp 0 i0 hpos hi0 (by omega)
      obtain ⟨k, _, h4⟩ := hm 0 hpos
      rw [Pf.getD_lt _ 0 hpos] at h4
      rw [e0, h4] at h3
      omega
  have hr : Ma.riseB (sideL M) (n - 1) = true := by
    refine Ma.all_of fun i hi => ?_
    obtain ⟨k, h1, h3⟩ := hm i hi
    unfold Ma.riseAt
    rw [h3]
    refine Pf.inB_of ?_ (by omega)
    unfold Ma.least
    by_cases e : i = 0
    · rw [if_pos e]; omega
    · rw [if_neg e]
      have := hp (i - 1) i (by omega) hi (by omega)
      rw [← Pf.getD_lt (sideL M) 0 (by omega), ← Pf.getD_lt (sideL M) 0 hi, h3] at this
      omega
  simp only [sB, Bool.and_eq_true, decide_eq_true_eq, beq_iff_eq]
  exact ⟨⟨hpos, hf⟩, hr⟩
theorem co_facts {W : List (List Int)} (h : netB W = true) : sideB W (coL W) = true ∧ cwI W (coL W) = moI W := by
  have h8 := rowsB_len (netB_rows h)
  obtain ⟨hf, hw⟩ := most_inv h
  have hl := (wayOf_nil h8.1).1 hw
  obtain ⟨H, hb⟩ := come_inv (rooms W (mostL W)) (n := W.length) (by omega)
  have ec : coL W = sideL (come (rooms W (mostL W)) W.length) := by simp [coL, h]
  have hs : sideB W (coL W) = true := by
    rw [sideB_eq, h, ec, side_sB hb.len h8.1 hb.m0 hl]; rfl
  refine ⟨hs, ?_⟩
  rw [cw_over hs]
  have em : moI W = outI (mostL W) 0 := by simp [moI, h]
  rw [em, outI, hf.len]
  have hS : ∀ b, b < W.length → ((coL W).contains (b : Int) = true ↔ (come (rooms W (mostL W)) W.length).getD b 0 ≠ -2) := fun b hbn => by
    rw [List.contains_iff_mem, ec, mem_side]
    constructor
    · rintro ⟨b', _, h2, e⟩
      have : b = b' := by omega
      subst this; exact h2
    · intro h2; exact ⟨b, by rw [hb.len]; exact hbn, h2, rfl⟩
  refine (Fl.strong hf.flow h8.1 ?_ ?_ ?_).symm
  · exact (hS 0 (by omega)).2 (by rw [hb.m0]; decide)
  · cases e : (coL W).contains ((W.length - 1 : Nat) : Int)
    · rfl
    · exact absurd hl ((hS _ (by omega)).1 e)
  · intro a b ha hbn hSa hSb
    have h1 := (hS a ha).1 hSa
    obtain ⟨j, hj, ej⟩ := (hb.mem a ha).1 h1
    by_cases hr : 0 < Fl.room (at2 W) (at2 (mostL W)) a b
    · have h3 := hb.done j hj b hbn (by rw [ej, Int.toNat_natCast, rooms_at W _ ha hbn]; exact hr)
      rw [(hS b hbn).2 h3] at hSb
      cases hSb
    · omega
theorem most_le {W : List (List Int)} {s : List Int} (hs : sideB W s = true) : moI W ≤ cwI W s := by
  have hn : netB W = true := by rw [sideB_eq, Bool.and_eq_true] at hs; exact hs.1
  have hb : sB s W.length = true := by rw [sideB_eq, Bool.and_eq_true] at hs; exact hs.2
  have h8 := rowsB_len (netB_rows hn)
  obtain ⟨hf, _⟩ := most_inv hn
  have em : moI W = outI (mostL W) 0 := by simp [moI, hn]
  rw [cw_over hs, em, outI, hf.len]
  refine Fl.weak hf.flow h8.1 ?_ ?_
  · have hb' := hb
    simp only [sB, Bool.and_eq_true, decide_eq_true_eq, beq_iff_eq] at hb'
    rw [List.contains_iff_mem]
    have e := hb'.1.2
    rw [Pf.getD_lt _ 0 hb'.1.1] at e
    rw [show ((0 : Nat) : Int) = 0 from rfl, ← e]
    exact List.getElem_mem hb'.1.1
  · cases e : s.contains ((W.length - 1 : Nat) : Int)
    · rfl
    · obtain ⟨i, hi, ei⟩ := List.getElem_of_mem (List.contains_iff_mem.1 e)
      have := sB_at hb hi
      rw [Pf.getD_lt _ 0 hi, ei] at this
      omega
end Go.Proofs.Ytnepjahhconodaa.Nt
namespace Go.Proofs.Ytnepjahhconodaa
open Go.RowKit

set_option maxRecDepth 100000 in
set_option maxHeartbeats 8000000 in
theorem smf_any {aw : Option Addr} {n c : Nat} {W : List (List Int)} {w : World} (HN : Hid (W.length = n)) (HG : Hid (Nt.netB W = true)) (HW : Hid (CRow w aw W)) :
    Calls Try.prog 22 #[.slice aw n c] w fun e w' => ∃ v us, e = .returned v ∧ LL w' w.heap.size 25 3 1 ints v us (Nt.mostL W) ∧ Below w.heap.size w w' := by
  have HRW := hide (Nt.netB_rows HG.out)
  have h8 := Nt.rowsB_len HRW.out
  rw [HN.out] at h8
  obtain ⟨h2, h8⟩ := h8
  have hmk := makeI_run n (by omega)
  have HZL : Hid ((Nt.zeros n).length = n) := hide (Nt.zeros_len n)
  go_enter Try.func22, Try.ntmps22
  go_wp2_with fail
  go_loopw [3, 7] (fun s3 sk wr => ∃ (k : Nat) (us : List Value), sk = .int .i64 k ∧ k ≤ n ∧ Hid (LL wr w.heap.size 25 3 1 ints s3 us ((Nt.zeros n).take k)) ∧ Hid (Below w.heap.size w wr)) (fun _ sk _ => n - (intOf sk).toNat)
  case atStart => exact ⟨0, [], rfl, Nat.zero_le _, hide (LL.nil _ _ _ _ _ _), hide (Below.refl _ _)⟩
  case round =>
    obtain ⟨k, us, rfl, hk, HL, HB⟩ := hrel
    by_cases hlt : k < n
    · have j0 : (0 : Int) ≤ (k : Int) := by omega
      have j1 : (k : Int) < (n : Int) := by omega
      have hkl : ((Nt.zeros n).take k).length = k := by rw [List.length_take, HZL.out]; omega
      obtain ⟨av, cv, ev⟩ := HL.out.form
      rw [hkl] at ev
      subst ev
      obtain ⟨G, cap, w1, p1, L1, B1⟩ := HL.out.pushRow (V := wr.alloc (.cells (madeCells #[.int .i64 0] n) 3)) (u := .slice (some ⟨wr.heap.size, 0, none⟩) n n) (r := List.replicate n 0) (below_new _ _) (by rw [List.length_replicate]; exact made_own wr n (by omega)) rfl (by rw [hkl]; omega) HB.out.size
      rw [hkl] at p1 L1
      rw [World.size_alloc] at p1
      rw [Nt.zeros_snoc hlt] at L1
      have HL1 := hide L1
      have HB1 := hide (HB.out.trans (B1.mono (Nat.le_refl _)))
      clear L1 B1 HL hkl
      go_wp2_with (first | (at_builtin; refine Lib.wpList_append_run _ rfl (.tmp 9) (.tmp 13) 23 23 rfl _ _ rfl rfl _ _ (p1 _) ?_))
      go_roundw
      case rel => exact ⟨k + 1, _, by go_num, by omega, HL1, HB1⟩
      case measure => simp only [intOf]; omega
    · have hke : k = n := by omega
      subst hke
      have HE : Hid ((Nt.zeros k).take k = Nt.zeros k) := hide (List.take_of_length_le (by rw [HZL.out]; exact Nat.le_refl _))
      rw [HE.out] at HL
      obtain ⟨G, cap, ev⟩ : ∃ G cap, _ = Value.slice (some ⟨G, 0, none⟩) k cap := by
        have ho := HL.out.1
        rw [HZL.out] at ho
        obtain ⟨G, cap, e, _, _⟩ := ho.form (by omega)
        exact ⟨G, cap, e⟩
      subst ev
      have HNF : Hid (Nt.NF W (Nt.zeros k)) := hide (by have := Nt.zeros_nf HG.out; rw [HN.out] at this; exact this)
      have HMF : Hid (Nt.mf W 401 (Nt.zeros k) = Nt.mostL W) := hide (by rw [Nt.mostL, HN.out])
      have HVL : Hid (400 - Nt.outI (Nt.zeros k) 0 < ((401 : Nat) : Int)) := hide (by rw [Nt.zeros_out]; omega)
      have HFC : Hid (CRow wr (some ⟨G, 0, none⟩) (Nt.zeros k)) := hide (LL.crow (c := cap) (by rw [HZL.out]; exact HL.out))
      have HWC := hide (HW.out.below HB.out)
      have HUB : Hid (∀ i g, (us.getD i nilS).ownBlock = some g → g < wr.heap.size) := hide fun i g e => by
        by_cases hi : i < (Nt.zeros k).length
        · exact ((HL.out.2.1 i hi).lt g e).2
        · have := HL.out.len
          rw [List.getD_eq_getElem?_getD, List.getElem?_eq_none (by omega)] at e
          simp [nilS, Value.ownBlock] at e
      clear hmk HE
      go_wp2_with fail
      refine (slw_any HN HNF HWC HFC).mono ?_
      rintro e w2 ⟨v2, rfl, own2, hb2⟩
      have HO2 := hide own2
      have HL2 := hide (HL.out.below hb2)
      have HB2 := hide (HB.out.trans (hb2.mono HB.out.size))
      clear own2 hb2 HL HB HFC HWC
      go_wp2_with fail
      go_loopw [4] (fun s4 wr => ∃ (f b4 : Nat) (F : List (List Int)), Hid (LL wr w.heap.size 25 3 1 ints (.slice (some ⟨G, 0, none⟩) k cap) us F) ∧ Hid (Nt.NF W F) ∧ Hid (Nt.mf W f F = Nt.mostL W) ∧ Hid (400 - Nt.outI F 0 < (f : Int)) ∧ Hid (Below w.heap.size w wr) ∧ Hid (wr.ownsRow b4 3 1 s4 (Nt.wayOf W F).length (ints (Nt.wayOf W F))) ∧ Hid (∀ i g, (us.getD i nilS).ownBlock = some g → g < b4)) (fun _ wr => msf k (.slice (some ⟨G, 0, none⟩) k cap) wr)
      case atStart => exact ⟨401, _, Nt.zeros k, HL2, HNF, HMF, HVL, HB2, HO2, HUB⟩
      case round =>
        clear HL2 HNF HMF HVL HB2 HO2 HUB
        obtain ⟨f, b4, F, HL, HNF, HMF, HVL, HB, HO, HUB⟩ := hrel
        have HFL : Hid (F.length = k) := hide (HNF.out.len.trans HN.out)
        have HMS := hide (HL.out.msf HFL.out HNF.out.rows)
        obtain ⟨a4, c4, e4⟩ := own_form2 HO.out
        subst e4
        by_cases hnil : Nt.wayOf W F = []
        · rw [hnil]
          obtain ⟨f, rfl⟩ : ∃ g, f = g + 1 := ⟨f - 1, by have := HVL.out; have := Nt.value_bd HNF.out; omega⟩
          have HLE : Hid (LL wr w.heap.size 25 3 1 ints (.slice (some ⟨G, 0, none⟩) k cap) us (Nt.mostL W)) := hide (by
            rw [← HMF.out, Nt.mf, if_pos hnil]; exact HL.out)
          clear HMF HVL hnil HO HMS
          go_wp2_with fail
          go_ret
          first | exact ⟨_, us, rfl, HLE.out, HB.out⟩ | exact ⟨_, rfl, ⟨us, HLE.out⟩, HB.out⟩
        · have hWn : 2 ≤ W.length := by rw [HN.out]; exact h2
          have HWAY := hide (Nt.wayOf_is hWn hnil)
          have HNX := hide (Nt.next_nf HNF.out hnil)
          have HMF2 : Hid (∃ g, f = g + 1 ∧ Nt.mf W g (Nt.pushL (Nt.byI W F (Nt.wayOf W F)) F (Nt.wayOf W F)) = Nt.mostL W) := hide (by
            obtain ⟨g, rfl⟩ : ∃ g, f = g + 1 := ⟨f - 1, by have := HVL.out; have := Nt.value_bd HNF.out; omega⟩
            refine ⟨g, rfl, ?_⟩
            have := HMF.out
            rw [Nt.mf, if_neg hnil] at this
            exact this)
          obtain ⟨m, hm⟩ : ∃ m, (Nt.wayOf W F).length = m := ⟨_, rfl⟩
          have HM := hide hm
          have hm2 : 2 ≤ m := by rw [← hm]; exact HWAY.out.len
          rw [hm] at HO ⊢
          obtain ⟨g4, c4', e4, hg4, _⟩ := HO.out.form (by omega)
          cases e4
          have HPK : Hid (∀ V, KU us wr V → ARow V (some ⟨g4, 0, none⟩) (Nt.wayOf W F)) := hide fun V hV => arow_owns hm.symm (own_keep2 HO.out fun b hv hl => hV.2 b hl fun i e => by
            have h1 := HUB.out i b e
            have h2 := (HO.out.lt b hv).1
            omega)
          have HWK : Hid (∀ V, Below w.heap.size wr V → CRow V aw W) := hide fun V hV => HW.out.below (HB.out.trans hV)
          have hm0 : (0 : Int) < (m : Int) := by omega
          clear hm hWn hnil HO
          generalize Nt.wayOf W F = P at *
          go_wp2_with fail
          refine (slp_any HN HNF HWAY HM HWK HL HPK HB.out.size).mono ?_
          rintro e w5 ⟨rfl, L5, hb5⟩
          obtain ⟨gf, hgf, hmf2⟩ := HMF2.out
          have HNF5 := hide HNX.out.1
          have hval := HNX.out.2
          have HMF5 := hide hmf2
          have HV5 : Hid (400 - Nt.outI (Nt.pushL (Nt.byI W F P) F P) 0 < (gf : Int)) := hide (by have := HVL.out; omega)
          have hlen5 : (Nt.pushL (Nt.byI W F P) F P).length = k := HNX.out.1.len.trans HN.out
          have HB5 := hide (HB.out.trans hb5)
          have HFC5 : Hid (CRow w5 (some ⟨G, 0, none⟩) (Nt.pushL (Nt.byI W F P) F P)) := hide (LL.crow (c := cap) (by rw [hlen5]; exact L5))
          have HWC5 := hide (HW.out.below HB5.out)
          have HUB5 : Hid (∀ i g, (us.getD i nilS).ownBlock = some g → g < w5.heap.size) := hide fun i g e => by
            by_cases hi : i < (Nt.pushL (Nt.byI W F P) F P).length
            · exact ((L5.2.1 i hi).lt g e).2
            · have := L5.len
              rw [List.getD_eq_getElem?_getD, List.getElem?_eq_none (by omega)] at e
              simp [nilS, Value.ownBlock] at e
          have HL5 := hide L5
          have hvb := Nt.value_bd HNX.out.1
          clear L5 hb5 HMF2 HWAY HPK HWK HL HB
          go_wp2_with fail
          refine (slw_any HN HNF5 HWC5 HFC5).mono ?_
          rintro e w6 ⟨v6, rfl, own6, hb6⟩
          have HO6 := hide own6
          have HL6 := hide (HL5.out.below hb6)
          have HB6 := hide (HB5.out.trans (hb6.mono HB5.out.size))
          have HMS6 := hide (HL6.out.msf hlen5 HNF5.out.rows)
          clear own6 hb6 HL5 HB5 HNX
          go_wp2_with fail
          go_roundw
          case rel => exact ⟨gf, _, _, HL6, HNF5, HMF5, HV5, HB6, HO6, HUB5⟩
          case measure => rw [HMS6.out, HMS.out]; omega
end Go.Proofs.Ytnepjahhconodaa
namespace Go.Proofs.Ytnepjahhconodaa
open Go.RowKit
set_option maxRecDepth 100000 in
set_option maxHeartbeats 4000000 in
theorem sco_w {aw : Option Addr} {n c : Nat} {W : List (List Int)} {w : World} (HN : Hid (W.length = n)) (hl : n ≤ 1048576) (HW : Hid (CRow w aw W)) :
    Calls Try.prog 6 #[.slice aw n c] w fun e w' => ∃ v, e = .returned (.tuple #[v, .bool (Nt.netB W)]) ∧ w'.ownsRow w.heap.size 3 1 v (Nt.coL W).length (ints (Nt.coL W)) ∧ Below w.heap.size w w' := by
  cases hg : Nt.netB W
  · have HG := hide hg
    have e1 : Nt.coL W = [] := by simp [Nt.coL, hg]
    rw [e1]
    clear hg e1
    go_enter Try.func6, Try.ntmps6
    go_wp2_with fail
    refine (sgn_eq HN hl HW HG).mono ?_
    rintro e w1 ⟨rfl, hw1⟩
    obtain rfl : w = w1 := hw1.symm
    go_wp2_with fail
    go_ret2
    exact ⟨_, rfl, World.ownsRow_nil _ _ _ _, Below.refl _ _⟩
  · have HG := hide hg
    have HNF := hide (Nt.most_inv hg).1
    have h8 := Nt.rowsB_len (Nt.netB_rows hg)
    rw [HN.out] at h8
    obtain ⟨h2, h8⟩ := h8
    have HFL : Hid ((Nt.mostL W).length = n) := hide (HNF.out.len.trans HN.out)
    have HCL := hide (Nt.come_len (Nt.rooms W (Nt.mostL W)) (n := n) (by omega))
    have HE : Hid (Nt.coL W = Nt.sideTo (Nt.come (Nt.rooms W (Nt.mostL W)) n) n) := hide (by
      unfold Nt.coL
      rw [if_pos hg, Nt.sideL, HN.out, HCL.out]
      rfl)
    obtain ⟨M, hM⟩ : ∃ M, M = Nt.come (Nt.rooms W (Nt.mostL W)) n := ⟨_, rfl⟩
    rw [HE.out, ← hM]
    rw [← hM] at HCL
    have HMM := hide hM
    clear hg hM HE
    go_enter Try.func6, Try.ntmps6
    go_wp2_with fail
    refine (sgn_eq HN hl HW HG).mono ?_
    rintro e w1 ⟨rfl, hw1⟩
    obtain rfl : w = w1 := hw1.symm
    go_wp2_with fail
    refine (smf_any HN HG HW).mono ?_
    rintro e w2 ⟨v2, us2, rfl, L2, hb2⟩
    obtain ⟨G, cap, e2, _, _⟩ := L2.1.form (by rw [HFL.out]; omega)
    rw [HFL.out] at e2
    subst e2
    have HC2 : Hid (CRow w2 (some ⟨G, 0, none⟩) (Nt.mostL W)) := hide (LL.crow (c := cap) (by rw [HFL.out]; exact L2))
    have HB3 := hide hb2
    have HW2 := hide (HW.out.below hb2)
    clear L2 hb2
    go_wp2_with fail
    refine (slc_any HN HNF HW2 HC2).mono ?_
    rintro e w4 ⟨g, rfl, own, hb4⟩
    rw [← HMM.out] at own
    have HB4 := hide (HB3.out.trans (hb4.mono HB3.out.size))
    have HAT : Hid (∀ (V : World) (i : Nat), Below w4.heap.size w4 V → i < n → V.cell? ⟨g, i, none⟩ = some (.int .i64 (M.getD i 0))) := hide fun V i hV hi => by
      rw [(own_below2 own hV).cellAt i (by omega), ints_get _ i (by rw [HCL.out]; exact hi)]
    clear own hb4 HB3 HW2 HC2
    go_wp2_with fail
    go_loopw [4, 5, 6, 15] (fun s4 _ _ sk wr => ∃ (k : Nat), sk = .int .i64 k ∧ k ≤ n ∧ Hid (wr.ownsRow w4.heap.size 3 1 s4 (Nt.sideTo M k).length (ints (Nt.sideTo M k))) ∧ Hid (Below w4.heap.size w4 wr)) (fun _ _ _ sk _ => n - (intOf sk).toNat)
    case atStart => exact ⟨0, rfl, Nat.zero_le _, hide (World.ownsRow_nil _ _ _ _), hide (Below.refl _ _)⟩
    case round =>
      obtain ⟨k, rfl, hk, HO, HB⟩ := hrel
      obtain ⟨a5, c5, e5⟩ := own_form2 HO.out
      subst e5
      by_cases hlt : k < n
      · have r1 := HAT.out _ k HB.out hlt
        have HS := hide (Nt.sideTo_succ M k)
        have k0 : (0 : Int) ≤ (k : Int) := by omega
        have k1 : (k : Int) < (n : Int) := by omega
        by_cases hy : M.getD k 0 = -2
        · rw [hy] at r1
          rw [if_pos hy] at HS
          have r2 : wr.cell? ⟨g, k, none⟩ = some (.int .i64 (-2)) := r1
          have HO2 : Hid (wr.ownsRow w4.heap.size 3 1 (.slice a5 (Nt.sideTo M k).length c5) (Nt.sideTo M (k + 1)).length (ints (Nt.sideTo M (k + 1)))) := hide (by rw [HS.out]; exact HO.out)
          clear r1 HO
          go_wp2_with fail
          go_roundw
          case rel => exact ⟨k + 1, by go_num, by omega, HO2, HB⟩
          case measure => simp only [intOf]; omega
        · rw [if_neg hy] at HS
          have hz : (M.getD k 0 != (-2 : Int)) = true := by simpa using hy
          generalize M.getD k 0 = z at *
          have hl : (Nt.sideTo M k).length ≤ 1000 := by
            have : (Nt.sideTo M k).length ≤ k := by
              unfold Nt.sideTo
              rw [List.length_map]
              exact Nat.le_trans (List.length_filter_le _ _) (by simp)
            omega
          obtain ⟨v6, w6, p6, o6, g6⟩ := push_int (x := (k : Int)) HO.out (by omega) HB.out.size
          have HO6 : Hid (w6.ownsRow w4.heap.size 3 1 v6 (Nt.sideTo M (k + 1)).length (ints (Nt.sideTo M (k + 1)))) := hide (by rw [HS.out, ints_snoc, List.length_append]; exact o6)
          have HB6 := hide (HB.out.trans (grown_under' g6 HO.out (Nat.le_refl _) HB.out.size))
          generalize (Nt.sideTo M k).length = L at *
          clear o6 g6 HO HB HS hy
          go_wp2_with (first | (at_builtin; refine Lib.wpList_append_run _ rfl _ _ 25 25 rfl _ _ rfl rfl _ _ (p6 _) ?_))
          go_roundw
          case rel => exact ⟨k + 1, by go_num, by omega, HO6, HB6⟩
          case measure => simp only [intOf]; omega
      · have hke : k = n := by omega
        subst hke
        have HO2 := hide (own_low2 HO.out HB4.out.size)
        have HBE := hide (HB4.out.trans (HB.out.mono HB4.out.size))
        go_wp2_with fail
        go_ret2
        exact ⟨_, rfl, HO2.out, HBE.out⟩
end Go.Proofs.Ytnepjahhconodaa
namespace Go.Proofs.Ytnepjahhconodaa
open Go.RowKit

set_option maxRecDepth 100000 in
set_option maxHeartbeats 8000000 in
theorem mfl_any {aw : Option Addr} {n c : Nat} {W : List (List Int)} {w : World} (HN : Hid (W.length = n)) (HG : Hid (Nt.netB W = true)) (HW : Hid (CRow w aw W)) :
    Calls Try.prog 19 #[.slice aw n c] w fun e w' => ∃ v us, e = .returned v ∧ LL w' w.heap.size 25 3 1 ints v us (Nt.mostL W) ∧ Below w.heap.size w w' := by
  have HRW := hide (Nt.netB_rows HG.out)
  have h8 := Nt.rowsB_len HRW.out
  rw [HN.out] at h8
  obtain ⟨h2, h8⟩ := h8
  have hmk := makeI_run n (by omega)
  have HZL : Hid ((Nt.zeros n).length = n) := hide (Nt.zeros_len n)
  go_enter Try.func19, Try.ntmps19
  go_wp2_with fail
  go_loopw [3, 5, 10] (fun s3 _ sk wr => ∃ (k : Nat) (us : List Value), sk = .int .i64 k ∧ k ≤ n ∧ Hid (LL wr w.heap.size 25 3 1 ints s3 us ((Nt.zeros n).take k)) ∧ Hid (Below w.heap.size w wr)) (fun _ _ sk _ => n - (intOf sk).toNat)
  case atStart => exact ⟨0, [], rfl, Nat.zero_le _, hide (LL.nil _ _ _ _ _ _), hide (Below.refl _ _)⟩
  case round =>
    obtain ⟨k, us, rfl, hk, HL, HB⟩ := hrel
    by_cases hlt : k < n
    · obtain ⟨b, off, ai, ci, rfl, hb, q1, _⟩ := HW.out.at (i := k) (by rw [HN.out]; exact hlt)
      rw [Nt.rowsB_row HRW.out (i := k) (by rw [HN.out]; exact hlt), HN.out] at q1
      have r1 := (HB.out.cell (p := ⟨b, off + k, none⟩) hb).trans q1
      have j0 : (0 : Int) ≤ (k : Int) := by omega
      have j1 : (k : Int) < (n : Int) := by omega
      have hkl : ((Nt.zeros n).take k).length = k := by rw [List.length_take, HZL.out]; omega
      obtain ⟨av, cv, ev⟩ := HL.out.form
      rw [hkl] at ev
      subst ev
      obtain ⟨G, cap, w1, p1, L1, B1⟩ := HL.out.pushRow (V := wr.alloc (.cells (madeCells #[.int .i64 0] n) 3)) (u := .slice (some ⟨wr.heap.size, 0, none⟩) n n) (r := List.replicate n 0) (below_new _ _) (by rw [List.length_replicate]; exact made_own wr n (by omega)) rfl (by rw [hkl]; omega) HB.out.size
      rw [hkl] at p1 L1
      rw [World.size_alloc] at p1
      rw [Nt.zeros_snoc hlt] at L1
      have HL1 := hide L1
      have HB1 := hide (HB.out.trans (B1.mono (Nat.le_refl _)))
      clear q1 L1 B1 HL hkl
      go_wp2_with (first | (at_builtin; refine Lib.wpList_append_run _ rfl (.tmp 14) (.tmp 18) 23 23 rfl _ _ rfl rfl _ _ (p1 _) ?_))
      go_roundw
      case rel => exact ⟨k + 1, _, by go_num, by omega, HL1, HB1⟩
      case measure => simp only [intOf]; omega
    · have hke : k = n := by omega
      subst hke
      have HE : Hid ((Nt.zeros k).take k = Nt.zeros k) := hide (List.take_of_length_le (by rw [HZL.out]; exact Nat.le_refl _))
      rw [HE.out] at HL
      obtain ⟨G, cap, ev⟩ : ∃ G cap, _ = Value.slice (some ⟨G, 0, none⟩) k cap := by
        have ho := HL.out.1
        rw [HZL.out] at ho
        obtain ⟨G, cap, e, _, _⟩ := ho.form (by omega)
        exact ⟨G, cap, e⟩
      subst ev
      have HNF : Hid (Nt.NF W (Nt.zeros k)) := hide (by have := Nt.zeros_nf HG.out; rw [HN.out] at this; exact this)
      have HMF : Hid (Nt.mf W 401 (Nt.zeros k) = Nt.mostL W) := hide (by rw [Nt.mostL, HN.out])
      have HVL : Hid (400 - Nt.outI (Nt.zeros k) 0 < ((401 : Nat) : Int)) := hide (by rw [Nt.zeros_out]; omega)
      clear hmk HE
      go_wp2_with fail
      go_loopw [3, 6, 7] (fun s3 _ _ wr => ∃ (G cap f : Nat) (us : List Value) (F : List (List Int)), s3 = .slice (some ⟨G, 0, none⟩) k cap ∧ Hid (LL wr w.heap.size 25 3 1 ints (.slice (some ⟨G, 0, none⟩) k cap) us F) ∧ Hid (Nt.NF W F) ∧ Hid (Nt.mf W f F = Nt.mostL W) ∧ Hid (400 - Nt.outI F 0 < (f : Int)) ∧ Hid (Below w.heap.size w wr)) (fun s3 _ _ wr => msf k s3 wr)
      case atStart => exact ⟨G, cap, 401, us, Nt.zeros k, rfl, HL, HNF, HMF, HVL, HB⟩
      case round =>
        clear HL HNF HMF HVL HB
        obtain ⟨G, cap, f, us, F, rfl, HL, HNF, HMF, HVL, HB⟩ := hrel
        have HFL : Hid (F.length = k) := hide (HNF.out.len.trans HN.out)
        have HMS := hide (HL.out.msf HFL.out HNF.out.rows)
        have HFC : Hid (CRow wr (some ⟨G, 0, none⟩) F) := hide (LL.crow (c := cap) (by rw [HFL.out]; exact HL.out))
        have HWC := hide (HW.out.below HB.out)
        have HRL : Hid ((Nt.rooms W F).length = k) := hide ((Nt.rooms_len W F).trans HN.out)
        have HRR : Hid (∀ i, i < k → ((Nt.rooms W F).getD i []).length = k) := hide fun i hi => by rw [Nt.rooms_row W F (by rw [HN.out]; exact hi), Nt.roomR_len, HN.out]
        have HWY : Hid (Nt.wayM (Nt.come (Nt.rooms W F) k) k = Nt.wayOf W F) := hide (by rw [Nt.wayOf, HN.out])
        go_wp2_with fail
        refine (ro13_any HN HNF HWC HFC).mono ?_
        rintro e w1 ⟨v1, us1, rfl, L1, hb1⟩
        obtain ⟨a1, c1, rfl⟩ := L1.form
        have HR1 : Hid (CRow w1 a1 (Nt.rooms W F)) := hide L1.crow
        rw [HRL.out]
        have HB1 := hide hb1
        clear hb1 L1
        go_wp2_with fail
        refine (wt_any HRL h2 h8 HRR HR1).mono ?_
        rintro e w2 ⟨v2, rfl, own2, hb2⟩
        rw [HWY.out] at own2
        by_cases hnil : Nt.wayOf W F = []
        · obtain ⟨a2, c2, rfl⟩ := own_form2 own2
          rw [hnil]
          obtain ⟨f, rfl⟩ : ∃ g, f = g + 1 := ⟨f - 1, by have := HVL.out; have := Nt.value_bd HNF.out; omega⟩
          have HLE : Hid (LL w2 w.heap.size 25 3 1 ints (.slice (some ⟨G, 0, none⟩) k cap) us (Nt.mostL W)) := hide (by
            rw [← HMF.out, Nt.mf, if_pos hnil]
            exact (HL.out.below HB1.out).below hb2)
          have HBE := hide ((HB.out.trans (HB1.out.mono HB.out.size)).trans (hb2.mono (Nat.le_trans HB.out.size HB1.out.size)))
          clear own2 hb2 HMF HVL hnil
          go_wp2_with fail
          go_ret
          exact ⟨_, us, rfl, HLE.out, HBE.out⟩
        · have hWn : 2 ≤ W.length := by rw [HN.out]; exact h2
          have HWAY := hide (Nt.wayOf_is hWn hnil)
          have HNX := hide (Nt.next_nf HNF.out hnil)
          have HMF2 : Hid (∃ g, f = g + 1 ∧ Nt.mf W g (Nt.pushL (Nt.byI W F (Nt.wayOf W F)) F (Nt.wayOf W F)) = Nt.mostL W) := hide (by
            obtain ⟨g, rfl⟩ : ∃ g, f = g + 1 := ⟨f - 1, by have := HVL.out; have := Nt.value_bd HNF.out; omega⟩
            refine ⟨g, rfl, ?_⟩
            have := HMF.out
            rw [Nt.mf, if_neg hnil] at this
            exact this)
          obtain ⟨m, hm⟩ : ∃ m, (Nt.wayOf W F).length = m := ⟨_, rfl⟩
          have HM := hide hm
          have hm2 : 2 ≤ m := by rw [← hm]; exact HWAY.out.len
          have hm8 : m ≤ 8 := by have := HWAY.out.few; rw [HN.out] at this; omega
          have HPOK := hide (pok_of HNF.out HWAY.out HN.out hm)
          have HBY := hide (Nt.by_facts HNF.out HWAY.out)
          rw [hm] at own2
          obtain ⟨g2, c2, rfl, _, _⟩ := own2.form (by omega)
          have hc2 := (own_full own2).1
          have HP2 : Hid (ARow w2 (some ⟨g2, 0, none⟩) (Nt.wayOf W F)) := hide (arow_owns hm.symm own2)
          have HR2 := hide (HR1.out.below hb2)
          have HL2 := hide ((HL.out.below HB1.out).below hb2)
          have HB2 := hide ((HB.out.trans (HB1.out.mono HB.out.size)).trans (hb2.mono (Nat.le_trans HB.out.size HB1.out.size)))
          have HLO : Hid (∀ i, i < m → 0 ≤ (Nt.wayOf W F).getD i 0 ∧ (Nt.wayOf W F).getD i 0 < (k : Int)) := hide fun i hi => by rw [← HN.out]; exact HWAY.out.lo i (by rw [HM.out]; exact hi)
          have hme : ((m : Int) == (0 : Int)) = false := by simp; omega
          clear own2 hb2 hm HL HB HB1 HR1 HFC HWC hWn hnil
          generalize Nt.wayOf W F = P at *
          go_wp2_with fail
          refine (ra13 HRL HRR HR2 HM hm2 (by omega) hc2 HP2 HLO).mono ?_
          rintro e w3 ⟨v3, rfl, own3, hb3⟩
          obtain ⟨g3, c3, rfl, _, _⟩ := own3.form (by omega)
          have HA3 : Hid (ARow w3 (some ⟨g3, 0, none⟩) (Nt.along (Nt.rooms W F) P)) := hide (arow_owns (by rw [Nt.along_len, HM.out]) own3)
          have HP3 := hide (HP2.out.below hb3)
          have HL3 := hide (HL2.out.below hb3)
          have HB3 := hide (HB2.out.trans (hb3.mono HB2.out.size))
          clear own3 hb3 HP2 HL2 HB2 HR2
          go_wp2_with fail
          refine (min13 (by rw [Nt.along_len, HM.out]) (by omega) (by omega) HA3.out).mono ?_
          rintro e w4 ⟨rfl, hw4⟩
          obtain rfl : w3 = w4 := hw4.symm
          have HFC3 : Hid (CRow w3 (some ⟨G, 0, none⟩) F) := hide (LL.crow (c := cap) (by rw [HFL.out]; exact HL3.out))
          have HBYE : Hid (Nt.lst (Nt.along (Nt.rooms W F) P) = Nt.byI W F P) := hide rfl
          rw [HBYE.out]
          go_wp2_with fail
          refine (pu_any HPOK hc2 HFC3 HP3).mono ?_
          rintro e w5 ⟨v5, us5, rfl, L5, hb5⟩
          obtain ⟨gf, hgf, hmf2⟩ := HMF2.out
          have HNF5 := hide HNX.out.1
          have hval := HNX.out.2
          have HMF5 := hide hmf2
          have HV5 : Hid (400 - Nt.outI (Nt.pushL (Nt.byI W F P) F P) 0 < (gf : Int)) := hide (by have := HVL.out; omega)
          have hlen5 : (Nt.pushL (Nt.byI W F P) F P).length = k := HNX.out.1.len.trans HN.out
          obtain ⟨G5, cap5, e5, _, _⟩ := L5.1.form (by rw [hlen5]; omega)
          rw [hlen5] at e5
          subst e5
          have HL5 := hide (L5.low HB3.out.size)
          have HB5 := hide (HB3.out.trans (hb5.mono HB3.out.size))
          have HMS5 := hide (L5.msf hlen5 HNX.out.1.rows)
          have hvb := Nt.value_bd HNX.out.1
          clear L5 hb5 HMF2 HNX HPOK HBY HA3 HP3 HL3 HFC3
          go_wp2_with fail
          go_roundw
          case rel => exact ⟨G5, cap5, gf, us5, _, rfl, HL5, HNF5, HMF5, HV5, HB5⟩
          case measure => rw [HMS5.out, HMS.out]; omega
end Go.Proofs.Ytnepjahhconodaa
namespace Go.Proofs.Ytnepjahhconodaa
open Go.RowKit
set_option maxRecDepth 100000 in
set_option maxHeartbeats 2000000 in
theorem mo_w {aw : Option Addr} {n c : Nat} {W : List (List Int)} {w : World} (HN : Hid (W.length = n)) (HW : Hid (CRow w aw W)) :
    Calls Try.prog 8 #[.slice aw n c] w fun e w' => ∃ v us, e = .returned (.tuple #[v, .int .i64 (Nt.moI W), .bool (Nt.netB W)]) ∧ LL w' w.heap.size 25 3 1 ints v us (Nt.moL W) ∧ Below w.heap.size w w' := by
  cases hg : Nt.netB W
  · have HG := hide hg
    have e1 : Nt.moL W = [] := by simp [Nt.moL, hg]
    have e2 : Nt.moI W = 0 := by simp [Nt.moI, hg]
    rw [e1, e2]
    clear hg e1 e2
    go_enter Try.func8, Try.ntmps8
    go_wp2_with fail
    refine (gn_eq HN HW HG).mono ?_
    rintro e w1 ⟨rfl, hw1⟩
    obtain rfl : w = w1 := hw1.symm
    go_wp2_with fail
    go_ret3
    exact ⟨_, [], rfl, LL.nil _ _ _ _ _ _, Below.refl _ _⟩
  · have HG := hide hg
    have e1 : Nt.moL W = Nt.mostL W := by simp [Nt.moL, hg]
    have e2 : Nt.moI W = Nt.outI (Nt.mostL W) 0 := by simp [Nt.moI, hg]
    rw [e1, e2]
    have HNF := hide (Nt.most_inv hg).1
    have h8 := Nt.rowsB_len (Nt.netB_rows hg)
    rw [HN.out] at h8
    obtain ⟨h2, h8⟩ := h8
    have HFL : Hid ((Nt.mostL W).length = n) := hide (HNF.out.len.trans HN.out)
    have HFR := hide HNF.out.rows
    obtain ⟨z, hz⟩ : ∃ z, z = Nt.outI (Nt.mostL W) 0 := ⟨_, rfl⟩
    rw [← hz]
    have HZ := hide hz
    clear hg e1 e2 hz
    go_enter Try.func8, Try.ntmps8
    go_wp2_with fail
    refine (gn_eq HN HW HG).mono ?_
    rintro e w1 ⟨rfl, hw1⟩
    obtain rfl : w = w1 := hw1.symm
    go_wp2_with fail
    refine (mfl_any HN HG HW).mono ?_
    rintro e w2 ⟨v2, us2, rfl, L2, hb2⟩
    obtain ⟨G, cap, e2, _, _⟩ := L2.1.form (by rw [HFL.out]; omega)
    rw [HFL.out] at e2
    subst e2
    have HC2 : Hid (CRow w2 (some ⟨G, 0, none⟩) (Nt.mostL W)) := hide (LL.crow (c := cap) (by rw [HFL.out]; exact L2))
    have HL2 := hide L2
    have HO := hide (oli_any (c := cap) (h := 0) HFL (by omega) HFR HC2)
    rw [← HZ.out] at HO
    clear L2
    go_wp2_with fail
    refine HO.out.mono ?_
    rintro e w3 ⟨rfl, hw3⟩
    obtain rfl : w2 = w3 := hw3.symm
    go_wp2_with fail
    go_ret3
    exact ⟨_, us2, rfl, HL2.out, hb2⟩
set_option maxRecDepth 100000 in
set_option maxHeartbeats 4000000 in
theorem co_w {aw : Option Addr} {n c : Nat} {W : List (List Int)} {w : World} (HN : Hid (W.length = n)) (HW : Hid (CRow w aw W)) :
    Calls Try.prog 5 #[.slice aw n c] w fun e w' => ∃ v, e = .returned (.tuple #[v, .bool (Nt.netB W)]) ∧ w'.ownsRow w.heap.size 3 1 v (Nt.coL W).length (ints (Nt.coL W)) ∧ Below w.heap.size w w' := by
  cases hg : Nt.netB W
  · have HG := hide hg
    have e1 : Nt.coL W = [] := by simp [Nt.coL, hg]
    rw [e1]
    clear hg e1
    go_enter Try.func5, Try.ntmps5
    go_wp2_with fail
    refine (gn_eq HN HW HG).mono ?_
    rintro e w1 ⟨rfl, hw1⟩
    obtain rfl : w = w1 := hw1.symm
    go_wp2_with fail
    go_ret2
    exact ⟨_, rfl, World.ownsRow_nil _ _ _ _, Below.refl _ _⟩
  · have HG := hide hg
    have HNF := hide (Nt.most_inv hg).1
    have h8 := Nt.rowsB_len (Nt.netB_rows hg)
    rw [HN.out] at h8
    obtain ⟨h2, h8⟩ := h8
    have HFL : Hid ((Nt.mostL W).length = n) := hide (HNF.out.len.trans HN.out)
    have HRL : Hid ((Nt.rooms W (Nt.mostL W)).length = n) := hide ((Nt.rooms_len W _).trans HN.out)
    have HRR : Hid (∀ i, i < n → ((Nt.rooms W (Nt.mostL W)).getD i []).length = n) := hide fun i hi => by rw [Nt.rooms_row W _ (by rw [HN.out]; exact hi), Nt.roomR_len, HN.out]
    have HCL := hide (Nt.come_len (Nt.rooms W (Nt.mostL W)) (n := n) (by omega))
    have HE : Hid (Nt.coL W = Nt.sideTo (Nt.come (Nt.rooms W (Nt.mostL W)) n) n) := hide (by
      unfold Nt.coL
      rw [if_pos hg, Nt.sideL, HN.out, HCL.out]
      rfl)
    obtain ⟨M, hM⟩ : ∃ M, M = Nt.come (Nt.rooms W (Nt.mostL W)) n := ⟨_, rfl⟩
    rw [HE.out, ← hM]
    rw [← hM] at HCL
    have HMM := hide hM
    clear hg hM HE
    go_enter Try.func5, Try.ntmps5
    go_wp2_with fail
    refine (gn_eq HN HW HG).mono ?_
    rintro e w1 ⟨rfl, hw1⟩
    obtain rfl : w = w1 := hw1.symm
    go_wp2_with fail
    refine (mfl_any HN HG HW).mono ?_
    rintro e w2 ⟨v2, us2, rfl, L2, hb2⟩
    obtain ⟨G, cap, e2, _, _⟩ := L2.1.form (by rw [HFL.out]; omega)
    rw [HFL.out] at e2
    subst e2
    have HC2 : Hid (CRow w2 (some ⟨G, 0, none⟩) (Nt.mostL W)) := hide (LL.crow (c := cap) (by rw [HFL.out]; exact L2))
    have HB2 := hide hb2
    have HW2 := hide (HW.out.below hb2)
    clear L2 hb2
    go_wp2_with fail
    refine (ro13_any HN HNF HW2 HC2).mono ?_
    rintro e w3 ⟨v3, us3, rfl, L3, hb3⟩
    obtain ⟨a3, c3, rfl⟩ := L3.form
    have HR3 : Hid (CRow w3 a3 (Nt.rooms W (Nt.mostL W))) := hide L3.crow
    rw [HRL.out]
    have HB3 := hide (HB2.out.trans (hb3.mono HB2.out.size))
    clear L3 hb3 HB2 HW2 HC2
    go_wp2_with fail
    refine (cam_any HRL h2 h8 HRR HR3).mono ?_
    rintro e w4 ⟨g, rfl, own, hb4⟩
    rw [← HMM.out] at own
    have HB4 := hide (HB3.out.trans (hb4.mono HB3.out.size))
    have HAT : Hid (∀ (V : World) (i : Nat), Below w4.heap.size w4 V → i < n → V.cell? ⟨g, i, none⟩ = some (.int .i64 (Nt.encF (M.getD i 0)))) := hide fun V i hV hi => by
      rw [(own_below2 own hV).cellAt i (by omega), ints_get _ i (by rw [Nt.enc_len, HCL.out]; exact hi), Nt.enc_at (by rw [HCL.out]; exact hi)]
    clear own hb4 HB3 HR3
    go_wp2_with fail
    go_loopw [4, 5, 6, 16] (fun s4 _ _ sk wr => ∃ (k : Nat), sk = .int .i64 k ∧ k ≤ n ∧ Hid (wr.ownsRow w4.heap.size 3 1 s4 (Nt.sideTo M k).length (ints (Nt.sideTo M k))) ∧ Hid (Below w4.heap.size w4 wr)) (fun _ _ _ sk _ => n - (intOf sk).toNat)
    case atStart => exact ⟨0, rfl, Nat.zero_le _, hide (World.ownsRow_nil _ _ _ _), hide (Below.refl _ _)⟩
    case round =>
      obtain ⟨k, rfl, hk, HO, HB⟩ := hrel
      obtain ⟨a5, c5, e5⟩ := own_form2 HO.out
      subst e5
      by_cases hlt : k < n
      · have r1 := HAT.out _ k HB.out hlt
        have HS := hide (Nt.sideTo_succ M k)
        have k0 : (0 : Int) ≤ (k : Int) := by omega
        have k1 : (k : Int) < (n : Int) := by omega
        by_cases hy : M.getD k 0 = -2
        · rw [hy] at r1
          rw [if_pos hy] at HS
          have r2 : wr.cell? ⟨g, k, none⟩ = some (.int .i64 (-1)) := r1
          have HO2 : Hid (wr.ownsRow w4.heap.size 3 1 (.slice a5 (Nt.sideTo M k).length c5) (Nt.sideTo M (k + 1)).length (ints (Nt.sideTo M (k + 1)))) := hide (by rw [HS.out]; exact HO.out)
          clear r1 HO
          go_wp2_with fail
          go_roundw
          case rel => exact ⟨k + 1, by go_num, by omega, HO2, HB⟩
          case measure => simp only [intOf]; omega
        · rw [if_neg hy] at HS
          have hz : (Nt.encF (M.getD k 0) != (-1 : Int)) = true := by simpa using fun e => hy ((Nt.encF_no _).1 e)
          generalize Nt.encF (M.getD k 0) = z at *
          have hl : (Nt.sideTo M k).length ≤ 1000 := by
            have : (Nt.sideTo M k).length ≤ k := by
              unfold Nt.sideTo
              rw [List.length_map]
              exact Nat.le_trans (List.length_filter_le _ _) (by simp)
            omega
          obtain ⟨v6, w6, p6, o6, g6⟩ := push_int (x := (k : Int)) HO.out (by omega) HB.out.size
          have HO6 : Hid (w6.ownsRow w4.heap.size 3 1 v6 (Nt.sideTo M (k + 1)).length (ints (Nt.sideTo M (k + 1)))) := hide (by rw [HS.out, ints_snoc, List.length_append]; exact o6)
          have HB6 := hide (HB.out.trans (grown_under' g6 HO.out (Nat.le_refl _) HB.out.size))
          generalize (Nt.sideTo M k).length = L at *
          clear o6 g6 HO HB HS hy
          go_wp2_with (first | (at_builtin; refine Lib.wpList_append_run _ rfl _ _ 25 25 rfl _ _ rfl rfl _ _ (p6 _) ?_))
          go_roundw
          case rel => exact ⟨k + 1, by go_num, by omega, HO6, HB6⟩
          case measure => simp only [intOf]; omega
      · have hke : k = n := by omega
        subst hke
        have HO2 := hide (own_low2 HO.out HB4.out.size)
        have HBE := hide (HB4.out.trans (HB.out.mono HB4.out.size))
        go_wp2_with fail
        go_ret2
        exact ⟨_, rfl, HO2.out, HBE.out⟩
end Go.Proofs.Ytnepjahhconodaa
