/-
  What packs, IsPacking and WasteOf of the program answer.
-/
import Derived.Test.YtoalcmfpbjmapaaIb12
import Derived.Test.YtoalcmfpbjmapaaIc12
import Derived.Test.YtoalcmfpbjmapaaQa
namespace Go.Proofs.Ytoalcmfpbjmapaa
open Go.RowKit

theorem SI.low {W : World} {P B : Nat} {xs : List Int} (h : SI W P B xs) : ∃ a c, W.cell? ⟨P, 0, none⟩ = some (.slice a xs.length c) := by
  obtain ⟨_, _, v, c0, _, own⟩ := h
  obtain ⟨a, c, rfl⟩ := own_form own
  exact ⟨a, c, c0⟩
theorem si_new (w : World) (t : TypeId) : SI (w.alloc (.cells #[.slice none 0 0] t)) w.heap.size (w.heap.size + 1) [] := by
  refine ⟨by omega, by simp, .slice none 0 0, by simp, ?_, ⟨rfl, Or.inl ⟨rfl, rfl⟩⟩⟩
  simp [go_sem]
set_option maxHeartbeats 4000000 in
theorem pk_any {a a' : Option Addr} {n m c d : Nat} {l : List Int} {F : List (List Int)} {w : World} (hx : l.length = n) (hf : F.length = m) (hg : It.goodB l = true) (hm : m ≤ 1048576) (hl : ∀ i, i < m → (F.getD i []).length ≤ 1048576) (ha : ARow w a l) (hF : CRow w a' F) :
    Calls Try.prog 44 #[.slice a n c, .slice a' m d] w fun e w' => e = .returned (.bool (It.packB l F)) ∧ Below w.heap.size w w' := by
  have HX := hide hx
  have HF := hide hf
  have HG := hide hg
  have HL := hide hl
  have HA := hide fun (W : World) (h : Below w.heap.size w W) => ha.below h
  have HC := hide hF
  have h9 := It.good_len hg
  rw [hx] at h9
  have n9 : (n : Int) ≤ 9 := by omega
  have HS0 := hide (si_new w 61)
  have HB0 := hide (below_alloc w (.cells #[.slice none 0 0] 61))
  obtain ⟨R, hR⟩ : ∃ R, It.packB l F = R := ⟨_, rfl⟩
  have HR := hide hR
  rw [hR]
  obtain ⟨P, hP⟩ : ∃ P, w.heap.size = P := ⟨_, rfl⟩
  have HP := hide hP
  rw [hP] at HS0 HB0
  clear hP
  clear hx hf hg hl ha hF hR
  go_enter Try.func44, Try.ntmps44
  go_wp2_with fail
  rw [HP.out]
  go_loopw [4, 7, 8, 10, 13] (fun s4 _ _ _ s13 wr => ∃ (k : Nat) (sn : List Int), s4 = .bool false ∧ s13 = .int .i64 k ∧ k ≤ m ∧ Hid (It.PW l F k sn) ∧ Hid (SI wr P (P + 1) sn) ∧ Hid (Below w.heap.size w wr)) (fun _ _ _ _ s13 _ => m - (intOf s13).toNat)
  case atStart => exact ⟨0, [], rfl, rfl, Nat.zero_le _, hide It.pw_start, HS0, hide (by rw [HP.out]; exact HB0.out)⟩
  case round =>
    obtain ⟨k, sn, rfl, rfl, hk, HPW, HSI, HB⟩ := hrel
    by_cases hlt : k < m
    · obtain ⟨b, off, ai, ci, rfl, hbl, r1, r2⟩ := HC.out.at (i := k) (by rw [HF.out]; exact hlt)
      have i0 : (0 : Int) ≤ (k : Int) := by omega
      have i1 : (k : Int) < (m : Int) := by omega
      have hL := HL.out k hlt
      obtain ⟨Q, hQ⟩ : ∃ Q, F.getD k [] = Q := ⟨_, rfl⟩
      obtain ⟨L, hLQ⟩ : ∃ L, Q.length = L := ⟨_, rfl⟩
      rw [hQ] at hL r1
      rw [hLQ] at hL r1
      rw [hQ] at r2
      have HQ := hide hQ
      have HLQ := hide hLQ
      have HRB := hide fun (W : World) (h : Below w.heap.size w W) => r2.below h
      have q1 := (HB.out.cell (p := ⟨b, off + k, none⟩) hbl).trans r1
      have H0 := hide (It.bw_start (b := Q) HPW.out.2)
      clear hQ hLQ r2 HC HL HS0 HB0 r1
      go_wp2_with fail
      go_loopw [4, 8, 10, 19] (fun s4 s8 _ s19 wq => ∃ (j : Nat) (sm : List Int) (h : Int), s4 = .bool false ∧ s8 = .int .i64 h ∧ s19 = .int .i64 j ∧ j ≤ L ∧ Hid (It.BW l Q sn j sm h) ∧ Hid (SI wq P (P + 1) sm) ∧ Hid (Below w.heap.size w wq)) (fun _ _ _ s19 _ => L - (intOf s19).toNat)
      case atStart => exact ⟨0, sn, 0, rfl, rfl, rfl, Nat.zero_le _, H0, HSI, HB⟩
      case round =>
        clear HSI HB q1
        obtain ⟨j, sm, h, rfl, rfl, rfl, hj, HBW, HSI, HB⟩ := hrel
        have hsm := HBW.out.2.1.few
        rw [HX.out] at hsm
        obtain ⟨h0, h1, h2⟩ := HBW.out.2.2
        have h180 : h ≤ 180 := by omega
        by_cases hjl : j < L
        · obtain ⟨b2, o2, rfl, q2⟩ := (HRB.out _ HB.out).at (i := j) (by rw [HLQ.out]; exact hjl)
          have j0 : (0 : Int) ≤ (j : Int) := by omega
          have j1 : (j : Int) < (L : Int) := by omega
          have HNO := hide fun (e : (Pf.inB (Q.getD j 0) 0 ((n : Int) - 1) && !sm.contains (Q.getD j 0)) = false) => It.pw_none HPW.out (by rw [HF.out]; exact hlt) (by rw [HQ.out]; exact It.bw_no HBW.out (by rw [HLQ.out]; exact hjl) (by rw [HX.out]; exact e))
          have HYE := hide fun (e1 : Pf.inB (Q.getD j 0) 0 ((n : Int) - 1) = true) (e2 : sm.contains (Q.getD j 0) = false) => It.bw_step HG.out HBW.out (by rw [HLQ.out]; exact hjl) (by rw [HX.out]; exact e1) e2
          have HAD := hide (add_any (x := Q.getD j 0) HSI.out (by omega))
          generalize Q.getD j 0 = x at *
          clear h1 h2 HBW
          cases e1 : Pf.inB x 0 ((n : Int) - 1)
          · have H1 := hide (HNO.out (by rw [e1]; rfl))
            clear HNO HYE HAD
            go_wp2_with fail
            refine (between_eq e1).mono ?_
            rintro e w1 ⟨rfl, rfl⟩
            go_wp2_with fail
            go_ret
            exact ⟨ret_bool (by rw [← HR.out, H1.out]), HB.out⟩
          · cases e2 : sm.contains x
            · have H2 := hide (HYE.out e1 e2)
              rw [e2] at HAD
              obtain ⟨x0, x1⟩ := Pf.inB_yes e1
              obtain ⟨xi, rfl⟩ : ∃ xi : Nat, x = (xi : Int) := ⟨x.toNat, by omega⟩
              have hxi : xi < n := by omega
              have hv := It.good_at HG.out (i := xi) (by rw [HX.out]; exact hxi)
              rw [Int.toNat_natCast] at H2
              clear HNO HYE HSI
              go_wp2_with fail
              refine (between_eq e1).mono ?_
              rintro e w1 ⟨rfl, rfl⟩
              go_wp2_with fail
              refine HAD.out.mono ?_
              rintro e w2 ⟨rfl, hs2, hb2⟩
              have HS2 := hide hs2
              have HB2 := hide (HB.out.trans (HP.out ▸ hb2))
              obtain ⟨b3, o3, rfl, q3⟩ := (HA.out _ HB2.out).at (i := xi) (by rw [HX.out]; exact hxi)
              have y0 : (0 : Int) ≤ (xi : Int) := by omega
              have y1 : (xi : Int) < (n : Int) := by omega
              generalize l.getD xi 0 = z at *
              have hwr : IntKind.i64.wrap (h + z) = h + z := by rw [IntKind.wrap_i64]; omega
              clear hs2 hb2 HAD HB
              go_wp2_with fail
              go_roundw
              case rel => exact ⟨j + 1, sm ++ [(xi : Int)], h + z, rfl, by go_num, by go_num, by omega, H2, HS2, HB2⟩
              case measure => simp only [intOf]; omega
            · have H1 := hide (HNO.out (by rw [e1, e2]; rfl))
              rw [e2] at HAD
              clear HNO HYE HSI
              go_wp2_with fail
              refine (between_eq e1).mono ?_
              rintro e w1 ⟨rfl, rfl⟩
              go_wp2_with fail
              refine HAD.out.mono ?_
              rintro e w2 ⟨rfl, hs2, hb2⟩
              have HB2 := hide (HB.out.trans (HP.out ▸ hb2))
              clear hs2 hb2
              go_wp2_with fail
              go_ret
              exact ⟨ret_bool (by rw [← HR.out, H1.out]), HB2.out⟩
        · have hje : j = L := by omega
          subst hje
          have HE := hide (It.bw_end HBW.out (by rw [HLQ.out]; exact Nat.le_refl _))
          have heq := It.held_eq (b := Q) h0 (by rw [HLQ.out]; exact h2)
          have HST := hide (fun (e : Pf.inB h 1 20 = true) => It.pw_step HPW.out (by rw [HF.out]; exact hlt) HBW.out.2.1 (by rw [HQ.out]; exact HE.out) (by rw [HQ.out, ← heq]; exact e))
          have HBD := hide (fun (e : Pf.inB h 1 20 = false) => It.pw_bad HPW.out (by rw [HF.out]; exact hlt) (by rw [HQ.out]; exact HE.out) (by rw [HQ.out, ← heq]; exact e))
          clear heq h1 h2 HBW HE
          cases e1 : Pf.inB h 1 20
          · have H1 := hide (HBD.out e1)
            clear HST HBD
            go_wp2_with fail
            refine (between_eq e1).mono ?_
            rintro e w1 ⟨rfl, rfl⟩
            go_wp2_with fail
            go_ret
            exact ⟨ret_bool (by rw [← HR.out, H1.out]), HB.out⟩
          · have H1 := hide (HST.out e1)
            clear HST HBD
            go_wp2_with fail
            refine (between_eq e1).mono ?_
            rintro e w1 ⟨rfl, rfl⟩
            go_wp2_with fail
            go_roundw
            case rel => exact ⟨k + 1, sm, rfl, by go_num, by omega, H1, HSI, HB⟩
            case measure => simp only [intOf]; omega
    · have hke : k = m := by omega
      subst hke
      have HE := hide (It.pw_end HPW.out (by rw [HF.out]; exact Nat.le_refl _))
      obtain ⟨aS, cS, c1⟩ := HSI.out.low
      obtain ⟨N, hN⟩ : ∃ N, sn.length = N := ⟨_, rfl⟩
      rw [hN] at c1
      have HE2 : Hid (R = ((N : Int) == (n : Int))) := hide (by
        rw [← HR.out, HE.out, hN, HX.out]
        by_cases e : N = n
        · subst e; simp
        · have : ¬ (N : Int) = (n : Int) := by omega
          rw [beq_eq_false_iff_ne.2 e, beq_eq_false_iff_ne.2 this])
      clear HE hN HS0 HB0
      go_wp2_with fail
      go_ret
      exact ⟨ret_bool HE2.out.symm, HB.out⟩
theorem pk_eq {a a' : Option Addr} {n m c d : Nat} {l : List Int} {F : List (List Int)} {w : World} {r : Bool} (hx : Hid (l.length = n)) (hf : Hid (F.length = m)) (hg : Hid (It.goodB l = true)) (hm : m ≤ 1048576) (hl : Hid (∀ i, i < m → (F.getD i []).length ≤ 1048576)) (ha : Hid (ARow w a l)) (hF : Hid (CRow w a' F)) (h : Hid (It.packB l F = r)) :
    Calls Try.prog 44 #[.slice a n c, .slice a' m d] w fun e w' => e = .returned (.bool r) ∧ Below w.heap.size w w' := h.out ▸ pk_any hx.out hf.out hg.out hm hl.out ha.out hF.out
set_option maxHeartbeats 1000000 in
theorem ip_w {a a' : Option Addr} {n m c d : Nat} {l : List Int} {F : List (List Int)} {w : World} (hx : l.length = n) (hf : F.length = m) (hm : m ≤ 1048576) (hl : ∀ i, i < m → (F.getD i []).length ≤ 1048576) (ha : ARow w a l) (hF : CRow w a' F) :
    Calls Try.prog 26 #[.slice a n c, .slice a' m d] w fun e w' => e = .returned (.tuple #[.bool (It.ipB l F), .bool (It.goodB l)]) ∧ Below w.heap.size w w' := by
  have HX := hide hx
  have HF := hide hf
  have HL := hide hl
  have HA := hide ha
  have HC := hide hF
  unfold It.ipB
  cases hg : It.goodB l
  · have HG := hide hg
    clear hx hf hl ha hF hg
    go_enter Try.func26, Try.ntmps26
    go_wp2_with fail
    refine (gi_eq HX HA HG).mono ?_
    rintro e w1 ⟨rfl, rfl⟩
    go_wp2_with fail
    refine bodyPost_ret (v := .tuple #[.bool false, .bool false]) (by simp [results, Try.results26, go_sem]) rfl ?_
    exact ⟨rfl, Below.refl _ _⟩
  · have HG := hide hg
    obtain ⟨R, hR⟩ : ∃ R, It.packB l F = R := ⟨_, rfl⟩
    have HR := hide hR
    rw [hR]
    clear hx hf hl ha hF hg hR
    go_enter Try.func26, Try.ntmps26
    go_wp2_with fail
    refine (gi_eq HX HA HG).mono ?_
    rintro e w1 ⟨rfl, rfl⟩
    go_wp2_with fail
    refine (pk_eq HX HF HG hm HL HA HC HR).mono ?_
    rintro e w2 ⟨rfl, hb⟩
    go_wp2_with fail
    refine bodyPost_ret (v := .tuple #[.bool R, .bool true]) (by simp [results, Try.results26, go_sem]) rfl ?_
    exact ⟨by rw [Bool.true_and], hb⟩
theorem ip_eq {a a' : Option Addr} {n m c d : Nat} {l : List Int} {F : List (List Int)} {w : World} {r g : Bool} (hx : Hid (l.length = n)) (hf : Hid (F.length = m)) (hm : m ≤ 1048576) (hl : Hid (∀ i, i < m → (F.getD i []).length ≤ 1048576)) (ha : Hid (ARow w a l)) (hF : Hid (CRow w a' F)) (h : Hid (It.ipB l F = r)) (h' : Hid (It.goodB l = g)) :
    Calls Try.prog 26 #[.slice a n c, .slice a' m d] w fun e w' => e = .returned (.tuple #[.bool r, .bool g]) ∧ Below w.heap.size w w' := h.out ▸ h'.out ▸ ip_w hx.out hf.out hm hl.out ha.out hF.out
end Go.Proofs.Ytoalcmfpbjmapaa
