/-
  What l12Packing, IsPacking and WasteOf of the model answer.
-/
import Derived.Test.YtoalcmfpbjmapabId12
import Derived.Test.YtoalcmfpbjmapabHc
namespace Go.Proofs.Ytoalcmfpbjmapab
open Go.RowKit

set_option maxHeartbeats 4000000 in
theorem spk_any {a a' : Option Addr} {n m c d : Nat} {l : List Int} {F : List (List Int)} {w : World} (hx : l.length = n) (hf : F.length = m) (hg : It.goodB l = true) (hm : m ≤ 1048576) (hl : ∀ i, i < m → (F.getD i []).length ≤ 1048576) (ha : ARow w a l) (hF : CRow w a' F) :
    Calls Try.prog 13 #[.slice a n c, .slice a' m d] w fun e w' => e = .returned (.bool (It.packB l F)) ∧ Below w.heap.size w w' := by
  have HX := hide hx
  have HF := hide hf
  have HG := hide hg
  have HL := hide hl
  have HA := hide fun (W : World) (h : Below w.heap.size w W) => ha.below h
  have HC := hide hF
  have h9 := It.good_len hg
  rw [hx] at h9
  have n9 : (n : Int) ≤ 9 := by omega
  obtain ⟨R, hR⟩ : ∃ R, It.packB l F = R := ⟨_, rfl⟩
  have HR := hide hR
  rw [hR]
  clear hx hf hg hl ha hF hR
  go_enter Try.func13, Try.ntmps13
  go_wp2_with fail
  go_loopw [4, 5, 7, 8, 10, 13] (fun s4 s5 _ _ _ s13 wr => ∃ (k : Nat) (sn : List Int), s4 = .bool false ∧ s13 = .int .i64 k ∧ k ≤ m ∧ Hid (It.PW l F k sn) ∧ Hid (wr.ownsRow w.heap.size 3 1 s5 sn.length (ints sn)) ∧ Hid (Below w.heap.size w wr)) (fun _ _ _ _ _ s13 _ => m - (intOf s13).toNat)
  case atStart => exact ⟨0, [], rfl, rfl, Nat.zero_le _, hide It.pw_start, hide ⟨rfl, Or.inl ⟨rfl, rfl⟩⟩, hide (Below.refl _ _)⟩
  case round =>
    obtain ⟨k, sn, rfl, rfl, hk, HPW, HSI, HB⟩ := hrel
    by_cases hlt : k < m
    · obtain ⟨b, off, ai, ci, rfl, hbl, r1, r2⟩ := HC.out.at (i := k) (by rw [HF.out]; exact hlt)
      have i0 : (0 : Int) ≤ (k : Int) := by omega
      have i1 : (k : Int) < (m : Int) := by omega
      have hL := HL.out k hlt
      obtain ⟨Q, hQ⟩ : ∃ Q, F.getD k [] = Q := ⟨_, rfl⟩
      obtain ⟨L, hLQ⟩ : ∃ L, Q.length = L := ⟨_, rfl⟩
      rw [hQ] at hL r1
      rw [hLQ] at hL r1
      rw [hQ] at r2
      have HQ := hide hQ
      have HLQ := hide hLQ
      have HRB := hide fun (W : World) (h : Below w.heap.size w W) => r2.below h
      have q1 := (HB.out.cell (p := ⟨b, off + k, none⟩) hbl).trans r1
      have H0 := hide (It.bw_start (b := Q) HPW.out.2)
      clear hQ hLQ r2 HC HL r1
      go_wp2_with fail
      go_loopw [4, 5, 8, 10, 19] (fun s4 s5 s8 _ s19 wq => ∃ (j : Nat) (sm : List Int) (h : Int), s4 = .bool false ∧ s8 = .int .i64 h ∧ s19 = .int .i64 j ∧ j ≤ L ∧ Hid (It.BW l Q sn j sm h) ∧ Hid (wq.ownsRow w.heap.size 3 1 s5 sm.length (ints sm)) ∧ Hid (Below w.heap.size w wq)) (fun _ _ _ _ s19 _ => L - (intOf s19).toNat)
      case atStart => exact ⟨0, sn, 0, rfl, rfl, rfl, Nat.zero_le _, H0, HSI, HB⟩
      case round =>
        clear HSI HB q1
        obtain ⟨j, sm, h, rfl, rfl, rfl, hj, HBW, HSI, HB⟩ := hrel
        have hsm := HBW.out.2.1.few
        rw [HX.out] at hsm
        obtain ⟨h0, h1, h2⟩ := HBW.out.2.2
        have h180 : h ≤ 180 := by omega
        by_cases hjl : j < L
        · obtain ⟨b2, o2, rfl, q2⟩ := (HRB.out _ HB.out).at (i := j) (by rw [HLQ.out]; exact hjl)
          have j0 : (0 : Int) ≤ (j : Int) := by omega
          have j1 : (j : Int) < (L : Int) := by omega
          have HNO := hide fun (e : (Pf.inB (Q.getD j 0) 0 ((n : Int) - 1) && !sm.contains (Q.getD j 0)) = false) => It.pw_none HPW.out (by rw [HF.out]; exact hlt) (by rw [HQ.out]; exact It.bw_no HBW.out (by rw [HLQ.out]; exact hjl) (by rw [HX.out]; exact e))
          have HYE := hide fun (e1 : Pf.inB (Q.getD j 0) 0 ((n : Int) - 1) = true) (e2 : sm.contains (Q.getD j 0) = false) => It.bw_step HG.out HBW.out (by rw [HLQ.out]; exact hjl) (by rw [HX.out]; exact e1) e2
          obtain ⟨av, cv, rfl, rv⟩ := own_row rfl HSI.out
          have HV := hide rv
          obtain ⟨N, hN⟩ : ∃ N, sm.length = N := ⟨_, rfl⟩
          have HN := hide hN
          obtain ⟨v', w3, hr3, own3, hg3⟩ := push_int (x := Q.getD j 0) HSI.out (by omega) HB.out.size
          have HB3 := hide (HB.out.trans (grown_under' hg3 HSI.out (Nat.le_refl _) HB.out.size))
          have HO3 : Hid (w3.ownsRow w.heap.size 3 1 v' (sm ++ [Q.getD j 0]).length (ints (sm ++ [Q.getD j 0]))) := hide (by rw [List.length_append, ints_snoc]; exact own3)
          rw [hN] at hr3 hsm
          rw [hN]
          generalize Q.getD j 0 = x at *
          clear h1 h2 HBW hN rv own3 hg3
          by_cases hx0 : x < 0
          · have e1 : Pf.inB x 0 ((n : Int) - 1) = false := by simp [Pf.inB]; omega
            have H1 := hide (HNO.out (by rw [e1]; rfl))
            clear HNO HYE hr3 HO3 HB3
            go_wp2_with fail
            go_ret
            exact ⟨ret_bool (by rw [← HR.out, H1.out]), HB.out⟩
          by_cases hxn : (n : Int) ≤ x
          · have e1 : Pf.inB x 0 ((n : Int) - 1) = false := by simp [Pf.inB]; omega
            have H1 := hide (HNO.out (by rw [e1]; rfl))
            clear HNO HYE hr3 HO3 HB3
            go_wp2_with fail
            go_ret
            exact ⟨ret_bool (by rw [← HR.out, H1.out]), HB.out⟩
          have e1 : Pf.inB x 0 ((n : Int) - 1) = true := Pf.inB_of (by omega) (by omega)
          cases e2 : sm.contains x
          · have H2 := hide (HYE.out e1 e2)
            have E2 := hide e2
            obtain ⟨xi, rfl⟩ : ∃ xi : Nat, x = (xi : Int) := ⟨x.toNat, by omega⟩
            have hxi : xi < n := by omega
            have hv := It.good_at HG.out (i := xi) (by rw [HX.out]; exact hxi)
            rw [Int.toNat_natCast] at H2
            obtain ⟨b3, o3, ea, q3⟩ := (HA.out _ HB3.out).at (i := xi) (by rw [HX.out]; exact hxi)
            subst ea
            have y0 : (0 : Int) ≤ (xi : Int) := by omega
            have y1 : (xi : Int) < (n : Int) := by omega
            generalize l.getD xi 0 = z at *
            have hwr : IntKind.i64.wrap (h + z) = h + z := by rw [IntKind.wrap_i64]; omega
            clear HNO HYE e1 e2 HSI
            go_wp2_with fail
            refine (has7_eq HN (by omega) HV E2).mono ?_
            rintro e w1 ⟨rfl, hw1⟩
            obtain rfl : _ = w1 := hw1.symm
            go_wp2_with (at_builtin; refine Lib.wpList_append_run _ rfl _ _ _ _ rfl _ _ rfl rfl _ _ (hr3 _) ?_)
            go_roundw
            case rel => exact ⟨j + 1, sm ++ [(xi : Int)], h + z, rfl, by go_num, by go_num, by omega, H2, HO3, HB3⟩
            case measure => simp only [intOf]; omega
          · have H1 := hide (HNO.out (by rw [e1, e2]; rfl))
            have E2 := hide e2
            clear HNO HYE hr3 HO3 HB3 e1 e2
            go_wp2_with fail
            refine (has7_eq HN (by omega) HV E2).mono ?_
            rintro e w1 ⟨rfl, hw1⟩
            obtain rfl : _ = w1 := hw1.symm
            go_wp2_with fail
            go_ret
            exact ⟨ret_bool (by rw [← HR.out, H1.out]), HB.out⟩
        · have hje : j = L := by omega
          subst hje
          have HE := hide (It.bw_end HBW.out (by rw [HLQ.out]; exact Nat.le_refl _))
          have hem : Q.isEmpty = decide (j = 0) := by
            rw [← HLQ.out]; cases Q <;> simp
          have HST := hide (fun (e1 : ¬ j = 0) (e2 : h ≤ 20) => It.pw_step HPW.out (by rw [HF.out]; exact hlt) HBW.out.2.1 (by rw [HQ.out]; exact HE.out) (by rw [HQ.out, hem]; simp [e1, e2]))
          have HBD := hide (fun (e : j = 0 ∨ 20 < h) => It.pw_bad HPW.out (by rw [HF.out]; exact hlt) (by rw [HQ.out]; exact HE.out) (by
            rw [HQ.out, hem]
            rcases e with e | e
            · simp [e]
            · have : ¬ h ≤ 20 := by omega
              simp [this]))
          clear h1 h2 HBW HE hem
          by_cases e1 : j = 0
          · have H1 := hide (HBD.out (Or.inl e1))
            have e1' : ((j : Int) == 0) = true := by simp [e1]
            clear HST HBD e1
            go_wp2_with fail
            go_ret
            exact ⟨ret_bool (by rw [← HR.out, H1.out]), HB.out⟩
          · have e1' : ((j : Int) == 0) = false := by simp; omega
            by_cases e2 : 20 < h
            · have H1 := hide (HBD.out (Or.inr e2))
              clear HST HBD e1
              go_wp2_with fail
              go_ret
              exact ⟨ret_bool (by rw [← HR.out, H1.out]), HB.out⟩
            · have H1 := hide (HST.out e1 (by omega))
              clear HST HBD e1
              go_wp2_with fail
              go_roundw
              case rel => exact ⟨k + 1, sm, rfl, by go_num, by omega, H1, HSI, HB⟩
              case measure => simp only [intOf]; omega
    · have hke : k = m := by omega
      subst hke
      have HE := hide (It.pw_end HPW.out (by rw [HF.out]; exact Nat.le_refl _))
      obtain ⟨av, cv, rfl, _⟩ := own_row rfl HSI.out
      obtain ⟨N, hN⟩ : ∃ N, sn.length = N := ⟨_, rfl⟩
      rw [hN]
      have HE2 : Hid (R = ((N : Int) == (n : Int))) := hide (by
        rw [← HR.out, HE.out, hN, HX.out]
        by_cases e : N = n
        · subst e; simp
        · have : ¬ (N : Int) = (n : Int) := by omega
          rw [beq_eq_false_iff_ne.2 e, beq_eq_false_iff_ne.2 this])
      clear HE hN
      go_wp2_with fail
      go_ret
      exact ⟨ret_bool HE2.out.symm, HB.out⟩
theorem spk_eq {a a' : Option Addr} {n m c d : Nat} {l : List Int} {F : List (List Int)} {w : World} {r : Bool} (hx : Hid (l.length = n)) (hf : Hid (F.length = m)) (hg : Hid (It.goodB l = true)) (hm : m ≤ 1048576) (hl : Hid (∀ i, i < m → (F.getD i []).length ≤ 1048576)) (ha : Hid (ARow w a l)) (hF : Hid (CRow w a' F)) (h : Hid (It.packB l F = r)) :
    Calls Try.prog 13 #[.slice a n c, .slice a' m d] w fun e w' => e = .returned (.bool r) ∧ Below w.heap.size w w' := h.out ▸ spk_any hx.out hf.out hg.out hm hl.out ha.out hF.out
set_option maxHeartbeats 1000000 in
theorem swa_w {a a' : Option Addr} {n m c d : Nat} {l : List Int} {F : List (List Int)} {w : World} (hx : l.length = n) (hf : F.length = m) (hm : m ≤ 1048576) (hl : ∀ i, i < m → (F.getD i []).length ≤ 1048576) (ha : ARow w a l) (hF : CRow w a' F) :
    Calls Try.prog 5 #[.slice a n c, .slice a' m d] w fun e w' => e = .returned (.tuple #[.int .i64 (It.waI l F), .bool (It.ipB l F)]) ∧ Below w.heap.size w w' := by
  have HX := hide hx
  have HF := hide hf
  have HL := hide hl
  have HA := hide ha
  have HC := hide hF
  cases hg : It.goodB l
  · have e1 : It.ipB l F = false := by simp [It.ipB, hg]
    have e0 : It.waI l F = 0 := by simp [It.waI, e1]
    rw [e0, e1]
    have HG := hide hg
    clear hx hf hl ha hF e0 e1 hg
    go_enter Try.func5, Try.ntmps5
    go_wp2_with fail
    refine (sgi_eq HX HA HG).mono ?_
    rintro e w1 ⟨rfl, rfl⟩
    go_wp2_with fail
    refine bodyPost_ret (v := .tuple #[.int .i64 0, .bool false]) (by simp [results, Try.results5, go_sem]) rfl ?_
    exact ⟨rfl, Below.refl _ _⟩
  · have HG := hide hg
    cases hp : It.packB l F
    · have e1 : It.ipB l F = false := by simp [It.ipB, hp]
      have e0 : It.waI l F = 0 := by simp [It.waI, e1]
      rw [e0, e1]
      have HP := hide hp
      clear hx hf hl ha hF e0 e1 hg hp
      go_enter Try.func5, Try.ntmps5
      go_wp2_with fail
      refine (sgi_eq HX HA HG).mono ?_
      rintro e w1 ⟨rfl, rfl⟩
      go_wp2_with fail
      refine (spk_eq HX HF HG hm HL HA HC HP).mono ?_
      rintro e w1 ⟨rfl, hb⟩
      go_wp2_with fail
      refine bodyPost_ret (v := .tuple #[.int .i64 0, .bool false]) (by simp [results, Try.results5, go_sem]) rfl ?_
      exact ⟨rfl, hb⟩
    · have e1 : It.ipB l F = true := by simp [It.ipB, hp, hg]
      have e0 : It.waI l F = 20 * (F.length : Int) - l.sum := by simp [It.waI, e1]
      rw [e0, e1, hf]
      obtain ⟨s0, s1⟩ := It.good_sum hg
      obtain ⟨S, hS⟩ : ∃ S, l.sum = S := ⟨_, rfl⟩
      have HS := hide hS
      rw [hS] at s0 s1 ⊢
      have HP := hide hp
      clear hx hf hl ha hF hp e0 e1 hS hg
      go_enter Try.func5, Try.ntmps5
      go_wp2_with fail
      refine (sgi_eq HX HA HG).mono ?_
      rintro e w1 ⟨rfl, rfl⟩
      go_wp2_with fail
      refine (spk_eq HX HF HG hm HL HA HC HP).mono ?_
      rintro e w1 ⟨rfl, hb⟩
      have HA1 := hide (HA.out.below hb)
      go_wp2_with fail
      refine (sisum_n HX HA1 HG HS).mono ?_
      rintro e w2 ⟨rfl, hw2⟩
      obtain rfl : w1 = w2 := hw2.symm
      go_wp2_with fail
      refine bodyPost_ret (v := .tuple #[.int .i64 (20 * (m : Int) - S), .bool true]) (by simp [results, Try.results5, go_sem]; try omega) rfl ?_
      exact ⟨rfl, hb⟩
end Go.Proofs.Ytoalcmfpbjmapab
