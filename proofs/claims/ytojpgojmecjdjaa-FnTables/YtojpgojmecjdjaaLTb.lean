/-
  FnTables: the law's own walk.
-/
import Derived.Test.YtojpgojmecjdjaaTb
namespace Go.Proofs.Ytojpgojmecjdjaa
open Go.RowKit

set_option maxRecDepth 100000 in
set_option maxHeartbeats 1000000 in
theorem lTb_long {a1 a2 : Option Addr} {len1 cap1 len2 cap2 : Nat} {w : World} (h1 : (1048576 : Int) < wrap64 ((len1 : Int) + (len2 : Int))) :
    Calls Try.prog 4 #[.slice a1 len1 cap1, .slice a2 len2 cap2] w fun e w' => e = .returned (.bool true) ∧ Below w.heap.size w w' := by
  go_enter Try.func4, Try.ntmps4
  go_wp2_with fail
  go_ret
  exact ⟨rfl, Below.refl _ _⟩
set_option maxRecDepth 100000 in
set_option maxHeartbeats 8000000 in
theorem lTb_main {a1 a2 : Option Addr} {len1 cap1 len2 cap2 : Nat} {w : World} (hs1 : Hid (Src w a1 len1)) (hs2 : Hid (Src w a2 len2)) (h1 : ¬ (1048576 : Int) < wrap64 ((len1 : Int) + (len2 : Int))) :
    Calls Try.prog 4 #[.slice a1 len1 cap1, .slice a2 len2 cap2] w fun e w' => e = .returned (.bool true) ∧ Below w.heap.size w w' := by
  go_enter Try.func4, Try.ntmps4
  go_wp2_with fail
  refine (drawBT_any hs1).mono ?_
  rintro e w1 ⟨ao, C, L, p, rfl, hl, hC, _, hr1, hb1⟩
  have R1 := hide hr1
  have B1 := hide hb1
  have HT := hide (fun (w' : World) (h : ORow w' ao L) => bt_a (c := C) (p := p) rfl h)
  have HS := hide (fun (w' : World) (h : ORow w' ao L) => sbt_w (c := C) (p := p) rfl (by omega) h)
  have HU := hide (fun (a : Option Addr) (c : Nat) (w' : World) (h : ORow w' a L.reverse) => bt_r (c := c) (p := p) rfl h)
  have HB := hide (fun (w' : World) (h : ORow w' ao L) => bc_a (c := C) (p := p) rfl h)
  have HF := hide (@bt_facts L p)
  generalize chB L p = ok at *
  have hTl := btL_len L p
  generalize btL L p = T at *
  generalize bcI L p = N at *
  have hob : (ok != ok) = false := by simp
  clear hr1 hb1
  go_wp2_with fail
  refine (HT.out _ R1.out).mono ?_
  rintro e w2 ⟨at2, ct2, rfl, r2, hb2⟩
  have R2 := hide (R1.out.below hb2)
  have B2 := hide (B1.out.trans (hb2.mono B1.out.size))
  have T2 := hide r2
  clear hb2 r2 R1 B1 HT
  go_wp2_with fail
  refine (HS.out _ R2.out).mono ?_
  rintro e w3 ⟨at3, ct3, rfl, r3, hb3⟩
  have R3 := hide (R2.out.below hb3)
  have B3 := hide (B2.out.trans (hb3.mono B2.out.size))
  have T3 := hide (T2.out.below hb3)
  have W3 := hide r3
  clear hb3 r3 R2 B2 T2 HS
  go_wp2_with fail
  refine (sameI_b rfl (by omega) T3.out W3.out).mono ?_
  rintro e w4 ⟨rfl, hb4⟩
  have R4 := hide (R3.out.below hb4)
  have B4 := hide (B3.out.trans (hb4.mono B3.out.size))
  have T4 := hide (T3.out.below hb4)
  clear hb4 R3 B3 T3 W3
  go_upto_if 61 with fail
  clear hob
  go_cut [4, 11, 12, 13, 14, 15, 16, 17, 18] (fun s4 _ _ _ _ _ _ _ _ wd => s4 = .bool false ∧ Hid (Below w.heap.size w wd))
  case first =>
    cases ok
    · go_wp2_with fail
      go_meet
      case rel => exact ⟨rfl, hide B4.out⟩
    · obtain ⟨P, rfl, hP, hTP, hT0, hN, hrise⟩ := HF.out rfl
      have HR := hide hrise
      have hs4 := B4.out.size
      have HTP := hide hTP
      have HN := hide hN
      clear HF hrise hTP hN
      go_wp2_with fail
      go_loopw [11, 12] (fun s11 s12 wr => ∃ (j : Nat) (us : List Value), s12 = .int .i64 ((L.length : Int) - 1 - j) ∧ j ≤ L.length ∧ Hid (TI w4 wr L s11 us j)) (fun _ s _ => (intOf s + 1).toNat)
      case atStart => exact ⟨0, [], by simp, by omega, hide ⟨World.ownsRow_nil _ _ _ _, Below.refl _ _, fun i hi => absurd hi (Nat.not_lt_zero _)⟩⟩
      case round =>
        obtain ⟨j, us, rfl, hj, HI⟩ := hrel
        by_cases e : j < L.length
        · obtain ⟨K, hK⟩ : ∃ K : Nat, L.length - 1 - j = K := ⟨_, rfl⟩
          have hKe : (L.length : Int) - 1 - j = K := by omega
          rw [hKe]
          have i0 : (0 : Int) ≤ (K : Int) := by omega
          have i1 : (K : Int) < (L.length : Int) := by omega
          obtain ⟨b, off, ai, ci, rfl, hbl, hce, har⟩ := R4.out.at (show K < L.length by omega)
          have hcw := (HI.out.bel.cell (p := ⟨b, off + K, none⟩) hbl).trans hce
          have HA := hide har
          obtain ⟨i9, hi9, hz0, hz1, hz2⟩ := infoO
          have hsr := HI.out.bel.size
          clear har hce
          generalize hq : (L.getD K []).length = q at hcw
          go_wp2_with (first | (at_builtin; refine wpList_append_lies _ rfl _ _ 23 rfl w4.heap.size 36 i9 (.agg #[.slice none 0 0]) 1 24 Try.underlying23 hi9 hz0 hz1 hz2 rfl (by decide) _ _ _ rfl (HI.out.own.alloc _) ⟨wr.heap.size, 0, none⟩ 1 1 [.slice ai q ci] rfl rfl (newS_one' _ _ _ rfl) (fun u hu => by simp at hu; subst hu; rfl) (by omega) (by unfold maxLen; omega) (by omega) (by simp; omega) (wr.heap.size + 1) (by simp) ?_))
          intro G5 C5 w5 own5 hg5 hat5 hlt5
          have HI5 := hide (TI.step (ai := ai) (ci := ci) HI.out hg5 (by rw [hK, hq]; exact own5) (by rw [hK]; exact HA.out))
          clear own5 hg5
          go_wp2_with fail
          go_roundw
          case rel => exact ⟨j + 1, _, by (first | go_num | (congr 1; omega)), by omega, HI5⟩
          case measure => simp only [intOf]; omega
        · obtain rfl : j = L.length := by omega
          have i0 : ¬ (0 : Int) ≤ (L.length : Int) - 1 - (L.length : Nat) := by omega
          obtain ⟨a5, c5, rfl, hr5⟩ := HI.out.row
          have B5 := hide (B4.out.trans (HI.out.bel.mono hs4))
          have R5 := hide (R4.out.below HI.out.bel)
          have T5 := hide (T4.out.below HI.out.bel)
          have X5 := hide hr5
          clear hr5 HI B4 R4 T4
          go_wp2_with fail
          refine (HU.out a5 c5 _ X5.out).mono ?_
          rintro e w6 ⟨a6, c6, rfl, r6, hb6⟩
          have B6 := hide (B5.out.trans (hb6.mono B5.out.size))
          have R6 := hide (R5.out.below hb6)
          have T6 := hide (T5.out.below hb6)
          have U6 := hide r6
          clear hb6 r6 B5 R5 T5 X5 HU
          go_wp2_with fail
          refine (HB.out _ R6.out).mono ?_
          rintro e w7 ⟨v7, rfl, hb7⟩
          have B7 := hide (B6.out.trans (hb7.mono B6.out.size))
          have T7 := hide (T6.out.below hb7)
          have U7 := hide (U6.out.below hb7)
          clear hb7 B6 R6 T6 U6 HB
          have hTP := HTP.out
          obtain ⟨bt, ot, rfl⟩ : ∃ bt ot, at2 = some ⟨bt, ot, none⟩ := by
            rcases T7.out with h0 | ⟨bt, ot, e, _⟩
            · rw [h0] at hTP; simp at hTP
            · exact ⟨bt, ot, e⟩
          have HCl : Hid (∀ (wx : World) (i : Nat), ARow wx (some ⟨bt, ot, none⟩) T → i ≤ P → wx.cell? ⟨bt, ot + i, none⟩ = some (.int .i64 (T.getD i 0))) := hide fun wx i h hi => by
            rcases h with h0 | ⟨b', o', e, _, hc⟩
            · rw [h0] at hTP; simp at hTP
            · cases e; exact hc i (by omega)
          have c70 := HCl.out _ 0 T7.out (by omega)
          rw [hT0, Nat.add_zero] at c70
          have hp1 : (P : Int) < ((P + 1 : Nat) : Int) := by omega
          have hp0 : (0 : Int) < ((P + 1 : Nat) : Int) := by omega
          have hle : ((((P + 1 : Nat) : Int)) != wrap64 ((P : Int) + 1)) = false := by rw [wrap_id _ (by omega) (by omega)]; simp
          go_wp2_with fail
          refine (sameI_b hTP (by omega) U7.out T7.out).mono ?_
          rintro e w8 ⟨rfl, hb8⟩
          have B8 := hide (B7.out.trans (hb8.mono B7.out.size))
          have T8 := hide (T7.out.below hb8)
          clear hb8 B7 T7 U7 c70
          have c8P := HCl.out _ P T8.out (Nat.le_refl _)
          rw [← HN.out] at c8P
          go_wp2_with fail
          clear c8P
          go_loopw [4, 18] (fun s4 s18 wr => ∃ i : Nat, s4 = .bool false ∧ s18 = .int .i64 i ∧ 1 ≤ i ∧ i ≤ P + 1 ∧ Hid (Below w.heap.size w wr) ∧ Hid (ARow wr (some ⟨bt, ot, none⟩) T)) (fun _ s _ => (P + 1 - (intOf s).toNat))
          case atStart => exact ⟨1, rfl, by simp, by omega, by omega, B8, T8⟩
          case round =>
            obtain ⟨i, rfl, rfl, hi1, hi2, BI, TT⟩ := hrel
            by_cases e : i ≤ P
            · obtain ⟨i', rfl⟩ : ∃ i', i = i' + 1 := ⟨i - 1, by omega⟩
              have hlt : ((i' + 1 : Nat) : Int) < ((P + 1 : Nat) : Int) := by omega
              have hlt2 : (i' : Int) < ((P + 1 : Nat) : Int) := by omega
              have hx := HR.out i' (by omega)
              have ca := HCl.out _ i' TT.out (by omega)
              have cb := HCl.out _ (i' + 1) TT.out (by omega)
              generalize T.getD i' 0 = x at *
              generalize T.getD (i' + 1) 0 = y at *
              have hnl : ¬ y < x := by omega
              go_wp2_with fail
              go_quiet (fail)
              go_wp2_with fail
              go_roundw
              case rel => exact ⟨i' + 2, rfl, by go_num, by omega, by omega, hide ⟨BI.out.os, BI.out.tape, BI.out.output, BI.out.size, BI.out.block⟩, hide TT.out⟩
              case measure => simp only [intOf]; omega
            · obtain rfl : i = P + 1 := by omega
              go_wp2_with fail
              rw [← hTP]
              clear hTP
              go_meet
              case rel => exact ⟨rfl, BI⟩
  case rest =>
    obtain ⟨rfl, HB9⟩ := hcut
    clear R4 B4 T4 HU HB HF
    have S9 := hide (hs2.out.below HB9.out)
    go_wp2_with fail
    refine (drawDO_any S9).mono ?_
    rintro e w10 ⟨am, cm, M, k, q, rfl, hml, hmc, _, hk0, hk1, hrm, hb10⟩
    have R10 := hide hrm
    have B10 := hide (HB9.out.trans (hb10.mono HB9.out.size))
    have HD := hide (fun (w' : World) (h : ORow w' am M) => dr_w (c := cm) (k := k) (p := q) rfl hmc h)
    have HE := hide (fun (w' : World) (h : ORow w' am M) => sdr_w (c := cm) (k := k) (p := q) rfl (by omega) hmc h)
    have HG := hide (@dr_facts M k q)
    clear hrm hb10 HB9 S9
    generalize drB M k q = ok2 at *
    generalize drI M k q = D at *
    have hob : (ok2 != ok2) = false := by simp
    have hod : (D != D) = false := by simp
    go_wp2_with fail
    refine (HD.out _ R10.out).mono ?_
    rintro e w11 ⟨rfl, hb11⟩
    have R11 := hide (R10.out.below hb11)
    have B11 := hide (B10.out.trans (hb11.mono B10.out.size))
    clear hb11 R10 B10 HD
    go_wp2_with fail
    refine (HE.out _ R11.out).mono ?_
    rintro e w12 ⟨rfl, hb12⟩
    have R12 := hide (R11.out.below hb12)
    have B12 := hide (B11.out.trans (hb12.mono B11.out.size))
    clear hb12 R11 B11 HE
    cases ok2
    · go_wp2_with fail
      go_ret
      exact ⟨rfl, B12.out⟩
    · obtain ⟨K, rfl, hK, hcK, hD0, hDn⟩ := HG.out rfl
      obtain ⟨bm, om, _, _, rfl, _⟩ := R12.out.at hK
      have HO := hide (R12.out.one hK)
      have HBC := hide (fun (c : Nat) (w' : World) (h : ORow w' (some ⟨bm, om + K, none⟩) [M.getD K []]) => bc_a (c := c) (p := q) (n := 1) rfl h)
      rw [hcK] at HBC
      clear HG hcK
      generalize bcI [M.getD K []] q = Nk at *
      generalize [M.getD K []] = MK at *
      go_wp2_with fail
      refine (HBC.out _ _ HO.out).mono ?_
      rintro e w13 ⟨v13, rfl, hb13⟩
      have B13 := hide (B12.out.trans (hb13.mono B12.out.size))
      clear hb13 B12 HBC HO R12
      go_wp2_with fail
      go_ret
      exact ⟨by first | rfl | simp [hD0, hDn], B13.out⟩
theorem lTb_walk {a1 a2 : Option Addr} {len1 cap1 len2 cap2 : Nat} {w : World} (hs1 : Src w a1 len1) (hs2 : Src w a2 len2) :
    Calls Try.prog 4 #[.slice a1 len1 cap1, .slice a2 len2 cap2] w fun e w' => e = .returned (.bool true) ∧ Below w.heap.size w w' := by
  by_cases h1 : (1048576 : Int) < wrap64 ((len1 : Int) + (len2 : Int))
  · exact lTb_long h1
  · exact lTb_main (hide hs1) (hide hs2) h1
end Go.Proofs.Ytojpgojmecjdjaa
