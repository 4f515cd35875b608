/-
  FnShares: the law's own walk.
-/
import Derived.Test.YtljccbnkibfimaaLShB
import Derived.Deep.CutBlock
namespace Go.Proofs.Ytljccbnkibfimaa
open Go.RowKit

theorem NOwn.low {w : World} {base base' n m : Nat} {v : Value} {gs : List (Nat × Nat)} {L : List (List Int)} (h : NOwn w base n m v gs L) (hb : base' ≤ base) : NOwn w base' n m v gs L :=
  ⟨h.1, h.2.1, owns_low h.2.2.1 hb, fun i hi => ⟨(h.2.2.2.1 i hi).1, owns_low (h.2.2.2.1 i hi).2 hb⟩, h.2.2.2.2⟩
theorem ass_at {w : World} {G : Nat} {L : List (List Int)} (h : ASS w (some ⟨G, 0, none⟩) L) {i : Nat} (hi : i < L.length) : ∃ b off ai ci, w.cell? ⟨b, off + i, none⟩ = some (.slice ai (L.getD i []).length ci) ∧ ARow w ai (L.getD i []) ∧ ((⟨G, 0, none⟩ : Addr) = ⟨b, off, none⟩ ∧ b < w.heap.size) := by
  rcases h with e | ⟨b, off, e, hb, hc⟩
  · rw [e] at hi; simp at hi
  · obtain ⟨ai, ci, h1, h2⟩ := hc i hi
    exact ⟨b, off, ai, ci, h1, h2, by injection e, hb⟩
set_option maxRecDepth 100000 in
set_option maxHeartbeats 1000000 in
theorem lSh_long {a1 a2 : Option Addr} {len1 cap1 len2 cap2 : Nat} {w : World} (h1 : (1048576 : Int) < wrap64 ((len1 : Int) + (len2 : Int))) :
    Calls Try.prog 3 #[.slice a1 len1 cap1, .slice a2 len2 cap2] w fun e w' => e = .returned (.bool true) ∧ Below w.heap.size w w' := by
  go_enter Try.func3, Try.ntmps3
  go_wp2_with fail
  go_ret
  exact ⟨rfl, Below.refl _ _⟩

set_option maxRecDepth 100000 in
set_option maxHeartbeats 4000000 in
theorem lSh_main {a1 a2 : Option Addr} {len1 cap1 len2 cap2 : Nat} {w : World} (hs1 : Hid (Src w a1 len1)) (hs2 : Hid (Src w a2 len2)) (hl2 : len2 ≤ 1048576) (h1 : ¬ (1048576 : Int) < wrap64 ((len1 : Int) + (len2 : Int))) :
    Calls Try.prog 3 #[.slice a1 len1 cap1, .slice a2 len2 cap2] w fun e w' => e = .returned (.bool true) ∧ Below w.heap.size w w' := by
  go_enter Try.func3, Try.ntmps3
  go_wp2_with fail
  refine (drawShare_any hs1).mono ?_
  rintro e w1 ⟨b1, e1, fs, p, rfl, hf9, hp0, hp1, r1, hb1⟩
  have R1 := hide r1
  have B1 := hide hb1
  clear r1 hb1
  cases hk : Sh.kindsB fs p
  · have HK := hide hk
    clear hk
    go_wp2_with fail
    refine (so_no R1 (hide rfl) HK).mono ?_
    rintro e w2 ⟨rfl, hb2⟩
    have R2 := hide (R1.out.below hb2)
    have B2 := hide (B1.out.trans (hb2.mono B1.out.size))
    clear R1 B1 hb2
    go_wp2_with fail
    refine (sso_no R2 (hide rfl) HK).mono ?_
    rintro e w3 ⟨rfl, hb3⟩
    have R3 := hide (R2.out.below hb3)
    have B3 := hide (B2.out.trans (hb3.mono B2.out.size))
    clear R2 B2 hb3
    go_wp2_with fail
    refine (sm_no R3 (hide rfl) HK).mono ?_
    rintro e w4 ⟨rfl, hb4⟩
    have R4 := hide (R3.out.below hb4)
    have B4 := hide (B3.out.trans (hb4.mono B3.out.size))
    clear R3 B3 hb4
    go_wp2_with fail
    refine (ssm_no R4 (hide rfl) HK).mono ?_
    rintro e w5 ⟨rfl, hb5⟩
    have R5 := hide (R4.out.below hb5)
    have B5 := hide (B4.out.trans (hb5.mono B4.out.size))
    clear R4 B4 hb5
    go_wp2_with (first
      | (go_at_call 11; refine (sameI_zero _ _ _ _ _).mono ?_; rintro e w6 ⟨rfl, hw⟩; obtain rfl : w5 = w6 := hw.symm)
      | (go_at_call 12; refine (kinds_eq R5 (hide rfl) HK).mono ?_; rintro e w6 ⟨rfl, hw⟩; obtain rfl : w5 = w6 := hw.symm))
    go_loopw [4, 15, 94] (fun s4 _ s wr => s4 = .bool false ∧ s = .int .i64 0 ∧ wr = w5) (fun _ _ _ _ => 0)
    case atStart => exact ⟨rfl, rfl, rfl⟩
    case round =>
      obtain ⟨rfl, rfl, rfl⟩ := hrel
      go_wp2_with fail
      go_ret
      exact ⟨rfl, B5.out⟩
  · have HK := hide hk
    obtain ⟨m, hm⟩ : ∃ m : Nat, (m : Int) = p - fs.length + 1 := ⟨(p - fs.length + 1).toNat, by have := Sh.kindsB_yes hk; omega⟩
    have HM := hide hm
    have hm41 : m ≤ 41 := by have := (Sh.kindsB_yes hk).2; omega
    have HSM := hide (fun (w' : World) (ha : ARow w' b1 fs) => sm_yes (c := e1) (hide ha) (hide rfl) HK hm)
    have HSS := hide (fun (w' : World) (ha : ARow w' b1 fs) => ssm_yes (c := e1) (hide ha) (hide rfl) HK hm)
    have hmm : ((m : Int) != (m : Int)) = false := by simp
    clear hk hm
    go_wp2_with fail
    refine (so_yes R1 (hide rfl) HK).mono ?_
    rintro e w2 ⟨g, rfl, hb2, own2⟩
    have R2 := hide (R1.out.below hb2)
    have B2 := hide (B1.out.trans (hb2.mono B1.out.size))
    have G2 := hide (arow_owns (shareL_len fs p).symm own2)
    clear R1 B1 hb2 own2
    go_wp2_with fail
    refine (sso_yes R2 (hide rfl) HK).mono ?_
    rintro e w3 ⟨v, rfl, hb3, own3⟩
    obtain ⟨av, cv, rfl, rv3⟩ := own_slice (shareL_len fs p) own3
    have V3 := hide rv3
    have R3 := hide (R2.out.below hb3)
    have B3 := hide (B2.out.trans (hb3.mono B2.out.size))
    have G3 := hide (G2.out.below hb3)
    clear R2 B2 G2 hb3 own3 rv3
    go_wp2_with fail
    refine (HSM.out _ R3.out).mono ?_
    rintro e w4 ⟨G, C, gs, rfl, hb4, N4⟩
    have HN4 := hide (N4.low B3.out.size)
    have R4 := hide (R3.out.below hb4)
    have B4 := hide (B3.out.trans (hb4.mono B3.out.size))
    have G4 := hide (G3.out.below hb4)
    have V4 := hide (V3.out.below hb4)
    clear R3 B3 G3 V3 hb4 N4 HSM
    go_wp2_with fail
    refine (HSS.out _ R4.out).mono ?_
    rintro e w5 ⟨G', C', gs', rfl, hb5, N5⟩
    have HT5 := hide N5.ass
    have HN5 := hide (HN4.out.below hb5)
    have R5 := hide (R4.out.below hb5)
    have B5 := hide (B4.out.trans (hb5.mono B4.out.size))
    have G5 := hide (G4.out.below hb5)
    have V5 := hide (V4.out.below hb5)
    clear R4 B4 G4 V4 hb5 N5 HN4 HSS
    go_wp2_with fail
    refine (sameI_b (shareL_len fs p) (by omega) G5.out V5.out).mono ?_
    rintro e w6 ⟨rfl, hb6⟩
    have S6 : Hid (Sat w w6 b1 a2 fs p g fs.length m G C len2 gs) := hide ⟨R5.out.below hb6, G5.out.below hb6, HN5.out.below hb6, (hs2.out.below B5.out).below hb6, B5.out.trans (hb6.mono B5.out.size)⟩
    have T6 := hide (HT5.out.below hb6)
    clear R5 B5 G5 V5 hb6 HN5 HT5
    go_upto_block 0 with (go_at_call 12; refine (kinds_eq (hide S6.out.1) (hide rfl) HK).mono ?_; rintro e w7 ⟨rfl, hw⟩; obtain rfl : w6 = w7 := hw.symm)
    go_cut [4, 15] (fun s4 _ wd => s4 = .bool false ∧ Hid (Sat w wd b1 a2 fs p g fs.length m G C len2 gs))
    case first =>
      go_wp2_with fail
      go_loopw [4, 15, 94] (fun s4 _ s wr => ∃ i : Nat, s4 = .bool false ∧ s = .int .i64 i ∧ i ≤ m ∧ Hid (Below w6.heap.size w6 wr)) (fun _ _ s _ => m - (intOf s).toNat)
      case atStart => exact ⟨0, rfl, rfl, Nat.zero_le _, hide (Below.refl _ _)⟩
      case round =>
        obtain ⟨i, rfl, rfl, him, HB⟩ := hrel
        generalize wr = W at *
        by_cases hlt : i < m
        · obtain ⟨gi, ci, cI, RI⟩ := row_at (S6.out.step HB.out).2.2.1 hlt
          obtain ⟨tb, tof, ta, tc, hcT, hrT, htb⟩ := ass_at (T6.out.below HB.out) (i := i) (by rw [sharesN_len]; exact hlt)
          rw [sharesN_at fs hlt] at hcT hrT
          rw [Sh.share_len] at hcT
          cases htb.1
          have hGW : G < W.heap.size := ((S6.out.step HB.out).2.2.1.2.2.1.lt G rfl).2
          have hTW := htb.2
          have hcall := hide (fun (w' : World) (hb : Below W.heap.size W w') => sameI_b (c := ci) (d := tc) (Sh.share_len fs i) (by omega) (RI.below hb) (hrT.below hb))
          have ii0 : (0 : Int) ≤ (i : Int) := by omega
          have ii1 : (i : Int) < (m : Int) := by omega
          have hcT' := hcT
          simp only [Nat.zero_add] at hcT'
          clear RI hrT hcT
          go_wp2_with fail
          go_region_held3 (fun w' => w'.cell? ⟨G, i, none⟩ = some (.slice (some ⟨gi, 0, none⟩) fs.length ci) ∧ w'.cell? ⟨G', i, none⟩ = some (.slice ta fs.length tc) ∧ Below W.heap.size W w' ∧ W.heap.size ≤ w'.heap.size)
            (first | exact ⟨cI, hcT', (Below.refl _ _).drew, Nat.le_refl _⟩ | assumption | exact twoW_call hGW hTW ‹_› (by assumption) | fail)
            (first | (go_at_call 11; obtain ⟨_, _, hbS, _⟩ := ‹_ ∧ _ ∧ _ ∧ _›; refine (hcall.out _ hbS).mono ?_; rintro e w8 ⟨rfl, hb8⟩) | fail)
          obtain ⟨_, _, hbE, _⟩ := ‹_ ∧ _ ∧ _ ∧ _›
          have HBE := hide (HB.out.trans (hbE.mono HB.out.size))
          go_wp2_with fail
          go_roundw
          case rel => exact ⟨i + 1, rfl, by go_num, by omega, HBE⟩
          case measure => simp only [intOf]; omega
        · have S7 := hide (S6.out.step HB.out)
          go_wp2_with fail
          go_meet
          case rel => exact ⟨rfl, S7⟩
    case rest =>
      obtain ⟨rfl, S7⟩ := hcut
      rename_i K1 hK1
      refine hK1 _ _ ?_
      exact fsh_b a1 a2 b1 len1 cap1 len2 cap2 e1 g G C m gs fs p w _ hl2 HK HM.out S7 _ _ _ _ _ _ _ _ _ _ _ _ _ _ _ _ _ _ _ _ _ _ _ _ _ _ _ _ _ _ _ _ _ _ _ _ _ _ _ _ _ _ _ _ _ _ _ _ _ _ _ _ _ _ _ _ _ _ _ _ _ _ _ _ _ _ _ _ _ _ _ _ _ _ _ _ _ _ _ _ _ _ _ _ _ _ _ _ _ _ _ _ _ _ _ _ _ _ _ _ _ _ _ _ _ _ _ _ _ _ _ _ _ _ _ _ _ _ _ _ _ _ _ _ _ _ _ _ _ _ _ _ _ _ _ _ _ _ _ _ _ _ _ _ _ _ _ _ _ _ _ _ _ _ _ _ _ _ _ _ _ _ _ _ _ _ _ _ _ _ _ _ _ _ _ _ _ _ _ _ _ _ _ _ _ _ _ _ _ _ _ _ _ _ _ _ _ _ _ _ _ _ _ _ _ _ _ _ _ _ _ _ _ _ _ _ _ _ _ _ _ _ _ _ _ _ _ _ _ _ _ _ _ _ _ _ _ _ _ _ _ _ _ _ _
theorem lSh_walk {a1 a2 : Option Addr} {len1 cap1 len2 cap2 : Nat} {w : World} (hs1 : Src w a1 len1) (hs2 : Src w a2 len2) (m1 : len1 ≤ 140737488351232) (m2 : len2 ≤ 140737488351232) :
    Calls Try.prog 3 #[.slice a1 len1 cap1, .slice a2 len2 cap2] w fun e w' => e = .returned (.bool true) ∧ Below w.heap.size w w' := by
  by_cases h : (1048576 : Int) < wrap64 ((len1 : Int) + (len2 : Int))
  · exact lSh_long h
  · refine lSh_main (hide hs1) (hide hs2) ?_ h
    rw [wrap_id _ (by omega) (by omega)] at h
    omega
end Go.Proofs.Ytljccbnkibfimaa
