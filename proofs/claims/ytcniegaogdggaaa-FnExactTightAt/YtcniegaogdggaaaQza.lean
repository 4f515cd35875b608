/-
  What TightAt of the model answers.
-/
import Derived.Test.YtcniegaogdggaaaQz
namespace Go.Proofs.Ytcniegaogdggaaa
open Go.RowKit

set_option maxRecDepth 20000 in
set_option maxHeartbeats 8000000 in
theorem sta_yes {e a b : Option Addr} {l f c d : Nat} {C : List (List Int)} {us vs : List Int} {w : World} (hg : Hu.bothB C us vs = true) (hl : C.length = l) (hn : us.length = l) (hm : vs.length = l) (hc : CRow w e C) (ha : ARow w a us) (hb : ARow w b vs) :
    Calls Try.prog 32 #[.slice e l f, .agg #[.slice a l c, .slice b l d]] w fun e w' => ∃ G D, e = .returned (.tuple #[.slice (some ⟨G, 0, none⟩) l D, .bool true]) ∧ Below w.heap.size w w' ∧ GRow w' (some ⟨G, 0, none⟩) (Hu.tightL C us vs) := by
  obtain ⟨g1, g2, g3⟩ := Hu.bothB_yes hg
  obtain ⟨g4, g5, g6, g7⟩ := Hu.prB_yes g2
  have gl := Hu.costB_len g1
  rw [hl] at gl
  obtain ⟨l1, l10⟩ := gl
  have bn := below_new w (.cells #[.slice a l c, .slice b l d] 29)
  have HC := hide (hc.below bn)
  have HA := hide (ha.below bn)
  have HB := hide (hb.below bn)
  have HL := hide hl
  have HN := hide hn
  have HM := hide hm
  have HG := hide hg
  have HBU := hide fun (i : Nat) (hi : i < l) => Pf.inB_yes (Pf.allB_get g6 (show i < us.length by omega))
  have HBV := hide fun (i : Nat) (hi : i < l) => Pf.inB_yes (Pf.allB_get g7 (show i < vs.length by omega))
  have HCL := hide fun (i : Nat) (hi : i < l) => (Hu.costB_row g1 (show i < C.length by rw [hl]; exact hi)).1.trans hl
  have HTL : Hid ((Hu.tightL C us vs).length = l) := hide (by rw [tightL_len, hl])
  have HTR := hide fun (i : Nat) => (tightR_len C us vs i).trans hl
  have HLS := hide fun (i : Nat) (hi : i < l) => tightL_snoc C us vs (show i < C.length by rw [hl]; exact hi)
  have HRS := hide fun (i j : Nat) (hj : j < l) => tight_snoc C us vs i (show j < C.length by rw [hl]; exact hj)
  have HTA : Hid (∀ i j : Nat, (us.getD i 0 + vs.getD j 0 == (C.getD i []).getD j 0) = Hu.tightAt C us vs i j) := hide fun i j => by
    unfold Hu.tightAt Hu.ct
    by_cases h : us.getD i 0 + vs.getD j 0 = (C.getD i []).getD j 0
    · rw [decide_eq_true h, beq_iff_eq.2 h]
    · rw [decide_eq_false h, beq_eq_false_iff_ne.2 h]
  generalize Hu.tightL C us vs = F at *
  clear hc ha hb hl hn hm hg g1 g2 g3 g4 g5 g6 g7 bn
  go_enter Try.func32, Try.ntmps32
  go_wp2_with fail
  refine (sbo_eq HL (by omega) HN HM HC HA HB HG).mono ?_
  rintro e w1 ⟨rfl, hb1⟩
  have HB1 := hide ((below_new w (.cells #[.slice a l c, .slice b l d] 29)).trans (hb1.mono (by simp)))
  have HP1 := hide ((PBox.new w (.slice a l c) (.slice b l d) 29).below hb1)
  have HC1 := hide (HC.out.below hb1)
  have HA1 := hide (HA.out.below hb1)
  have HV1 := hide (HB.out.below hb1)
  clear hb1 HC HA HB
  go_wp2_with fail
  go_loopw [6, 7, 8, 9, 10, 11, 18] (fun v _ _ _ _ _ s wr => ∃ (k : Nat) (gs : List (Nat × Nat)), s = .int .i64 k ∧ k ≤ l ∧ Hid (NOb9 wr w1.heap.size l k v gs (F.take k)) ∧ Hid (k = 0 ∨ ∃ G D, v = .slice (some ⟨G, 0, none⟩) k D) ∧ Hid (Below w1.heap.size w1 wr)) (fun _ _ _ _ _ _ s _ => l - (intOf s).toNat)
  case atStart => exact ⟨0, [], rfl, Nat.zero_le _, hide (NOb9.nil _ _ _), hide (Or.inl rfl), hide (Below.refl _ _)⟩
  case round =>
    obtain ⟨k, gs, rfl, hk, HS, HV, HBr⟩ := hrel
    by_cases hlt : k < l
    · obtain ⟨b1, off, ai, ci, rfl, hb, r0, R1⟩ := HC1.out.at (i := k) (by rw [HL.out]; exact hlt)
      have r1 := (HBr.out.cell (p := ⟨b1, off + k, none⟩) hb).trans r0
      have HCk := hide (HCL.out k hlt)
      rw [HCL.out k hlt] at r1
      obtain ⟨b2, o2, rfl, hb2, hr2⟩ := R1.resolve_left (by intro e; have := HCk.out; rw [e] at this; simp at this; omega)
      have HR2 := hide hr2
      obtain ⟨b3, o3, rfl, hb3, hr3⟩ := HA1.out.resolve_left (by intro e; have := HN.out; rw [e] at this; simp at this; omega)
      obtain ⟨b4, o4, rfl, hb4, hr4⟩ := HV1.out.resolve_left (by intro e; have := HM.out; rw [e] at this; simp at this; omega)
      have r3 := hide (hr3 k (by rw [HN.out]; exact hlt))
      have HR4 := hide hr4
      have bx := HBU.out k hlt
      have HTAk := hide (HTA.out k)
      have HSN := hide (HLS.out k hlt)
      generalize us.getD k 0 = x at r3 bx HTAk
      have j0 : (0 : Int) ≤ (k : Int) := by omega
      have j1 : (k : Int) < (l : Int) := by omega
      have hwrs := HBr.out.size
      have q2 := HP1.out.2.2
      clear R1 r0 hr2 hr3 hr4
      go_wp2_with fail
      go_loopw [9, 10, 11, 25] (fun v _ _ s wi => ∃ (t : Nat), s = .int .i64 t ∧ t ≤ l ∧ Hid (wi.ownsRow wr.heap.size 4 1 v t (bls ((Hu.tightR C us vs k).take t))) ∧ Hid (t = 0 ∨ ∃ g cap, v = .slice (some ⟨g, 0, none⟩) t cap) ∧ Hid (Below wr.heap.size wr wi)) (fun _ _ _ s _ => l - (intOf s).toNat)
      case atStart => exact ⟨0, rfl, Nat.zero_le _, hide (World.ownsRow_nil _ _ _ _), hide (Or.inl rfl), hide (Below.refl _ _)⟩
      case round =>
        obtain ⟨t, rfl, ht, HO, HF, HBi⟩ := hrel
        have HBz := hide (below_in HBr.out HBi.out)
        by_cases htl : t < l
        · have r2 := (HBz.out.cell (p := ⟨b2, o2 + t, none⟩) hb2).trans (HR2.out t (by rw [HCk.out]; exact htl))
          have r4 := (HBz.out.cell (p := ⟨b4, o4 + t, none⟩) hb4).trans (HR4.out t (by rw [HM.out]; exact htl))
          have r3' := (HBz.out.cell (p := ⟨b3, o3 + k, none⟩) hb3).trans r3.out
          obtain ⟨p0, p1, p2⟩ := HP1.out.below HBz.out
          have t0 : (0 : Int) ≤ (t : Int) := by omega
          have t1 : (t : Int) < (l : Int) := by omega
          have by1 := HBV.out t htl
          have HS9 := hide (HRS.out k t htl)
          rw [← HTAk.out t] at HS9
          generalize vs.getD t 0 = y at *
          generalize (C.getD k []).getD t 0 = z at *
          have ww : IntKind.i64.wrap (x + y) = x + y := by rw [IntKind.wrap_i64]; omega
          obtain ⟨g3, cap3, w3, hr3, own3, hg3, _⟩ := push_9 (t := 71) (x := .bool (x + y == z)) Try.underlying71 infoB rfl rfl (by decide) (HO.out.drew) (by omega) HBi.out.size
          have HO3 : Hid (w3.ownsRow _ 4 1 (.slice (some ⟨g3, 0, none⟩) (t + 1) cap3) (t + 1) (bls ((Hu.tightR C us vs k).take (t + 1)))) := hide (by rw [← HS9.out, bls_snoc]; exact own3)
          have HB3 := hide (HBi.out.trans (((Below.refl _ wr).drew.trans ((below_new wr.drew (.cells #[.bool (x + y == z)] 4)).mono HBi.out.size)).trans (grown_under' hg3 (HO.out.drew.alloc _) (Nat.le_refl _) (by have := HBi.out.size; simp; omega))))
          have HR3 := hide hr3
          clear own3 hg3 hr3
          go_wp2_with fail
          go_region_law ((refine step_append_run9 (by rfl) (.tmp 30) (.tmp 44) 71 71 (by rfl) u9 (.slice (some ⟨wr.heap.size, 0, none⟩) 1 1) (by simp [go_sem]) (by simp [go_sem]) (.slice (some ⟨g3, 0, none⟩) (t + 1) cap3) w3 (HR3.out _) ?_))
          all_goals (go_wp2_with fail; exact ⟨⟨t + 1, by go_num, by omega, HO3, hide (Or.inr ⟨_, _, rfl⟩), HB3⟩, by simp only [intOf]; omega⟩)
        · have hte : t = l := by omega
          subst hte
          obtain ⟨g, cap, rfl⟩ : ∃ g cap, u9 = .slice (some ⟨g, 0, none⟩) t cap := HF.out.resolve_left (by omega)
          have HO' : Hid (wr.ownsRow _ 4 1 (rvb9 t (g, cap)) t (bls (Hu.tightR C us vs k))) := hide (by
            have := HO.out
            rwa [List.take_of_length_le (by rw [HTR.out]; omega)] at this)
          obtain ⟨G4, C4, w4, hr4, own4, hg4, hat4⟩ := push_9 (t := 48) (x := .slice (some ⟨g, 0, none⟩) t cap) Try.underlying48 infoBs rfl rfl (by decide) (g_own HS.out.2.2.1 HBi.out) (by omega) (Nat.le_trans hwrs HBi.out.size)
          obtain ⟨sn1, sn2⟩ := HS.out.snoc HBi.out hwrs HO'.out (HTR.out k) own4 hg4 hat4
          rw [HSN.out] at sn1
          have HN4 := hide sn1
          have HB4 := hide (HBr.out.trans sn2)
          clear own4 hg4 hat4 sn1 sn2 HO HO'
          go_wp2_with (first | (at_builtin; refine Lib.wpList_append_run _ rfl _ _ _ _ rfl _ _ rfl rfl _ _ (hr4 _) ?_))
          go_roundw
          case rel => exact ⟨k + 1, _, by go_num, by omega, HN4, hide (Or.inr ⟨_, _, rfl⟩), HB4⟩
          case measure => simp only [intOf]; omega
    · have hke : k = l := by omega
      subst hke
      obtain ⟨G, D, rfl⟩ : ∃ G D, u6 = .slice (some ⟨G, 0, none⟩) k D := HV.out.resolve_left (by omega)
      have HR : Hid (GRow wr (some ⟨G, 0, none⟩) F) := hide (by
        have := HS.out.row
        rwa [List.take_of_length_le (by rw [HTL.out]; omega)] at this)
      have HBe := hide (HB1.out.trans (HBr.out.mono HB1.out.size))
      go_wp2_with fail
      go_ret2
      exact ⟨G, D, rfl, HBe.out, HR.out⟩
set_option maxHeartbeats 2000000 in
theorem sta_no {e a b : Option Addr} {l n m f c d : Nat} {C : List (List Int)} {us vs : List Int} {w : World} (hg : Hu.bothB C us vs = false) (hl : C.length = l) (hl1 : l ≤ 1048576) (hn : us.length = n) (hm : vs.length = m) (hc : CRow w e C) (ha : ARow w a us) (hb : ARow w b vs) :
    Calls Try.prog 32 #[.slice e l f, .agg #[.slice a n c, .slice b m d]] w fun e w' => e = .returned (.tuple #[.slice none 0 0, .bool false]) ∧ Below w.heap.size w w' := by
  have bn := below_new w (.cells #[.slice a n c, .slice b m d] 29)
  have HC := hide (hc.below bn)
  have HA := hide (ha.below bn)
  have HB := hide (hb.below bn)
  have HL := hide hl
  have HN := hide hn
  have HM := hide hm
  have HG := hide hg
  clear hc ha hb hl hn hm hg bn
  go_enter Try.func32, Try.ntmps32
  go_wp2_with fail
  refine (sbo_eq HL hl1 HN HM HC HA HB HG).mono ?_
  rintro e w1 ⟨rfl, hb1⟩
  have HB1 := hide ((below_new w (.cells #[.slice a n c, .slice b m d] 29)).trans (hb1.mono (by simp)))
  clear hb1 HC HA HB
  go_wp2_with fail
  go_ret2
  exact ⟨rfl, HB1.out⟩
end Go.Proofs.Ytcniegaogdggaaa
