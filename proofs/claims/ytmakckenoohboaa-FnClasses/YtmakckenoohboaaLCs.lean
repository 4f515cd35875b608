/-
  FnClasses: the law's own walk.
-/
import Derived.Test.YtmakckenoohboaaLCb
import Derived.Deep.DeepCutAuto
import Derived.Deep.QuietTactic
import Derived.BigQuiet
namespace Go.Proofs.Ytmakckenoohboaa
open Go.RowKit

set_option maxRecDepth 100000 in
set_option maxHeartbeats 8000000 in
theorem lCs_main {a1 a2 : Option Addr} {len1 cap1 len2 cap2 : Nat} {w : World} (hs1 : Hid (Src w a1 len1)) (hs2 : Hid (Src w a2 len2)) (h1 : ¬ (1048576 : Int) < wrap64 ((len1 : Int) + (len2 : Int))) (hl2 : len2 ≤ 1048576) :
    Calls Try.prog 4 #[.slice a1 len1 cap1, .slice a2 len2 cap2] w fun e w' => e = .returned (.bool true) ∧ Below w.heap.size w w' := by
  go_enter Try.func4, Try.ntmps4
  go_wp2_with fail
  refine (drawCl_any hs1).mono ?_
  rintro e w1 ⟨pa, pb, pc, pd, ps, fs, rfl, hp13, hf13, own1, own2, hb1⟩
  have K1 : Hid (Rws w (w1.alloc (.cells #[.slice pa ps.length pc, .slice pb fs.length pd] 29)) [(pa, ps), (pb, fs)]) := hide (Rws.step ⟨fun a xs hm => by
    simp at hm
    rcases hm with ⟨rfl, rfl⟩ | ⟨rfl, rfl⟩
    · exact own_arow rfl own1
    · exact own_arow rfl own2, hb1⟩ (below_alloc _ _))
  have P1 := hide (PBox.new w1 (.slice pa ps.length pc) (.slice pb fs.length pd) 29)
  have HC := hide (fun (w' : World) (ha : ARow w' pa ps) (hb : ARow w' pb fs) => co_one (c := pc) (d := pd) rfl rfl ha hb)
  have SC := hide (fun (w' : World) (ha : ARow w' pa ps) (hb : ARow w' pb fs) => sco_one (c := pc) (d := pd) rfl rfl ha hb)
  have HSO := hide (fun (g : Int) (w' : World) (ha : ARow w' pa ps) (hb : ARow w' pb fs) => so_any (c := pc) (d := pd) (g := g) rfl rfl ha hb)
  have HSF := hide (@share_fin ps fs)
  have HPK := hide (@Pf.goodP_picks ps fs)
  obtain ⟨hcl, hcf⟩ := @coL_facts ps fs
  have HCF := hide hcf
  generalize Pf.goodP ps fs = ok at *
  generalize coL ps fs = cs at *
  have hob : (ok != ok) = false := by simp
  clear own1 own2 hb1 hcf
  go_wp2_with fail
  generalize w1.alloc (.cells #[.slice pa ps.length pc, .slice pb fs.length pd] 29) = W1 at *
  generalize w1.heap.size = B1 at *
  refine (HC.out _ (K1.out.1 pa ps (by simp)) (K1.out.1 pb fs (by simp))).mono ?_
  rintro e w2 ⟨v2, rfl, hb2, own2⟩
  obtain ⟨a2', c2, rfl, r2⟩ := own_slice rfl own2
  have K2 := hide ((K1.out.step hb2).add r2)
  have P2 := hide (P1.out.below hb2)
  obtain ⟨x0, x1, x2⟩ := P2.out
  clear K1 P1 HC hb2 own2 r2
  go_wp2_with fail
  refine (SC.out _ (K2.out.1 pa ps (by simp)) (K2.out.1 pb fs (by simp))).mono ?_
  rintro e w3 ⟨v3, rfl, hb3, own3⟩
  obtain ⟨a3, c3, rfl, r3⟩ := own_slice rfl own3
  have K3 := hide ((K2.out.step hb3).add r3)
  have P3 := hide (P2.out.below hb3)
  clear K2 P2 SC hb3 own3 r3 x0 x1 x2
  go_wp2_with fail
  refine (sameI_b rfl (by omega) (K3.out.1 a2' cs (by simp)) (K3.out.1 a3 cs (by simp))).mono ?_
  rintro e w4 ⟨rfl, hb4⟩
  have K4 := hide (K3.out.step hb4)
  have P4 := hide (P3.out.below hb4)
  clear K3 P3 hb4
  go_upto_if 58 with fail
  clear hob
  go_cut [4, 10, 11, 12, 13, 14, 15, 16, 17] (fun s4 _ _ _ _ _ _ _ _ wd => s4 = .bool false ∧ Hid (Below w.heap.size w wd))
  case first =>
    cases ok
    · go_wp2_with fail
      go_meet
      case rel => exact ⟨rfl, hide K4.out.2⟩
    · obtain ⟨hcn, h12, hlaw⟩ := HCF.out rfl
      have HLW := hide hlaw
      have HCN := hide hcn
      have hpk := HPK.out rfl
      have HPB := hide hpk
      clear hlaw HCF HPK hpk hcl hcn
      go_wp2_with fail
      go_loopw [4, 10, 11, 61] (fun s4 _ _ s wr => ∃ i : Nat, s4 = .bool false ∧ s = .int .i64 i ∧ i ≤ cs.length ∧ Hid (Below w4.heap.size w4 wr)) (fun _ _ _ s _ => cs.length - (intOf s).toNat)
      case atStart => exact ⟨0, rfl, rfl, Nat.zero_le _, hide (Below.refl _ _)⟩
      case round =>
        obtain ⟨i, rfl, rfl, hi, HBi⟩ := hrel
        by_cases hlt : i < cs.length
        · have i0 : (0 : Int) ≤ (i : Int) := by omega
          have i1 : (i : Int) < (cs.length : Int) := by omega
          have i2 : (i : Int) < (ps.length : Int) := by rw [← HCN.out]; omega
          obtain ⟨bc, oc, rfl⟩ := arow_some (K4.out.1 a2' cs (by simp)) (by omega)
          obtain ⟨bp, op, rfl⟩ := arow_some (K4.out.1 pa ps (by simp)) (by rw [← HCN.out]; omega)
          go_wp2_with fail
          go_loopw [4, 11, 66] (fun s4 _ s wr => ∃ k : Nat, s4 = .bool false ∧ s = .int .i64 k ∧ k ≤ cs.length ∧ Hid (Below w4.heap.size w4 wr)) (fun _ _ s _ => cs.length - (intOf s).toNat)
          case atStart => exact ⟨0, rfl, rfl, Nat.zero_le _, HBi⟩
          case round =>
            obtain ⟨k, rfl, rfl, hk, HBk⟩ := hrel
            by_cases hlk : k < cs.length
            · have k0 : (0 : Int) ≤ (k : Int) := by omega
              have k1 : (k : Int) < (cs.length : Int) := by omega
              have k2 : (k : Int) < (ps.length : Int) := by rw [← HCN.out]; omega
              obtain ⟨x0, x1, x2⟩ := P4.out.below HBk.out
              have KK := (K4.out.step HBk.out).1
              have c1 := arow_cell (KK (some ⟨bc, oc, none⟩) cs (by simp)) hlt
              have c2 := arow_cell (KK (some ⟨bc, oc, none⟩) cs (by simp)) hlk
              have c3 := arow_cell (KK (some ⟨bp, op, none⟩) ps (by simp)) (i := i) (by rw [← HCN.out]; exact hlt)
              have c4 := arow_cell (KK (some ⟨bp, op, none⟩) ps (by simp)) (i := k) (by rw [← HCN.out]; exact hlk)
              obtain ⟨g1, g2, g3⟩ := HLW.out i k (by rw [← HCN.out]; exact hlt) (by rw [← HCN.out]; exact hlk)
              clear KK
              generalize cs.getD i 0 = C1 at *
              generalize cs.getD k 0 = C2 at *
              generalize ps.getD i 0 = Q1 at *
              generalize ps.getD k 0 = Q2 at *
              have d1 : decide (C1 < 1) = false := by simp; omega
              have d2 : decide (3 < C1) = false := by simp; omega
              by_cases hq : Q2 < Q1
              · have d3 : decide (C2 < C1) = false := by have := g3 hq; simp; omega
                clear g1 g2 g3
                go_wp2_with fail
                go_quiet (fail)
                go_wp2_with fail
                go_roundw
                case rel => exact ⟨k + 1, rfl, by go_num, by omega, hide (below_drewN HBk.out _)⟩
                case measure => simp only [intOf]; omega
              · have d4 : decide (Q2 < Q1) = false := by simpa using hq
                clear g1 g2 g3 hq
                go_wp2_with fail
                go_quiet (fail)
                go_wp2_with fail
                go_roundw
                case rel => exact ⟨k + 1, rfl, by go_num, by omega, hide (below_drewN HBk.out _)⟩
                case measure => simp only [intOf]; omega
            · go_wp2_with fail
              go_roundw
              case rel => exact ⟨i + 1, rfl, by go_num, by omega, HBk⟩
              case measure => simp only [intOf]; omega
        · clear HLW
          obtain ⟨zs, hz, hrow⟩ := src_row (hs2.out.below K4.out.2)
          have HNU := hide (fun (w' : World) (hb : Below w4.heap.size w4 w') => num_of (c := cap2) hz (hrow.below hb) hl2)
          have nb := @numUp_bd zs len2
          clear hz hrow
          generalize numUp zs len2 = N at *
          have HST1 := hide fun i => cnt_step (fun i => bits BinOp.and IntKind.i64 (N / 2 ^ i) 1 == 1) i
          have HST2 := hide fun i => smv_step ps (fun i => bits BinOp.and IntKind.i64 (N / 2 ^ i) 1 == 1) i
          go_wp2_with fail
          go_loopw [12, 13, 14, 109] (fun s12 s13 _ s wr => ∃ (i c12 : Nat) (v13 : Int), s12 = .int .i64 c12 ∧ s13 = .int .i64 v13 ∧ s = .int .i64 i ∧ i ≤ cs.length ∧ c12 ≤ i ∧ 0 ≤ v13 ∧ v13 ≤ 10000 * (i : Int) ∧ Hid (c12 = cnt (fun i => bits BinOp.and IntKind.i64 (N / 2 ^ i) 1 == 1) i ∧ v13 = smv ps (fun i => bits BinOp.and IntKind.i64 (N / 2 ^ i) 1 == 1) i) ∧ Hid (Below w4.heap.size w4 wr)) (fun _ _ _ s _ => cs.length - (intOf s).toNat)
          case atStart => exact ⟨0, 0, 0, rfl, rfl, rfl, Nat.zero_le _, Nat.le_refl _, by omega, by omega, hide ⟨rfl, rfl⟩, HBi⟩
          case round =>
            obtain ⟨i, c12, v13, rfl, rfl, rfl, hi, hc12, v0, v1, HCV, HBj⟩ := hrel
            by_cases hlt2 : i < cs.length
            · have i0 : (0 : Int) ≤ (i : Int) := by omega
              have i1 : (i : Int) < (cs.length : Int) := by omega
              have i2 : (i : Int) < (ps.length : Int) := by rw [← HCN.out]; omega
              obtain ⟨bp, op, rfl⟩ := arow_some (K4.out.1 pa ps (by simp)) (by rw [← HCN.out]; omega)
              obtain ⟨x0, x1, x2⟩ := P4.out.below HBj.out
              have c3 := arow_cell ((K4.out.step HBj.out).1 (some ⟨bp, op, none⟩) ps (by simp)) (i := i) (by rw [← HCN.out]; exact hlt2)
              obtain ⟨qb0, qb1⟩ := Pf.inB_yes (Pf.allB_get HPB.out (i := i) (by rw [← HCN.out]; exact hlt2))
              have hs1 := HST1.out i
              have hs2 := HST2.out i
              rw [← HCV.out.1] at hs1
              rw [← HCV.out.2] at hs2
              have HS1 := hide hs1
              have HS2 := hide hs2
              clear hs1 hs2
              generalize ps.getD i 0 = Q1 at *
              have h12c : cs.length ≤ 12 := by rw [HCN.out]; exact h12
              go_upto_if 118 with (go_at_call 11; refine (HNU.out _ HBj.out).mono ?_; rintro e w5 ⟨rfl, hw⟩; subst hw)
              cases hm : (bits BinOp.and IntKind.i64 (N / 2 ^ i) 1 == 1)
              · have HE : Hid (c12 = cnt (fun i => bits BinOp.and IntKind.i64 (N / 2 ^ i) 1 == 1) (i + 1) ∧ v13 = smv ps (fun i => bits BinOp.and IntKind.i64 (N / 2 ^ i) 1 == 1) (i + 1)) := hide (by
                  have e1 := HS1.out
                  have e2 := HS2.out
                  simp only [hm] at e1 e2
                  exact ⟨by rw [e1]; simp, by rw [e2]; simp⟩)
                go_wp2_with fail
                go_roundw
                case rel => exact ⟨i + 1, c12, v13, rfl, rfl, by go_num, by omega, by omega, by omega, by omega, HE, HBj⟩
                case measure => simp only [intOf]; omega
              · have HE : Hid (c12 + 1 = cnt (fun i => bits BinOp.and IntKind.i64 (N / 2 ^ i) 1 == 1) (i + 1) ∧ v13 + Q1 = smv ps (fun i => bits BinOp.and IntKind.i64 (N / 2 ^ i) 1 == 1) (i + 1)) := hide (by
                  have e1 := HS1.out
                  have e2 := HS2.out
                  simp only [hm] at e1 e2
                  exact ⟨by rw [e1]; simp, by rw [e2]; simp⟩)
                go_wp2_with fail
                go_roundw
                case rel => exact ⟨i + 1, c12 + 1, v13 + Q1, by go_num, by go_num, by go_num, by omega, by omega, by omega, by omega, HE, HBj⟩
                case measure => simp only [intOf]; omega
            · have hie : i = ps.length := by rw [← HCN.out]; omega
              obtain ⟨e1, e2⟩ := HCV.out
              rw [hie] at e1 e2
              obtain ⟨sB, A0, A1, ⟨p0, p1⟩, ⟨q0, q1⟩, hlaw⟩ := HSF.out (by trivial) (fun i => bits BinOp.and IntKind.i64 (N / 2 ^ i) 1 == 1)
              rw [← e1] at sB p0 p1 q0 q1 hlaw
              rw [← e2] at q0 q1 hlaw
              have HSC := hide fun (w' : World) (hb : Below w4.heap.size w4 w') => ((HSO.out (c12 : Int) w' ((K4.out.step hb).1 pa ps (by simp)) ((K4.out.step hb).1 pb fs (by simp))).2 sB)
              have HLS := hide fun (w' : World) (hb : Below w4.heap.size w4 w') => lsum_any (c := pc) ((K4.out.step hb).1 pa ps (by simp)) (by omega) (Pf.allB_of fun j hj => by have := Pf.inB_yes (Pf.allB_get HPB.out hj); exact Pf.inB_of (by omega) (by omega))
              generalize ps.sum = A at *
              generalize shN ps (c12 : Int) = NN at *
              generalize shD ps (c12 : Int) = DD at *
              obtain ⟨x0, x1, x2⟩ := P4.out.below HBj.out
              clear HCV e1 e2 HST1 HST2
              go_wp2_with fail
              refine (HSC.out _ HBj.out).mono ?_
              rintro e w5 ⟨rfl, hb5⟩
              have HB5 := hide (HBj.out.trans (hb5.mono HBj.out.size))
              have HB6 := hide (HB5.out.trans ((below_alloc w5 (.cells #[.int .i64 NN, .int .i64 DD] 45)).mono HB5.out.size))
              obtain ⟨y0, y1, y2⟩ := P4.out.below HB6.out
              have P6 := PBox.new w5 (.int .i64 NN) (.int .i64 DD) 45
              clear x0 x1 x2 hb5
              go_wp2_with fail
              generalize w5.alloc (.cells #[.int .i64 NN, .int .i64 DD] 45) = W6 at *
              generalize w5.heap.size = B6 at *
              obtain ⟨f0, f1, f2⟩ := P6
              refine (HLS.out _ HB6.out).mono ?_
              rintro e w7 ⟨rfl, hw⟩
              obtain rfl : W6 = w7 := hw.symm
              have HBF := hide (K4.out.2.trans (HB6.out.mono K4.out.2.size))
              by_cases hA : 0 < A
              · have hl := hlaw hA
                obtain ⟨X1, hX1⟩ : ∃ X, X = NN * A := ⟨_, rfl⟩
                obtain ⟨X2, hX2⟩ : ∃ X, X = v13 * DD := ⟨_, rfl⟩
                rw [← hX1] at p0 p1 hl
                rw [← hX2] at q0 q1 hl
                have m1 : wrap64 (NN * A) = X1 := by rw [← hX1]; exact wrap_id' _ (by omega) (by omega)
                have m2 : wrap64 (v13 * DD) = X2 := by rw [← hX2]; exact wrap_id' _ (by omega) (by omega)
                have hl' : decide (X1 < X2) = false := by simpa using hl
                clear hX1 hX2 hlaw
                go_wp2_with fail
                go_meet
                case rel => exact ⟨rfl, HBF⟩
              · clear hlaw
                go_wp2_with fail
                go_meet
                case rel => exact ⟨rfl, HBF⟩
  case rest =>
    obtain ⟨rfl, HB⟩ := hcut
    clear K4 P4 HSO HSF HPK HCF
    rename_i K1 hK1
    refine hK1 _ _ ?_
    exact lCs_b a1 a2 len1 cap1 len2 cap2 w _ hs2 HB _ _ _ _ _ _ _ _ _ _ _ _ _ _ _ _ _ _ _ _ _ _ _ _ _ _ _ _ _ _ _ _ _ _ _ _ _ _ _ _ _ _ _ _ _ _ _ _ _ _ _ _ _ _ _ _ _ _ _ _ _ _ _ _ _ _ _ _ _ _ _ _ _ _ _ _ _ _ _ _ _ _ _ _ _ _ _ _ _ _ _ _ _ _ _ _ _ _ _ _ _ _ _ _ _ _ _ _ _ _ _ _ _ _ _ _ _ _ _ _ _ _ _ _ _ _ _ _ _ _ _ _ _ _ _ _ _ _ _ _ _ _ _ _ _ _ _ _ _ _ _ _ _ _ _ _ _ _ _ _ _ _ _ _ _ _ _ _ _ _ _ _ _ _ _ _ _ _ _ _ _ _ _ _ _ _ _ _ _ _ _ _ _ _ _ _ _ _ _ _ _ _ _ _ _ _ _ _ _ _ _ _ _ _ _ _ _ _ _ _ _ _ _ _ _ _ _ _ _ _ _ _ _ _ _ _ _ _ _ _ _ _ _ _ _ _ _ _ _ _ _ _ _ _ _ _ _ _ _ _
end Go.Proofs.Ytmakckenoohboaa
