/-
  FnClasses: the second part of the law's walk: ranks, and shares.
-/
import Derived.Test.YtmakckenoohboaaRw
import Derived.Test.YtmakckenoohboaaDr
import Derived.Deep.DeepCutAuto
import Derived.Deep.QuietTactic
import Derived.BigQuiet
namespace Go.Proofs.Ytmakckenoohboaa
open Go.RowKit

def tailAt : Nat → Code → Code
  | 0, c => c
  | n + 1, .seq _ b => tailAt n b
  | _ + 1, c => c
set_option maxRecDepth 100000 in
set_option maxHeartbeats 8000000 in
theorem lCs_b (a1 a2 : Option Addr) (len1 cap1 len2 cap2 : Nat) (w wd : World) (hs2 : Hid (Src w a2 len2)) (HB : Hid (Below w.heap.size w wd)) (c2 c3 c5 c6 c7 c8 c9 c10 c11 c12 c13 c14 c15 c16 c17 c18 c19 c20 c21 c22 c23 c24 c25 c26 c27 c28 c29 c30 c31 c32 c33 c34 c35 c36 c37 c38 c39 c40 c41 c42 c43 c44 c45 c46 c47 c48 c49 c50 c51 c52 c53 c54 c55 c56 c57 c58 c59 c60 c61 c62 c63 c64 c65 c66 c67 c68 c69 c70 c71 c72 c73 c74 c75 c76 c77 c78 c79 c80 c81 c82 c83 c84 c85 c86 c87 c88 c89 c90 c91 c92 c93 c94 c95 c96 c97 c98 c99 c100 c101 c102 c103 c104 c105 c106 c107 c108 c109 c110 c111 c112 c113 c114 c115 c116 c117 c118 c119 c120 c121 c122 c123 c124 c125 c126 c127 c128 c129 c130 c131 c132 c133 c134 c135 c136 c137 c138 c139 c140 c141 c142 c143 c144 c145 c146 c147 c148 c149 c150 c151 c152 c153 c154 c155 c156 c157 c158 c159 c160 c161 c162 c163 c164 c165 c166 c167 c168 c169 c170 c171 c172 c173 c174 c175 c176 c177 c178 c179 c180 c181 c182 c183 c184 c185 c186 c187 c188 c189 c190 c191 c192 c193 c194 c195 c196 c197 c198 c199 c200 c201 c202 c203 c204 c205 c206 c207 c208 c209 c210 c211 c212 c213 c214 c215 c216 c217 c218 c219 c220 c221 c222 c223 c224 c225 c226 c227 c228 c229 c230 c231 c232 c233 c234 c235 c236 c237 c238 c239 c240 c241 c242 c243 c244 c245 c246 c247 c248 c249 c250 c251 c252 c253 c254 c255 c256 c257 c258 c259 c260 c261 c262 : Value) :
    Code.wp Try.prog (tailAt 7 (Try.f4.body.getD .skip)) (bodyPost Try.prog Try.f4 fun e w' => e = .returned (.bool true) ∧ Below w.heap.size w w') ⟨#[.slice a1 len1 cap1, .slice a2 len2 cap2, c2, c3, .bool false, c5, c6, c7, c8, c9, c10, c11, c12, c13, c14, c15, c16, c17, c18, c19, c20, c21, c22, c23, c24, c25, c26, c27, c28, c29, c30, c31, c32, c33, c34, c35, c36, c37, c38, c39, c40, c41, c42, c43, c44, c45, c46, c47, c48, c49, c50, c51, c52, c53, c54, c55, c56, c57, c58, c59, c60, c61, c62, c63, c64, c65, c66, c67, c68, c69, c70, c71, c72, c73, c74, c75, c76, c77, c78, c79, c80, c81, c82, c83, c84, c85, c86, c87, c88, c89, c90, c91, c92, c93, c94, c95, c96, c97, c98, c99, c100, c101, c102, c103, c104, c105, c106, c107, c108, c109, c110, c111, c112, c113, c114, c115, c116, c117, c118, c119, c120, c121, c122, c123, c124, c125, c126, c127, c128, c129, c130, c131, c132, c133, c134, c135, c136, c137, c138, c139, c140, c141, c142, c143, c144, c145, c146, c147, c148, c149, c150, c151, c152, c153, c154, c155, c156, c157, c158, c159, c160, c161, c162, c163, c164, c165, c166, c167, c168, c169, c170, c171, c172, c173, c174, c175, c176, c177, c178, c179, c180, c181, c182, c183, c184, c185, c186, c187, c188, c189, c190, c191, c192, c193, c194, c195, c196, c197, c198, c199, c200, c201, c202, c203, c204, c205, c206, c207, c208, c209, c210, c211, c212, c213, c214, c215, c216, c217, c218, c219, c220, c221, c222, c223, c224, c225, c226, c227, c228, c229, c230, c231, c232, c233, c234, c235, c236, c237, c238, c239, c240, c241, c242, c243, c244, c245, c246, c247, c248, c249, c250, c251, c252, c253, c254, c255, c256, c257, c258, c259, c260, c261, c262], []⟩ wd := by
  conv => arg 2; whnf
  go_wp2_with fail
  refine (drawRank_any (hide (hs2.out.below HB.out))).mono ?_
  rintro e x1 ⟨la, lc, vs, rfl, hv13, q1, hbx⟩
  have K1 : Hid (Rws w x1 [(la, vs)]) := hide ⟨fun a xs hm => by simp at hm; obtain ⟨rfl, rfl⟩ := hm; exact q1, HB.out.trans (hbx.mono HB.out.size)⟩
  have A1 := hide (fun (w' : World) (ha : ARow w' la vs) => rb_one (c := lc) rfl ha)
  have A2 := hide (fun (w' : World) (ha : ARow w' la vs) => srb_one (c := lc) rfl ha)
  obtain ⟨n1, hrf⟩ := @rbL_facts vs
  have HRF := hide hrf
  generalize goodV vs = ov at *
  generalize rbL vs = rs at *
  have hob : (ov != ov) = false := by simp
  clear q1 hbx HB hrf
  go_wp2_with fail
  refine (A1.out _ (K1.out.1 la vs (by simp))).mono ?_
  rintro e x2 ⟨v2, rfl, hb, own⟩
  obtain ⟨ra, rc, rfl, r2⟩ := own_slice rfl own
  have hcap := own_cap own
  have K2 := hide ((K1.out.step hb).add r2)
  clear hb own r2 K1 A1
  go_wp2_with fail
  refine (A2.out _ (K2.out.1 la vs (by simp))).mono ?_
  rintro e x3 ⟨v3, rfl, hb, own⟩
  obtain ⟨sa, sc, rfl, r3⟩ := own_slice rfl own
  have K3 := hide ((K2.out.step hb).add r3)
  clear hb own r3 K2 A2
  go_wp2_with fail
  refine (sameI_b rfl (by omega) (K3.out.1 ra rs (by simp)) (K3.out.1 sa rs (by simp))).mono ?_
  rintro e x4 ⟨rfl, hb⟩
  have K4 := hide (K3.out.step hb)
  clear hb K3
  go_upto_if 176 with fail
  clear hob
  go_cut [4, 23, 24] (fun s4 _ _ wd => s4 = .bool false ∧ Hid (Below w.heap.size w wd))
  case first =>
    cases ov
    · go_wp2_with fail
      go_meet
      case rel => exact ⟨rfl, hide K4.out.2⟩
    · obtain ⟨hrn, hat⟩ := HRF.out rfl
      have HAT := hide hat
      have HRN := hide hrn
      have HNX := hide fun (i : Nat) (h : i + 1 < vs.length) => rank_next (vs := vs) (i := i) h
      have HNW := hide fun (i j : Nat) (h : i < vs.length) (hj : j < i) => rank_new (vs := vs) h hj
      have HIN := hide fun (i : Nat) (h : i < vs.length) => rank_in (vs := vs) h
      have hne : ((rs.length : Int) != (vs.length : Int)) = false := by rw [hrn]; simp
      clear hat hrn HRF
      go_wp2_with fail
      go_loopw [4, 23, 24, 179] (fun s4 _ _ s wr => ∃ i : Nat, s4 = .bool false ∧ s = .int .i64 i ∧ i ≤ rs.length ∧ Hid (Below x4.heap.size x4 wr)) (fun _ _ _ s _ => rs.length - (intOf s).toNat)
      case atStart => exact ⟨0, rfl, rfl, Nat.zero_le _, hide (Below.refl _ _)⟩
      case round =>
        obtain ⟨i, rfl, rfl, hi, HBi⟩ := hrel
        by_cases hlt : i < rs.length
        · have hlv : i < vs.length := by rw [← HRN.out]; exact hlt
          have i0 : (0 : Int) ≤ (i : Int) := by omega
          have i1 : (i : Int) < (rs.length : Int) := by omega
          have i2 : (i : Int) ≤ (rc : Int) := by omega
          obtain ⟨br, or, rfl⟩ := arow_some (K4.out.1 ra rs (by simp)) (by omega)
          obtain ⟨bl, ol, rfl⟩ := arow_some (K4.out.1 la vs (by simp)) (by omega)
          have KK := (K4.out.step HBi.out).1
          have rR := KK (some ⟨br, or, none⟩) rs (by simp)
          have rL := KK (some ⟨bl, ol, none⟩) vs (by simp)
          have c1 := arow_cell rR hlt
          have HTK : Hid (∀ m c, Calls Try.prog 29 #[.slice (some ⟨br, or, none⟩) i c, .int .i64 (rs.getD i 0)] (wr.drewN m) fun e w' => e = .returned (.bool false) ∧ w' = wr.drewN m) := hide (fun m c => has_no (xs := rs.take i) (by simp; omega) (by
            rcases rR with h | ⟨b, o, e, hb, hc⟩
            · exact Or.inl (by rw [h]; simp)
            · refine Or.inr ⟨b, o, e, hb, fun j hj => ?_⟩
              simp at hj
              have := hc j (by omega)
              rw [List.getD_eq_getElem?_getD, List.getElem?_take_of_lt (by omega), ← List.getD_eq_getElem?_getD]
              exact this) (by omega) (fun j hj => by
            have e1 : (rs.take i).getD j 0 = rs.getD j 0 := by simp [List.getD_eq_getElem?_getD, hj]
            rw [e1, HAT.out j (by omega), HAT.out i hlv]
            have := HNW.out i j hlv hj
            omega))
          rw [HAT.out i hlv] at c1 HTK
          have b1 := HIN.out i hlv
          have c2 := arow_cell rL b1
          by_cases hi0 : i = 0
          · have d0 : decide ((0 : Int) < (i : Int)) = false := by simp; omega
            have d0' : decide (0 < i) = false := by simp; omega
            have d0'' : ¬ (0 : Int) < (i : Int) := by omega
            have d0x : ¬ 0 < i := by omega
            generalize (Rk.rank vs).getD i 0 = RK at *
            generalize vs.getD RK 0 = VK at *
            clear KK rR rL c2 b1 hi0
            go_wp2_with fail
            go_quiet ((go_at_call 29; exact Calls.quiet_of_same (HTK.out _ _)))
            go_wp2_with fail
            go_roundw
            case rel => exact ⟨i + 1, rfl, by go_num, by omega, hide (below_drewN HBi.out _)⟩
            case measure => simp only [intOf]; omega
          · obtain ⟨j, hij⟩ : ∃ j, i = j + 1 := ⟨i - 1, by omega⟩
            have d0 : (0 : Int) < (i : Int) := by omega
            have d0' : 0 < i := by omega
            have d0'' : decide ((0 : Int) < (i : Int)) = true := by simpa using d0'
            have ej : wrap64 ((i : Int) - 1) = (j : Int) := by rw [wrap_id _ (by omega) (by omega)]; omega
            have ej' : IntKind.i64.wrap ((i : Int) - 1) = (j : Int) := by rw [IntKind.wrap_i64]; omega
            have j0 : (0 : Int) ≤ (j : Int) := by omega
            have j1 : (j : Int) < (rs.length : Int) := by omega
            have c3 := arow_cell rR (i := j) (by omega)
            rw [HAT.out j (by omega)] at c3
            have b2 := HIN.out j (by omega)
            have c4 := arow_cell rL b2
            have hnx := HNX.out j (by omega)
            rw [← hij] at hnx
            generalize (Rk.rank vs).getD j 0 = RJ at *
            generalize (Rk.rank vs).getD i 0 = RK at *
            generalize vs.getD RJ 0 = VJ at *
            generalize vs.getD RK 0 = VK at *
            have u0 : (0 : Int) ≤ (RJ : Int) := by omega
            have u1 : (RJ : Int) < (vs.length : Int) := by omega
            have u2 : (0 : Int) ≤ (RK : Int) := by omega
            have u3 : (RK : Int) < (vs.length : Int) := by omega
            clear KK rR rL hij hi0 b1 b2
            by_cases hv : VJ = VK
            · subst hv
              have d1 : decide (VJ < VJ) = false := by simp
              have d2 : (VJ == VJ) = true := by simp
              have d3 : decide ((RK : Int) ≤ (RJ : Int)) = false := by simp; omega
              have d3' : decide (RK ≤ RJ) = false := by simp; omega
              have d3'' : ¬ RK ≤ RJ := by omega
              have d3x : RJ < RK := by omega
              clear hnx
              go_wp2_with fail
              go_quiet ((go_at_call 29; exact Calls.quiet_of_same (HTK.out _ _)))
              go_wp2_with fail
              go_roundw
              case rel => exact ⟨i + 1, rfl, by go_num, by omega, hide (below_drewN HBi.out _)⟩
              case measure => simp only [intOf]; omega
            · have d1 : decide (VJ < VK) = false := by simp; omega
              have d2 : (VJ == VK) = false := by simpa using hv
              clear hnx hv
              go_wp2_with fail
              go_quiet ((go_at_call 29; exact Calls.quiet_of_same (HTK.out _ _)))
              go_wp2_with fail
              go_roundw
              case rel => exact ⟨i + 1, rfl, by go_num, by omega, hide (below_drewN HBi.out _)⟩
              case measure => simp only [intOf]; omega
        · go_wp2_with fail
          go_meet
          case rel => exact ⟨rfl, hide (K4.out.step HBi.out).2⟩
  case rest =>
    obtain ⟨rfl, HB⟩ := hcut
    clear K4 HRF
    go_wp2_with fail
    refine (drawSO_any (hide (hs2.out.below HB.out))).mono ?_
    rintro e y1 ⟨qa, qb, qc, qd, qs, gs, g, rfl, hq13, hg13, own1, own2, hb1⟩
    have K1 : Hid (Rws w (y1.alloc (.cells #[.slice qa qs.length qc, .slice qb gs.length qd] 29)) [(qa, qs), (qb, gs)]) := hide (Rws.step ⟨fun a xs hm => by
      simp at hm
      rcases hm with ⟨rfl, rfl⟩ | ⟨rfl, rfl⟩
      · exact own_arow rfl own1
      · exact own_arow rfl own2, HB.out.trans (hb1.mono HB.out.size)⟩ (below_alloc _ _))
    have P1 := hide (PBox.new y1 (.slice qa qs.length qc) (.slice qb gs.length qd) 29)
    have A1 := hide (fun (w' : World) (ha : ARow w' qa qs) (hb : ARow w' qb gs) => so_w (c := qc) (d := qd) (g := g) rfl rfl ha hb)
    have A2 := hide (fun (w' : World) (ha : ARow w' qa qs) (hb : ARow w' qb gs) => sso_w (c := qc) (d := qd) (g := g) rfl rfl ha hb)
    generalize shB qs gs g = sb at *
    generalize shV qs gs g = sv at *
    obtain ⟨s1, s2⟩ := sv
    dsimp only at A1 A2
    have hsb : (sb == sb) = true := by simp
    have te : ∀ w, (binOp .eql 45 (.agg #[.int .i64 s1, .int .i64 s2]) (.agg #[.int .i64 s1, .int .i64 s2])).run Try.prog w = .ok (.bool true) w := fun w => by rw [frac_eq]; simp
    have ve := fun x y => frac_eqg x y s1 s2 s1 s2
    clear own1 own2 hb1 HB
    go_wp2_with fail
    generalize y1.alloc (.cells #[.slice qa qs.length qc, .slice qb gs.length qd] 29) = Y1 at *
    generalize y1.heap.size = B1 at *
    refine (A1.out _ (K1.out.1 qa qs (by simp)) (K1.out.1 qb gs (by simp))).mono ?_
    rintro e y2 ⟨rfl, hb2⟩
    have K2 := hide ((K1.out.step hb2).step (below_alloc y2 (.cells #[.int .i64 s1, .int .i64 s2] 45)))
    have P2 := hide (PBox.new y2 (.int .i64 s1) (.int .i64 s2) 45)
    obtain ⟨x0, x1, x2⟩ := P1.out.below hb2
    clear K1 P1 A1 hb2
    go_wp2_with fail
    generalize y2.alloc (.cells #[.int .i64 s1, .int .i64 s2] 45) = Y2 at *
    generalize y2.heap.size = B2 at *
    refine (A2.out _ (K2.out.1 qa qs (by simp)) (K2.out.1 qb gs (by simp))).mono ?_
    rintro e y3 ⟨rfl, hb3⟩
    have HF := hide (((K2.out.step hb3).step (below_alloc y3 (.cells #[.int .i64 s1, .int .i64 s2] 45))).2)
    obtain ⟨z0, z1, z2⟩ := P2.out.below hb3
    clear K2 P2 A2 hb3 x0 x1 x2
    go_wp2_with fail
    go_ret
    exact ⟨rfl, HF.out⟩
end Go.Proofs.Ytmakckenoohboaa
