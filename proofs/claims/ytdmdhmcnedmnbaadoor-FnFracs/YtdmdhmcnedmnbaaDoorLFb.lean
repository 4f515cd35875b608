/-
  The law on fractions: from the sum on.
-/
import Derived.Test.YtdmdhmcnedmnbaaDoorLFc
namespace Go.Proofs.YtdmdhmcnedmnbaaDoor
open Go.RowKit

theorem add_back (n1 d1 n2 d2 sN sD : Int) (hN : Fr.addN n1 d1 n2 d2 = sN) (hD : Fr.addD n1 d1 n2 d2 = sD) (hB : Fr.addB n1 d1 n2 d2 = true) :
    (Fr.addN n2 d2 n1 d1 = sN ∧ Fr.addD n2 d2 n1 d1 = sD ∧ Fr.addB n2 d2 n1 d1 = true) ∧ Fr.goodB sN sD = true ∧ Fr.subB sN sD n2 d2 = true ∧ Fr.subN sN sD n2 d2 = n1 ∧ Fr.subD sN sD n2 d2 = d1 := by
  obtain ⟨c1, c2, c3⟩ := Fr.add_comm n1 d1 n2 d2
  have := Fr.add_sub n1 d1 n2 d2 hB
  rw [hN, hD] at this
  exact ⟨⟨c1 ▸ hN, c2 ▸ hD, c3 ▸ hB⟩, this⟩

set_option maxRecDepth 100000 in
set_option maxHeartbeats 2000000 in
theorem fr_b (a1 a2 : Option Addr) (len1 cap1 len2 cap2 : Nat) (w wc : World) (hs2 : Src w a2 len2) (ht : Tab w) (hBc : Below w.heap.size w wc) (pa pb p2 p3 p4 p5 p6 p7 p8 p9 : Nat) (n1 d1 n2 d2 sN sD dN dD pN pD qN qD : Int) (sB pB : Bool)
    (HV : Vs wc [(p9, qN, qD), (p8, qN, qD), (p7, pN, pD), (p6, pN, pD), (p5, dN, dD), (p4, dN, dD), (p3, sN, sD), (p2, sN, sD), (pb, n2, d2), (pa, n1, d1)]) (he1 : Fr.addN n1 d1 n2 d2 = sN) (he2 : Fr.addD n1 d1 n2 d2 = sD) (he3 : Fr.addB n1 d1 n2 d2 = sB) (he4 : Fr.mulN n1 d1 n2 d2 = pN) (he5 : Fr.mulD n1 d1 n2 d2 = pD) (he6 : Fr.mulB n1 d1 n2 d2 = pB) (c2 c3 c12 c14 c20 c22 c23 c24 c25 c26 c27 c28 c29 c30 c31 c32 c33 c34 c35 c36 c37 c38 c39 c40 c41 c42 c43 c44 c45 c46 c47 c48 c49 c50 c51 c52 c53 c54 c55 c56 c57 c58 c59 c60 c61 c62 c63 c64 c65 c66 c67 c68 c69 c70 c71 c72 c73 c74 c75 c76 c77 c78 c79 c80 c81 c82 c83 c84 c85 c86 c87 c88 c89 c90 c91 c92 c93 c94 c95 c96 c97 c98 c99 c100 c101 c102 c103 c104 c105 c106 c107 c108 c109 c110 c111 c112 c113 c114 c115 c116 c117 c118 c119 c120 c121 c122 c123 c124 c125 c126 c127 c128 c129 c130 c131 c132 c133 c134 c135 c136 c137 c138 c139 c140 c141 c142 c143 c144 c145 c146 c147 c148 c149 c150 c151 c152 c153 c154 c155 c156 c157 c158 c159 c160 c161 c162 c163 c164 c165 c166 c167 c168 c169 c170 c171 c172 c173 c174 c175 c176 c177 c178 c179 c180 c181 c182 c183 c184 c185 c186 c187 c188 c189 c190 c191 c192 c193 c194 c195 c196 c197 c198 c199 c200 c201 c202 c203 c204 c205 c206 c207 c208 c209 c210 c211 c212 c213 c214 c215 c216 c217 c218 c219 c220 c221 c222 c223 c224 c225 c226 c227 c228 c229 c230 c231 c232 c233 c234 c235 c236 c237 c238 c239 c240 c241 c242 c243 c244 c245 c246 c247 c248 c249 c250 c251 c252 c253 c254 c255 c256 c257 c258 c259 c260 c261 c262 c263 c264 c265 c266 c267 c268 c269 c270 c271 c272 c273 : Value) :
    Code.wp Tryd.prog (tailAt 12 (Tryd.f3.body.getD .skip)) (bodyPost Tryd.prog Tryd.f3 fun e w' => e = .returned (.bool true) ∧ Below w.heap.size w w') ⟨#[.slice a1 len1 cap1, .slice a2 len2 cap2, c2, c3, .bool false, .pointer (some ⟨pa, 0, none⟩), .pointer (some ⟨pb, 0, none⟩), .pointer (some ⟨p2, 0, none⟩), .bool sB, .pointer (some ⟨p3, 0, none⟩), .bool sB, .pointer (some ⟨p4, 0, none⟩), c12, .pointer (some ⟨p5, 0, none⟩), c14, .pointer (some ⟨p6, 0, none⟩), .bool pB, .pointer (some ⟨p7, 0, none⟩), .bool pB, .pointer (some ⟨p8, 0, none⟩), c20, .pointer (some ⟨p9, 0, none⟩), c22, c23, c24, c25, c26, c27, c28, c29, c30, c31, c32, c33, c34, c35, c36, c37, c38, c39, c40, c41, c42, c43, c44, c45, c46, c47, c48, c49, c50, c51, c52, c53, c54, c55, c56, c57, c58, c59, c60, c61, c62, c63, c64, c65, c66, c67, c68, c69, c70, c71, c72, c73, c74, c75, c76, c77, c78, c79, c80, c81, c82, c83, c84, c85, c86, c87, c88, c89, c90, c91, c92, c93, c94, c95, c96, c97, c98, c99, c100, c101, c102, c103, c104, c105, c106, c107, c108, c109, c110, c111, c112, c113, c114, c115, c116, c117, c118, c119, c120, c121, c122, c123, c124, c125, c126, c127, c128, c129, c130, c131, c132, c133, c134, c135, c136, c137, c138, c139, c140, c141, c142, c143, c144, c145, c146, c147, c148, c149, c150, c151, c152, c153, c154, c155, c156, c157, c158, c159, c160, c161, c162, c163, c164, c165, c166, c167, c168, c169, c170, c171, c172, c173, c174, c175, c176, c177, c178, c179, c180, c181, c182, c183, c184, c185, c186, c187, c188, c189, c190, c191, c192, c193, c194, c195, c196, c197, c198, c199, c200, c201, c202, c203, c204, c205, c206, c207, c208, c209, c210, c211, c212, c213, c214, c215, c216, c217, c218, c219, c220, c221, c222, c223, c224, c225, c226, c227, c228, c229, c230, c231, c232, c233, c234, c235, c236, c237, c238, c239, c240, c241, c242, c243, c244, c245, c246, c247, c248, c249, c250, c251, c252, c253, c254, c255, c256, c257, c258, c259, c260, c261, c262, c263, c264, c265, c266, c267, c268, c269, c270, c271, c272, c273], []⟩ wc := by
  have HS2 := hide hs2
  have HT := hide ht
  have UC := hide HV
  have HE := hide (And.intro (And.intro (And.intro he1 he2) (And.intro he3 trivial)) trivial)
  have HM := hide (And.intro he4 (And.intro he5 he6))
  clear hs2 ht HV he1 he2 he3 he4 he5 he6
  have rs : (sB != sB) = false := by simp
  have ts : ∀ w, (binOp .neq 24 (.agg #[.int .i64 sN, .int .i64 sD]) (.agg #[.int .i64 sN, .int .i64 sD])).run Tryd.prog w = .ok (.bool false) w := fun w => by rw [frac_neq]; simp
  have vs := fun x y => frac_neqg x y sN sD sN sD
  conv => arg 2; whnf
  go_upto_if 146 with fail
  go_cut [4, 8, 10, 23, 24, 25, 26] (fun s4 _ _ _ _ _ _ wd => s4 = .bool false ∧ Below w.heap.size w wd ∧ Hid (Vs wd [(p9, qN, qD), (p8, qN, qD), (p7, pN, pD), (p6, pN, pD), (p5, dN, dD), (p4, dN, dD), (p3, sN, sD), (p2, sN, sD), (pb, n2, d2), (pa, n1, d1)]))
  case first =>
    cases sB
    · go_wp2_with fail
      go_meet
      case rel => exact ⟨rfl, hBc, UC⟩
    · obtain ⟨⟨⟨e1, e2⟩, e3, _⟩, _⟩ := HE.out
      obtain ⟨⟨c1, c2, c3⟩, c4, c5, c6, c7⟩ := add_back n1 d1 n2 d2 sN sD e1 e2 e3
      have A1 := addF_any n2 d2 n1 d1
      rw [c1, c2, c3] at A1
      have A2 := subF_any sN sD n2 d2
      rw [c5, c6, c7] at A2
      have A3 := good_any sN sD
      rw [c4] at A3
      have HA1 := hide A1
      have HA2 := hide A2
      have HA3 := hide A3
      clear A1 A2 A3 e1 e2 e3 c1 c2 c3 c4 c5 c6 c7
      have ta : ∀ w, (binOp .neq 24 (.agg #[.int .i64 n1, .int .i64 d1]) (.agg #[.int .i64 n1, .int .i64 d1])).run Tryd.prog w = .ok (.bool false) w := fun w => by rw [frac_neq]; simp
      have va := fun x y => frac_neqg x y n1 d1 n1 d1
      obtain ⟨x0, x1, x2⟩ := UC.out.at (p := pa) (n := n1) (d := d1) (by simp)
      obtain ⟨y0, y1, y2⟩ := UC.out.at (p := pb) (n := n2) (d := d2) (by simp)
      go_wp2_with fail
      refine (HA1.out _).mono ?_
      rintro e wd ⟨rfl, hb⟩
      have hBd : Below w.heap.size w wd := hBc.trans (hb.mono hBc.size)
      have UD := hide (UC.out.below hb)
      clear hb x0 x1 x2 y0 y1 y2
      obtain ⟨y0, y1, y2⟩ := UD.out.at (p := pb) (n := n2) (d := d2) (by simp)
      obtain ⟨z0, z1, z2⟩ := UD.out.at (p := p2) (n := sN) (d := sD) (by simp)
      have VD := hide (UD.out.add sN sD 24)
      have hBd' : Below w.heap.size w (wd.alloc (.cells #[.int .i64 sN, .int .i64 sD] 24)) := hBd.alloc hBd.size _
      go_wp2_with fail
      refine (HA2.out _).mono ?_
      rintro e we ⟨rfl, hb⟩
      have hBe : Below w.heap.size w we := hBd'.trans (hb.mono hBd'.size)
      have UE := hide (VD.out.below hb)
      clear hb y0 y1 y2 z0 z1 z2 VD hBd' UD hBd
      obtain ⟨z0, z1, z2⟩ := UE.out.at (p := p2) (n := sN) (d := sD) (by simp)
      obtain ⟨t0, t1, t2⟩ := UE.out.at (p := wd.heap.size) (n := sN) (d := sD) (by simp)
      have VE := hide (UE.out.add n1 d1 24)
      have hBe' : Below w.heap.size w (we.alloc (.cells #[.int .i64 n1, .int .i64 d1] 24)) := hBe.alloc hBe.size _
      go_wp2_with fail
      refine (HA3.out _).mono ?_
      rintro e wf ⟨rfl, hb⟩
      have hBf : Below w.heap.size w wf := hBe'.trans (hb.mono hBe'.size)
      have UF := hide (VE.out.below hb)
      clear hb z0 z1 z2 t0 t1 t2 VE hBe' UE hBe
      obtain ⟨x0, x1, x2⟩ := UF.out.at (p := pa) (n := n1) (d := d1) (by simp)
      obtain ⟨t0, t1, t2⟩ := UF.out.at (p := we.heap.size) (n := n1) (d := d1) (by simp)
      go_wp2_with fail
      go_meet
      case rel => exact ⟨rfl, hBf, hide fun x hx => UF.out x (List.mem_cons_of_mem _ (List.mem_cons_of_mem _ hx))⟩
  case rest =>
    obtain ⟨rfl, hBd, UD⟩ := hcut
    rename_i K1 hK1
    refine hK1 _ _ ?_
    exact fr_c a1 a2 len1 cap1 len2 cap2 w _ HS2.out HT.out hBd pa pb p2 p3 p4 p5 p6 p7 p8 p9 n1 d1 n2 d2 sN sD dN dD pN pD qN qD pB UD.out HM.out.1 HM.out.2.1 HM.out.2.2 _ _ _ _ _ _ _ _ _ _ _ _ _ _ _ _ _ _ _ _ _ _ _ _ _ _ _ _ _ _ _ _ _ _ _ _ _ _ _ _ _ _ _ _ _ _ _ _ _ _ _ _ _ _ _ _ _ _ _ _ _ _ _ _ _ _ _ _ _ _ _ _ _ _ _ _ _ _ _ _ _ _ _ _ _ _ _ _ _ _ _ _ _ _ _ _ _ _ _ _ _ _ _ _ _ _ _ _ _ _ _ _ _ _ _ _ _ _ _ _ _ _ _ _ _ _ _ _ _ _ _ _ _ _ _ _ _ _ _ _ _ _ _ _ _ _ _ _ _ _ _ _ _ _ _ _ _ _ _ _ _ _ _ _ _ _ _ _ _ _ _ _ _ _ _ _ _ _ _ _ _ _ _ _ _ _ _ _ _ _ _ _ _ _ _ _ _ _ _ _ _ _ _ _ _ _ _ _ _ _ _ _ _ _ _ _ _ _ _ _ _ _ _ _ _ _ _ _ _ _ _ _ _ _ _ _ _ _ _ _ _ _ _ _ _ _ _ _ _ _ _ _ _ _ _ _ _ _ _
end Go.Proofs.YtdmdhmcnedmnbaaDoor
