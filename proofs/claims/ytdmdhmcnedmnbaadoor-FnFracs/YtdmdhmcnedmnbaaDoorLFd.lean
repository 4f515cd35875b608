/-
  The law on fractions: its last part, over FracOf and FracText.
-/
import Derived.Test.YtdmdhmcnedmnbaaDoorTl
import Derived.Test.YtdmdhmcnedmnbaaDoorO
import Derived.BigQuiet
namespace Go.Proofs.YtdmdhmcnedmnbaaDoor
open Go.RowKit

def txV (n d : Int) : List UInt8 := if Fr.goodB n d = true then (if d = 1 then Lib.itoa n else Lib.itoa n ++ 47 :: Lib.itoa d) else []
theorem ftF_any (n d : Int) (w : World) (ht : Tab w) :
    Calls Tryd.prog 19 #[.agg #[.int .i64 n, .int .i64 d]] w fun e w' => e = .returned (.tuple #[.string ⟨(txV n d).toArray⟩, .bool (Fr.goodB n d)]) ∧ Below w.heap.size w w' := by
  unfold txV
  cases h : Fr.goodB n d
  · exact ft_no n d w h
  · by_cases hd : d = 1
    · subst hd
      simpa using ft_one n w h ht
    · simpa [hd] using ft_two n d w h hd ht
theorem sftF_any (n d : Int) (w : World) :
    Calls Tryd.prog 20 #[.agg #[.int .i64 n, .int .i64 d]] w fun e w' => e = .returned (.tuple #[.string ⟨(txV n d).toArray⟩, .bool (Fr.goodB n d)]) ∧ Below w.heap.size w w' := by
  unfold txV
  cases h : Fr.goodB n d
  · exact sft_no n d w h
  · by_cases hd : d = 1
    · subst hd
      simpa using sft_one n w h
    · simpa [hd] using sft_two n d w h hd

theorem mk_parts (n d : Int) (h : d ≠ 0) : Fr.g (Fr.mkN n d) (Fr.mkD n d) = 1 ∧ 1 ≤ Fr.mkD n d := by
  obtain ⟨a, ha⟩ := Fr.g_dvdl n d
  obtain ⟨b, hb⟩ := Fr.g_dvdr n d
  have hg := Fr.g_pos n d h
  obtain ⟨G, hG⟩ : ∃ G, Fr.g n d = G := ⟨_, rfl⟩
  rw [hG] at ha hb hg
  have e : G = G * Fr.g a b := by
    have : Fr.g (G * a) (G * b) = G * Fr.g a b := by
      unfold Fr.g
      rw [Int.gcd_mul_left, Int.natCast_mul, Int.natAbs_of_nonneg (by omega)]
    rw [← ha, ← hb, hG] at this
    exact this
  have h1 : Fr.g a b = 1 := Int.eq_of_mul_eq_mul_left (a := G) (by omega) (by omega)
  unfold Fr.mkN Fr.mkD
  rw [hG]
  subst ha hb
  split
  · rename_i hn
    rw [← Int.mul_neg, ← Int.mul_neg, Int.mul_tdiv_cancel_left _ (by omega), Int.mul_tdiv_cancel_left _ (by omega)]
    refine ⟨by rw [Fr.g_neg]; exact h1, ?_⟩
    by_cases hb : 0 ≤ b
    · have := Int.mul_nonneg (show 0 ≤ G by omega) hb; omega
    · omega
  · rename_i hn
    rw [Int.mul_tdiv_cancel_left _ (by omega), Int.mul_tdiv_cancel_left _ (by omega)]
    refine ⟨h1, ?_⟩
    by_cases hb : 1 ≤ b
    · exact hb
    · have := Int.mul_le_mul_of_nonneg_left (show b ≤ 0 by omega) (show 0 ≤ G by omega); simp at this; omega
theorem mul_bd {x y : Int} (h1 : -1000000000 ≤ x) (h2 : x ≤ 1000000000) (h3 : -1000000000 ≤ y) (h4 : y ≤ 1000000000) : -1000000000000000000 ≤ x * y ∧ x * y ≤ 1000000000000000000 := by
  have h : (x * y).natAbs ≤ 1000000000 * 1000000000 := by
    rw [Int.natAbs_mul]; exact Nat.mul_le_mul (by omega) (by omega)
  omega
theorem of_walk (n d : Int) (h : ofB n d = true) : Fr.goodB (ofN n d) (ofD n d) = true ∧ (wrap64 (ofN n d * d) == wrap64 (n * ofD n d)) = true := by
  unfold ofN ofD
  rw [if_pos h, if_pos h]
  unfold ofB at h
  simp only [Bool.and_eq_true, bne_iff_ne, ne_eq] at h
  obtain ⟨⟨h1, h2⟩, h3⟩ := h
  obtain ⟨a0, a1⟩ := part_bd h1
  obtain ⟨b0, b1⟩ := part_bd h2
  obtain ⟨k1, k2⟩ := mk_parts n d h3
  have m1 := Fr.mkN_abs n d
  have m2 := Fr.mkD_abs n d
  refine ⟨(Fr.goodB_iff _ _).2 ⟨by omega, by omega, k2, by omega, k1⟩, ?_⟩
  rw [Fr.mk_cross n d h3]
  simp

set_option maxRecDepth 100000 in
set_option maxHeartbeats 2000000 in
theorem fr_d (a1 a2 : Option Addr) (len1 cap1 len2 cap2 : Nat) (w wc : World) (hs2 : Src w a2 len2) (ht : Tab w) (hBe : Below w.heap.size w wc) (c2 c3 c5 c6 c7 c8 c9 c10 c11 c12 c13 c14 c15 c16 c17 c18 c19 c20 c21 c22 c23 c24 c25 c26 c27 c28 c29 c30 c31 c32 c33 c34 c35 c36 c37 c38 c39 c40 c41 c42 c43 c44 c45 c46 c47 c48 c49 c50 c51 c52 c53 c54 c55 c56 c57 c58 c59 c60 c61 c62 c63 c64 c65 c66 c67 c68 c69 c70 c71 c72 c73 c74 c75 c76 c77 c78 c79 c80 c81 c82 c83 c84 c85 c86 c87 c88 c89 c90 c91 c92 c93 c94 c95 c96 c97 c98 c99 c100 c101 c102 c103 c104 c105 c106 c107 c108 c109 c110 c111 c112 c113 c114 c115 c116 c117 c118 c119 c120 c121 c122 c123 c124 c125 c126 c127 c128 c129 c130 c131 c132 c133 c134 c135 c136 c137 c138 c139 c140 c141 c142 c143 c144 c145 c146 c147 c148 c149 c150 c151 c152 c153 c154 c155 c156 c157 c158 c159 c160 c161 c162 c163 c164 c165 c166 c167 c168 c169 c170 c171 c172 c173 c174 c175 c176 c177 c178 c179 c180 c181 c182 c183 c184 c185 c186 c187 c188 c189 c190 c191 c192 c193 c194 c195 c196 c197 c198 c199 c200 c201 c202 c203 c204 c205 c206 c207 c208 c209 c210 c211 c212 c213 c214 c215 c216 c217 c218 c219 c220 c221 c222 c223 c224 c225 c226 c227 c228 c229 c230 c231 c232 c233 c234 c235 c236 c237 c238 c239 c240 c241 c242 c243 c244 c245 c246 c247 c248 c249 c250 c251 c252 c253 c254 c255 c256 c257 c258 c259 c260 c261 c262 c263 c264 c265 c266 c267 c268 c269 c270 c271 c272 c273 : Value) :
    Code.wp Tryd.prog (tailAt 14 (Tryd.f3.body.getD .skip)) (bodyPost Tryd.prog Tryd.f3 fun e w' => e = .returned (.bool true) ∧ Below w.heap.size w w') ⟨#[.slice a1 len1 cap1, .slice a2 len2 cap2, c2, c3, .bool false, c5, c6, c7, c8, c9, c10, c11, c12, c13, c14, c15, c16, c17, c18, c19, c20, c21, c22, c23, c24, c25, c26, c27, c28, c29, c30, c31, c32, c33, c34, c35, c36, c37, c38, c39, c40, c41, c42, c43, c44, c45, c46, c47, c48, c49, c50, c51, c52, c53, c54, c55, c56, c57, c58, c59, c60, c61, c62, c63, c64, c65, c66, c67, c68, c69, c70, c71, c72, c73, c74, c75, c76, c77, c78, c79, c80, c81, c82, c83, c84, c85, c86, c87, c88, c89, c90, c91, c92, c93, c94, c95, c96, c97, c98, c99, c100, c101, c102, c103, c104, c105, c106, c107, c108, c109, c110, c111, c112, c113, c114, c115, c116, c117, c118, c119, c120, c121, c122, c123, c124, c125, c126, c127, c128, c129, c130, c131, c132, c133, c134, c135, c136, c137, c138, c139, c140, c141, c142, c143, c144, c145, c146, c147, c148, c149, c150, c151, c152, c153, c154, c155, c156, c157, c158, c159, c160, c161, c162, c163, c164, c165, c166, c167, c168, c169, c170, c171, c172, c173, c174, c175, c176, c177, c178, c179, c180, c181, c182, c183, c184, c185, c186, c187, c188, c189, c190, c191, c192, c193, c194, c195, c196, c197, c198, c199, c200, c201, c202, c203, c204, c205, c206, c207, c208, c209, c210, c211, c212, c213, c214, c215, c216, c217, c218, c219, c220, c221, c222, c223, c224, c225, c226, c227, c228, c229, c230, c231, c232, c233, c234, c235, c236, c237, c238, c239, c240, c241, c242, c243, c244, c245, c246, c247, c248, c249, c250, c251, c252, c253, c254, c255, c256, c257, c258, c259, c260, c261, c262, c263, c264, c265, c266, c267, c268, c269, c270, c271, c272, c273], []⟩ wc := by
  have HS2 := hide hs2
  have HT := hide ht
  clear hs2 ht
  conv => arg 2; whnf
  go_wp2_with fail
  refine (drawOf_any a2 len2 cap2 _ (HS2.out.below hBe)).mono ?_
  rintro e wf ⟨n, m, rfl, hb⟩
  have hBf : Below w.heap.size w wf := hBe.trans (hb.mono hBe.size)
  clear hb hBe
  go_wp2_with fail
  refine (ofF_any n m _).mono ?_
  rintro e wg ⟨rfl, hb⟩
  have hBg : Below w.heap.size w wg := hBf.trans (hb.mono hBf.size)
  have VG := hide ((Vs.nil wg).add (ofN n m) (ofD n m) 24)
  have hBg' : Below w.heap.size w (wg.alloc (.cells #[.int .i64 (ofN n m), .int .i64 (ofD n m)] 24)) := hBg.alloc hBg.size _
  clear hb hBf hBg
  go_wp2_with fail
  refine (sofF_any n m _).mono ?_
  rintro e wh ⟨rfl, hb⟩
  have hBh : Below w.heap.size w wh := hBg'.trans (hb.mono hBg'.size)
  have VH := hide ((VG.out.below hb).add (ofN n m) (ofD n m) 24)
  have hBh' : Below w.heap.size w (wh.alloc (.cells #[.int .i64 (ofN n m), .int .i64 (ofD n m)] 24)) := hBh.alloc hBh.size _
  clear hb hBg' hBh VG
  go_wp2_with fail
  refine (drawText_any a2 len2 cap2 _ (HS2.out.below hBh')).mono ?_
  rintro e wi ⟨n3, d3, rfl, hb⟩
  have hBi : Below w.heap.size w wi := hBh'.trans (hb.mono hBh'.size)
  have VI := hide ((VH.out.below hb).add n3 d3 24)
  have hBi' : Below w.heap.size w (wi.alloc (.cells #[.int .i64 n3, .int .i64 d3] 24)) := hBi.alloc hBi.size _
  clear hb hBh' hBi VH
  go_wp2_with fail
  refine (ftF_any n3 d3 _ (HT.out.below hBi')).mono ?_
  rintro e wj ⟨rfl, hb⟩
  have hBj : Below w.heap.size w wj := hBi'.trans (hb.mono hBi'.size)
  have VJ := hide (VI.out.below hb)
  clear hb hBi' VI
  obtain ⟨x0, x1, x2⟩ := VJ.out.at (p := wi.heap.size) (n := n3) (d := d3) (by simp)
  go_wp2_with fail
  refine (sftF_any n3 d3 _).mono ?_
  rintro e wk ⟨rfl, hb⟩
  have hBk : Below w.heap.size w wk := hBj.trans (hb.mono hBj.size)
  have VK := hide (VJ.out.below hb)
  clear hb hBj VJ x0 x1 x2
  obtain ⟨x0, x1, x2⟩ := VK.out.at (p := wg.heap.size) (n := ofN n m) (d := ofD n m) (by simp)
  obtain ⟨y0, y1, y2⟩ := VK.out.at (p := wh.heap.size) (n := ofN n m) (d := ofD n m) (by simp)
  have ro : (ofB n m != ofB n m) = false := by simp
  have rg : (Fr.goodB n3 d3 != Fr.goodB n3 d3) = false := by simp
  have tof : ∀ w, (binOp .neq 24 (.agg #[.int .i64 (ofN n m), .int .i64 (ofD n m)]) (.agg #[.int .i64 (ofN n m), .int .i64 (ofD n m)])).run Tryd.prog w = .ok (.bool false) w := fun w => by rw [frac_neq]; simp
  have vo := fun x y => frac_neqg x y (ofN n m) (ofD n m) (ofN n m) (ofD n m)
  generalize txV n3 d3 = tx at *
  cases hof : ofB n m
  · go_wp2_with fail
    go_ret
    exact ⟨rfl, hBk⟩
  · obtain ⟨c1, c2⟩ := of_walk n m hof
    have A1 := good_any (ofN n m) (ofD n m)
    rw [c1] at A1
    have HA1 := hide A1
    clear A1 c1
    generalize ofN n m = oN at *
    generalize ofD n m = oD at *
    go_wp2_with fail
    refine (HA1.out _).mono ?_
    rintro e wl ⟨rfl, hb⟩
    have hBl : Below w.heap.size w wl := hBk.trans (hb.mono hBk.size)
    have VL := hide (VK.out.below hb)
    clear hb x0 x1 x2 y0 y1 y2 VK
    obtain ⟨x0, x1, x2⟩ := VL.out.at (p := wg.heap.size) (n := oN) (d := oD) (by simp)
    go_wp2_with fail
    go_ret
    exact ⟨rfl, hBl⟩
end Go.Proofs.YtdmdhmcnedmnbaaDoor
