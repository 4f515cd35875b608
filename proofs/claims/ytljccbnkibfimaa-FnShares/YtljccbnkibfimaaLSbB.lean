/-
  FnStable: what is next gains most.
-/
import Derived.Test.YtljccbnkibfimaaLSbC
import Derived.Deep.DeepCutAuto
namespace Go.Proofs.Ytljccbnkibfimaa
open Go.RowKit

theorem next_gain {fs cs : List Int} (h : Sh.sharedB fs cs = true) : gainB fs cs (nextN fs cs) = true ∧ gainF fs cs (nextN fs cs) = Sh.gain (fs.getD (Sh.next fs cs) 0) (cs.getD (Sh.next fs cs) 0) := by
  have hl := Sh.flowB_yes (Sh.sharedB_yes h).1
  have hn := Sh.next_lt (fs := fs) cs (by omega)
  have e : nextN fs cs = ((Sh.next fs cs : Nat) : Int) := by unfold nextN; rw [if_pos h]
  have hb : gainB fs cs (nextN fs cs) = true := by
    unfold gainB; rw [h, e, Bool.true_and]; exact Pf.inB_of (by omega) (by omega)
  refine ⟨hb, ?_⟩
  unfold gainF; rw [if_pos hb, e]; rfl
theorem at_gain {fs cs : List Int} {k : Nat} (h : Sh.sharedB fs cs = true) (hk : k < fs.length) : gainB fs cs (k : Int) = true ∧ gainF fs cs (k : Int) = Sh.gain (fs.getD k 0) (cs.getD k 0) := by
  have hb : gainB fs cs (k : Int) = true := by
    unfold gainB; rw [h, Bool.true_and]; exact Pf.inB_of (by omega) (by omega)
  refine ⟨hb, ?_⟩
  unfold gainF; rw [if_pos hb]; rfl
theorem good_at {fs cs : List Int} {k : Nat} (h : Sh.sharedB fs cs = true) (hk : k < fs.length) : Sh.goodF (Sh.gain (fs.getD k 0) (cs.getD k 0)) = true := by
  have f := Sh.flowB_at (Sh.sharedB_yes h).1 hk
  have c := Sh.sharedB_at h hk
  exact Sh.gain_good f.1 f.2 c.1 c.2

set_option maxRecDepth 100000 in
set_option maxHeartbeats 8000000 in
theorem fst_b (a1 a2 b1 b2 : Option Addr) (len1 cap1 len2 cap2 e1 e2 : Nat) (fs cs : List Int) (sh : Bool) (nx : Int) (w wc : World) (hs2 : Hid (Src w a2 len2)) (hf9 : fs.length ≤ 9) (HC : Hid (Car w wc b1 b2 fs cs)) (HSH : Hid (Sh.sharedB fs cs = sh)) (HNX : Hid (nextN fs cs = nx)) (c2 c3 c7 c8 c9 c10 c11 c12 c13 c14 c17 c18 c19 c20 c21 c22 c23 c24 c25 c26 c27 c28 c29 c30 c31 c32 c33 c34 c35 c36 c37 c38 c39 c40 c41 c42 c43 c44 c45 c46 c47 c48 c49 c50 c51 c52 c53 c54 c55 c56 c57 c58 c59 c60 c61 c62 c63 c64 c65 c66 c67 c68 c69 c70 c71 c72 c73 c74 c75 c76 c77 c78 c79 c80 c81 c82 c83 c84 c85 c86 c87 c88 c89 c90 c91 c92 c93 c94 c95 c96 c97 c98 c99 c100 c101 c102 c103 c104 c105 c106 c107 c108 c109 c110 c111 c112 c113 c114 c115 c116 c117 c118 c119 c120 c121 c122 c123 c124 c125 c126 c127 c128 c129 c130 c131 c132 c133 c134 c135 c136 c137 c138 c139 c140 c141 c142 c143 c144 c145 c146 c147 c148 c149 c150 c151 c152 c153 c154 c155 c156 c157 c158 c159 c160 c161 c162 c163 c164 c165 c166 c167 c168 c169 c170 c171 c172 c173 c174 c175 c176 c177 c178 c179 c180 c181 c182 c183 c184 c185 c186 c187 c188 c189 c190 c191 c192 c193 c194 c195 c196 c197 c198 c199 c200 c201 c202 c203 c204 c205 c206 c207 c208 c209 c210 c211 c212 c213 c214 c215 c216 c217 c218 c219 c220 c221 c222 c223 c224 c225 c226 c227 c228 c229 c230 c231 c232 c233 c234 c235 c236 c237 c238 c239 c240 c241 c242 c243 c244 c245 c246 c247 c248 c249 c250 c251 c252 c253 c254 c255 c256 c257 c258 c259 c260 c261 c262 c263 : Value) :
    Code.wp Try.prog (tailAt 11 (Try.f4.body.getD .skip)) (bodyPost Try.prog Try.f4 fun e w' => e = .returned (.bool true) ∧ Below w.heap.size w w') ⟨#[.slice a1 len1 cap1, .slice a2 len2 cap2, c2, c3, .bool false, .slice b1 fs.length e1, .slice b2 cs.length e2, c7, c8, c9, c10, c11, c12, c13, c14, .int .i64 nx, .bool sh, c17, c18, c19, c20, c21, c22, c23, c24, c25, c26, c27, c28, c29, c30, c31, c32, c33, c34, c35, c36, c37, c38, c39, c40, c41, c42, c43, c44, c45, c46, c47, c48, c49, c50, c51, c52, c53, c54, c55, c56, c57, c58, c59, c60, c61, c62, c63, c64, c65, c66, c67, c68, c69, c70, c71, c72, c73, c74, c75, c76, c77, c78, c79, c80, c81, c82, c83, c84, c85, c86, c87, c88, c89, c90, c91, c92, c93, c94, c95, c96, c97, c98, c99, c100, c101, c102, c103, c104, c105, c106, c107, c108, c109, c110, c111, c112, c113, c114, c115, c116, c117, c118, c119, c120, c121, c122, c123, c124, c125, c126, c127, c128, c129, c130, c131, c132, c133, c134, c135, c136, c137, c138, c139, c140, c141, c142, c143, c144, c145, c146, c147, c148, c149, c150, c151, c152, c153, c154, c155, c156, c157, c158, c159, c160, c161, c162, c163, c164, c165, c166, c167, c168, c169, c170, c171, c172, c173, c174, c175, c176, c177, c178, c179, c180, c181, c182, c183, c184, c185, c186, c187, c188, c189, c190, c191, c192, c193, c194, c195, c196, c197, c198, c199, c200, c201, c202, c203, c204, c205, c206, c207, c208, c209, c210, c211, c212, c213, c214, c215, c216, c217, c218, c219, c220, c221, c222, c223, c224, c225, c226, c227, c228, c229, c230, c231, c232, c233, c234, c235, c236, c237, c238, c239, c240, c241, c242, c243, c244, c245, c246, c247, c248, c249, c250, c251, c252, c253, c254, c255, c256, c257, c258, c259, c260, c261, c262, c263], []⟩ wc := by
  have HI := hide (fun (w' : World) (k : Int) (ha : ARow w' b1 fs) (hb : ARow w' b2 cs) => go_any (c := e1) (d := e2) (k := k) (hide ha) (hide rfl) (hide hb) (hide rfl))
  have HN := hide (@next_gain fs cs)
  rw [HNX.out, HSH.out] at HN
  conv => arg 2; whnf
  go_upto_if 148 with fail
  go_cut [4, 16, 23, 24, 25, 26, 27, 28, 29] (fun s4 _ _ _ _ _ _ _ _ wd => s4 = .bool false ∧ Hid (Below w.heap.size w wd))
  case first =>
    cases sh
    · go_wp2_with fail
      go_meet
      case rel => exact ⟨rfl, hide HC.out.2.2⟩
    · have HB1 := hide (HN.out rfl).1
      have HB2 := hide (HN.out rfl).2
      have hl := Sh.flowB_yes (Sh.sharedB_yes HSH.out).1
      have hnx := Sh.next_lt (fs := fs) cs (by omega)
      have HGB := hide (good_at HSH.out hnx)
      have HLE := hide (fun (k : Nat) (hk : k < fs.length) => Sh.next_best HSH.out hk)
      generalize Sh.gain (fs.getD (Sh.next fs cs) 0) (cs.getD (Sh.next fs cs) 0) = b at *
      have hcall := hide (HI.out wc nx HC.out.1 HC.out.2.1)
      rw [HB1.out, HB2.out] at hcall
      simp only [fb_eq] at hcall
      obtain ⟨bn, bd⟩ := b
      clear hl hnx HN
      go_wp2_with fail
      refine hcall.out.mono ?_
      rintro e w1 ⟨rfl, hb1⟩
      have C1 := hide (HC.out.step hb1)
      clear hcall
      go_wp2_with fail
      have C1a := hide (C1.out.alloc (.cells #[.int .i64 bn, .int .i64 bd] 35))
      have P1 := hide (PBox.new w1 (.int .i64 bn) (.int .i64 bd) 35)
      clear C1 hb1
      generalize w1.alloc (.cells #[.int .i64 bn, .int .i64 bd] 35) = W1 at *
      generalize w1.heap.size = V1 at *
      go_loopw [4, 25, 26, 27, 28, 29, 158] (fun s4 _ _ _ _ _ s wr => ∃ k : Nat, s4 = .bool false ∧ s = .int .i64 k ∧ k ≤ fs.length ∧ Hid (PBox wr V1 (.int .i64 bn) (.int .i64 bd)) ∧ Hid (Car w wr b1 b2 fs cs)) (fun _ _ _ _ _ _ s _ => fs.length - (intOf s).toNat)
      case atStart => exact ⟨0, rfl, rfl, Nat.zero_le _, P1, C1a⟩
      case round =>
        obtain ⟨k, rfl, rfl, hk, P, CC⟩ := hrel
        by_cases hlt : k < fs.length
        · obtain ⟨hb, hg⟩ := at_gain HSH.out hlt
          have hcall := hide (HI.out wr (k : Int) CC.out.1 CC.out.2.1)
          rw [hb, hg] at hcall
          simp only [fb_eq] at hcall
          have HGK := hide (good_at HSH.out hlt)
          have hle := HLE.out k hlt
          have HL := hide (fun (w' : World) => less_yes bn bd (Sh.gain (fs.getD k 0) (cs.getD k 0)).1 (Sh.gain (fs.getD k 0) (cs.getD k 0)).2 w' HGB.out HGK.out)
          have hle' : Fr.lessB bn bd (Sh.gain (fs.getD k 0) (cs.getD k 0)).1 (Sh.gain (fs.getD k 0) (cs.getD k 0)).2 = false := hle
          rw [hle'] at HL
          generalize Sh.gain (fs.getD k 0) (cs.getD k 0) = g at *
          obtain ⟨g1, g2⟩ := g
          clear hb hg hle hle'
          go_wp2_with fail
          refine hcall.out.mono ?_
          rintro e w2 ⟨rfl, hb2⟩
          have C2 := hide (CC.out.step hb2)
          obtain ⟨pa, pb, pl⟩ := P.out.below hb2
          have P2 : Hid (PBox w2 V1 (.int .i64 bn) (.int .i64 bd)) := hide ⟨pa, pb, pl⟩
          clear hcall hb2 CC P
          go_wp2_with fail
          have C2a := hide (C2.out.alloc (.cells #[.int .i64 g1, .int .i64 g2] 35))
          have P2a := hide (P2.out.below (below_alloc w2 (.cells #[.int .i64 g1, .int .i64 g2] 35)))
          clear C2 P2 pa pb pl
          generalize w2.alloc (.cells #[.int .i64 g1, .int .i64 g2] 35) = W2 at *
          refine (HL.out _).mono ?_
          rintro e w3 ⟨rfl, hb3⟩
          have C3 := hide (C2a.out.step hb3)
          have P3 := hide (P2a.out.below hb3)
          clear C2a P2a hb3 HL
          go_wp2_with fail
          go_roundw
          case rel => exact ⟨k + 1, rfl, by go_num, by omega, P3, C3⟩
          case measure => simp only [intOf]; omega
        · go_wp2_with fail
          go_meet
          case rel => exact ⟨rfl, hide CC.out.2.2⟩
  case rest =>
    obtain ⟨rfl, HB⟩ := hcut
    rename_i K1 hK1
    refine hK1 _ _ ?_
    exact fst_c a1 a2 len1 cap1 len2 cap2 w _ hs2 HB _ _ _ _ _ _ _ _ _ _ _ _ _ _ _ _ _ _ _ _ _ _ _ _ _ _ _ _ _ _ _ _ _ _ _ _ _ _ _ _ _ _ _ _ _ _ _ _ _ _ _ _ _ _ _ _ _ _ _ _ _ _ _ _ _ _ _ _ _ _ _ _ _ _ _ _ _ _ _ _ _ _ _ _ _ _ _ _ _ _ _ _ _ _ _ _ _ _ _ _ _ _ _ _ _ _ _ _ _ _ _ _ _ _ _ _ _ _ _ _ _ _ _ _ _ _ _ _ _ _ _ _ _ _ _ _ _ _ _ _ _ _ _ _ _ _ _ _ _ _ _ _ _ _ _ _ _ _ _ _ _ _ _ _ _ _ _ _ _ _ _ _ _ _ _ _ _ _ _ _ _ _ _ _ _ _ _ _ _ _ _ _ _ _ _ _ _ _ _ _ _ _ _ _ _ _ _ _ _ _ _ _ _ _ _ _ _ _ _ _ _ _ _ _ _ _ _ _ _ _ _ _ _ _ _ _ _ _ _ _ _ _ _ _ _ _ _ _ _ _ _ _ _ _ _ _ _ _ _ _ _
end Go.Proofs.Ytljccbnkibfimaa
