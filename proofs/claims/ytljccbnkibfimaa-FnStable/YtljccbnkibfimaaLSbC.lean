/-
  FnStable: its last part, over a drawn gain.
-/
import Derived.Test.YtljccbnkibfimaaDc
import Derived.Test.YtljccbnkibfimaaSe
import Derived.Test.YtljccbnkibfimaaSk
import Derived.Test.YtljccbnkibfimaaOa
namespace Go.Proofs.Ytljccbnkibfimaa
open Go.RowKit

def tailAt : Nat → Code → Code
  | 0, c => c
  | n + 1, .seq _ b => tailAt n b
  | _ + 1, c => c
theorem gain_facts {fs cs : List Int} {k : Int} (h : gainB fs cs k = true) : ∃ j : Nat, k = (j : Int) ∧ j < fs.length ∧ gainF fs cs k = Sh.gain (fs.getD j 0) (cs.getD j 0) ∧ Sh.sharedB fs cs = true := by
  have h' := h
  unfold gainB at h'
  simp only [Bool.and_eq_true] at h'
  obtain ⟨h1, h2⟩ := h'
  have := Pf.inB_yes h2
  obtain ⟨j, rfl⟩ := Int.eq_ofNat_of_zero_le this.1
  refine ⟨j, rfl, by omega, ?_, h1⟩
  unfold gainF; rw [if_pos h]; rfl
theorem cost_facts {fs cs : List Int} (h : Sh.sharedB fs cs = true) (hb : costB fs cs = true) : Sh.Is (costF fs cs) (Sh.tot fs cs) ∧ Sh.goodF (costF fs cs) = true := by
  unfold costB at hb
  rw [h, Bool.true_and] at hb
  unfold costF; rw [if_pos h]
  exact Sh.cost_tot h hb
theorem more_shared {fs cs : List Int} {j : Nat} (h : Sh.sharedB fs cs = true) (hj : j < fs.length) (hs : cs.sum < 40) : Sh.sharedB fs (cs.set j (cs.getD j 0 + 1)) = true := by
  have hl := (Sh.sharedB_yes h).2.1
  refine Sh.shared_of (Sh.sharedB_yes h).1 (by simp [hl]) (fun i hi => ?_) (by rw [Sh.set_sum _ _ _ (by omega)]; omega)
  rw [Sh.set_get _ _ _ _ (by omega)]
  have := Sh.sharedB_at h hi
  have := Sh.sharedB_at h hj
  split <;> omega
theorem gain_sub {fs cs : List Int} {j : Nat} (h : Sh.sharedB fs cs = true) (hj : j < fs.length) (hs : cs.sum < 40) (h1 : costB fs cs = true) (h2 : costB fs (cs.set j (cs.getD j 0 + 1)) = true)
    (h3 : Fr.subB (costF fs cs).1 (costF fs cs).2 (costF fs (cs.set j (cs.getD j 0 + 1))).1 (costF fs (cs.set j (cs.getD j 0 + 1))).2 = true) :
    (Fr.subN (costF fs cs).1 (costF fs cs).2 (costF fs (cs.set j (cs.getD j 0 + 1))).1 (costF fs (cs.set j (cs.getD j 0 + 1))).2, Fr.subD (costF fs cs).1 (costF fs cs).2 (costF fs (cs.set j (cs.getD j 0 + 1))).1 (costF fs (cs.set j (cs.getD j 0 + 1))).2) = Sh.gain (fs.getD j 0) (cs.getD j 0) := by
  have hd := more_shared h hj hs
  obtain ⟨i1, g1⟩ := cost_facts h h1
  obtain ⟨i2, g2⟩ := cost_facts hd h2
  obtain ⟨i3, g3⟩ := Sh.sub_is h3 i1 i2
  have fj := Sh.flowB_at (Sh.sharedB_yes h).1 hj
  have cj := Sh.sharedB_at h hj
  have e : Sh.tot fs cs - Sh.tot fs (cs.set j (cs.getD j 0 + 1)) = Sh.drop (fs.getD j 0) (cs.getD j 0) := by
    rw [Sh.tot_set _ _ _ _ (Sh.sharedB_yes h).2.1 hj]; unfold Sh.drop; omega
  rw [e] at i3
  exact Sh.is_eq g3 (Sh.gain_good fj.1 fj.2 cj.1 cj.2) i3 (Sh.gain_is cj.1 cj.2)
theorem emptyI_row (w : World) : (w.alloc (.cells #[] 3)).ownsRow w.heap.size 3 1 (.slice (some ⟨w.heap.size, 0, none⟩) 0 0) 0 (ints []) :=
  ⟨rfl, .inr ⟨w.heap.size, 0, #[], rfl, Nat.le_refl _, heap_alloc_new w _, Nat.le_refl _, by unfold maxLen; omega, rfl, rfl⟩⟩
theorem addI_none (b o j : Nat) : (⟨b, o, none⟩ : Addr).add j = ⟨b, o + j, none⟩ := by unfold Addr.add; split <;> simp_all
theorem newsI_at {w : World} {b o : Nat} {xs : List Int} (h : ∀ i, i < xs.length → w.cell? ⟨b, o + i, none⟩ = some (.int .i64 (xs.getD i 0))) : ∀ (j : Nat) (u : Value), (ints xs)[j]? = some u → w.cell? ((⟨b, o, none⟩ : Addr).add j) = some u := by
  intro j u hj
  have hl : j < xs.length := by
    rcases Nat.lt_or_ge j xs.length with h | h
    · exact h
    · rw [List.getElem?_eq_none (by simpa [ints] using h)] at hj; cases hj
  rw [ints_get xs j hl] at hj
  cases hj
  rw [addI_none]; exact h j hl
theorem arow_cells {w : World} {b off : Nat} {xs : List Int} (h : ARow w (some ⟨b, off, none⟩) xs) : b < w.heap.size ∨ xs = [] := by
  rcases h with h | ⟨b', off', e, hb, _⟩
  · exact Or.inr h
  · cases e; exact Or.inl hb

set_option maxRecDepth 100000 in
set_option maxHeartbeats 8000000 in
theorem fst_c (a1 a2 : Option Addr) (len1 cap1 len2 cap2 : Nat) (w wc : World) (hs2 : Hid (Src w a2 len2)) (hB : Hid (Below w.heap.size w wc)) (c2 c3 c5 c6 c7 c8 c9 c10 c11 c12 c13 c14 c15 c16 c17 c18 c19 c20 c21 c22 c23 c24 c25 c26 c27 c28 c29 c30 c31 c32 c33 c34 c35 c36 c37 c38 c39 c40 c41 c42 c43 c44 c45 c46 c47 c48 c49 c50 c51 c52 c53 c54 c55 c56 c57 c58 c59 c60 c61 c62 c63 c64 c65 c66 c67 c68 c69 c70 c71 c72 c73 c74 c75 c76 c77 c78 c79 c80 c81 c82 c83 c84 c85 c86 c87 c88 c89 c90 c91 c92 c93 c94 c95 c96 c97 c98 c99 c100 c101 c102 c103 c104 c105 c106 c107 c108 c109 c110 c111 c112 c113 c114 c115 c116 c117 c118 c119 c120 c121 c122 c123 c124 c125 c126 c127 c128 c129 c130 c131 c132 c133 c134 c135 c136 c137 c138 c139 c140 c141 c142 c143 c144 c145 c146 c147 c148 c149 c150 c151 c152 c153 c154 c155 c156 c157 c158 c159 c160 c161 c162 c163 c164 c165 c166 c167 c168 c169 c170 c171 c172 c173 c174 c175 c176 c177 c178 c179 c180 c181 c182 c183 c184 c185 c186 c187 c188 c189 c190 c191 c192 c193 c194 c195 c196 c197 c198 c199 c200 c201 c202 c203 c204 c205 c206 c207 c208 c209 c210 c211 c212 c213 c214 c215 c216 c217 c218 c219 c220 c221 c222 c223 c224 c225 c226 c227 c228 c229 c230 c231 c232 c233 c234 c235 c236 c237 c238 c239 c240 c241 c242 c243 c244 c245 c246 c247 c248 c249 c250 c251 c252 c253 c254 c255 c256 c257 c258 c259 c260 c261 c262 c263 : Value) :
    Code.wp Try.prog (tailAt 12 (Try.f4.body.getD .skip)) (bodyPost Try.prog Try.f4 fun e w' => e = .returned (.bool true) ∧ Below w.heap.size w w') ⟨#[.slice a1 len1 cap1, .slice a2 len2 cap2, c2, c3, .bool false, c5, c6, c7, c8, c9, c10, c11, c12, c13, c14, c15, c16, c17, c18, c19, c20, c21, c22, c23, c24, c25, c26, c27, c28, c29, c30, c31, c32, c33, c34, c35, c36, c37, c38, c39, c40, c41, c42, c43, c44, c45, c46, c47, c48, c49, c50, c51, c52, c53, c54, c55, c56, c57, c58, c59, c60, c61, c62, c63, c64, c65, c66, c67, c68, c69, c70, c71, c72, c73, c74, c75, c76, c77, c78, c79, c80, c81, c82, c83, c84, c85, c86, c87, c88, c89, c90, c91, c92, c93, c94, c95, c96, c97, c98, c99, c100, c101, c102, c103, c104, c105, c106, c107, c108, c109, c110, c111, c112, c113, c114, c115, c116, c117, c118, c119, c120, c121, c122, c123, c124, c125, c126, c127, c128, c129, c130, c131, c132, c133, c134, c135, c136, c137, c138, c139, c140, c141, c142, c143, c144, c145, c146, c147, c148, c149, c150, c151, c152, c153, c154, c155, c156, c157, c158, c159, c160, c161, c162, c163, c164, c165, c166, c167, c168, c169, c170, c171, c172, c173, c174, c175, c176, c177, c178, c179, c180, c181, c182, c183, c184, c185, c186, c187, c188, c189, c190, c191, c192, c193, c194, c195, c196, c197, c198, c199, c200, c201, c202, c203, c204, c205, c206, c207, c208, c209, c210, c211, c212, c213, c214, c215, c216, c217, c218, c219, c220, c221, c222, c223, c224, c225, c226, c227, c228, c229, c230, c231, c232, c233, c234, c235, c236, c237, c238, c239, c240, c241, c242, c243, c244, c245, c246, c247, c248, c249, c250, c251, c252, c253, c254, c255, c256, c257, c258, c259, c260, c261, c262, c263], []⟩ wc := by
  obtain ⟨i0, hi, hz0, hz1, hz2⟩ := info_parts infI
  conv => arg 2; whnf
  go_wp2_with fail
  refine (drawGain_any (hide (hs2.out.below hB.out))).mono ?_
  rintro e w1 ⟨b1, e1, b2, e2, fs, cs, k, rfl, hf9, hc9, r1, r2, hb1⟩
  have HC1 : Hid (Car w w1 b1 b2 fs cs) := hide ⟨r1, r2, hB.out.trans (hb1.mono hB.out.size)⟩
  have HI := hide (fun (w' : World) (ha : ARow w' b1 fs) (hb : ARow w' b2 cs) => go_any (c := e1) (d := e2) (k := k) (hide ha) (hide rfl) (hide hb) (hide rfl))
  have HS := hide (fun (w' : World) (ha : ARow w' b1 fs) (hb : ARow w' b2 cs) => sgo_any (c := e1) (d := e2) (k := k) (hide ha) (hide rfl) (hide hb) (hide rfl))
  have HG := hide (@gain_facts fs cs k)
  simp only [fb_eq] at HI HS
  generalize gainF fs cs k = g at *
  generalize gainB fs cs k = gb at *
  obtain ⟨g1, g2⟩ := g
  have tq : ∀ w, (binOp .neq 35 (.agg #[.int .i64 g1, .int .i64 g2]) (.agg #[.int .i64 g1, .int .i64 g2])).run Try.prog w = .ok (.bool false) w := fun w => by rw [frac_neq]; simp
  have vq := fun x y => frac_neqg x y g1 g2 g1 g2
  have hgb : (gb != gb) = false := by simp
  clear r1 r2 hb1
  go_wp2_with fail
  refine (HI.out _ HC1.out.1 HC1.out.2.1).mono ?_
  rintro e w2 ⟨rfl, hb2⟩
  have HC2 := hide (HC1.out.step hb2)
  go_wp2_with fail
  have HC2a := hide (HC2.out.alloc (.cells #[.int .i64 g1, .int .i64 g2] 35))
  have P2 := hide (PBox.new w2 (.int .i64 g1) (.int .i64 g2) 35)
  clear HC1 HC2 hb2 HI
  generalize w2.alloc (.cells #[.int .i64 g1, .int .i64 g2] 35) = W2 at *
  generalize w2.heap.size = V2 at *
  refine (HS.out _ HC2a.out.1 HC2a.out.2.1).mono ?_
  rintro e w3 ⟨rfl, hb3⟩
  have HC3 := hide (HC2a.out.step hb3)
  have P3 := hide (P2.out.below hb3)
  obtain ⟨pa, pb, pl⟩ := P3.out
  clear HC2a P2 hb3 HS
  cases gb
  · go_wp2_with fail
    go_ret
    exact ⟨rfl, (HC3.out.alloc _).2.2⟩
  · obtain ⟨j, rfl, hj, hgj, hsh⟩ := HG.out rfl
    have HSH := hide hsh
    have HGJ := hide hgj
    have HAL := hide (Sh.sharedB_yes hsh).2.2.1
    have hlen : Hid (cs.length = fs.length) := hide (Sh.sharedB_yes hsh).2.1
    have hjc : j < cs.length := by rw [hlen.out]; exact hj
    have cj := Sh.sharedB_at hsh hj
    obtain ⟨cj0, cj1⟩ := cj
    clear hsh hgj HG
    go_wp2_with fail
    have C4 := hide (HC3.out.alloc (.cells #[.int .i64 g1, .int .i64 g2] 35))
    have P4 := hide (P3.out.below (below_alloc w3 (.cells #[.int .i64 g1, .int .i64 g2] 35)))
    clear HC3 P3 pa pb pl
    generalize w3.alloc (.cells #[.int .i64 g1, .int .i64 g2] 35) = W4 at *
    refine (lsum_eqn (hide C4.out.2.1) (hide rfl) (by omega) HAL).mono ?_
    rintro e w4 ⟨rfl, hw⟩
    obtain rfl : W4 = w4 := hw.symm
    by_cases hsum : cs.sum < 40
    · obtain ⟨bb, ob, rfl, hbb, hcb⟩ : ∃ bb ob, b2 = some ⟨bb, ob, none⟩ ∧ bb < W4.heap.size ∧ ∀ i, i < cs.length → W4.cell? ⟨bb, ob + i, none⟩ = some (.int .i64 (cs.getD i 0)) := by
        rcases C4.out.2.1 with e | h
        · rw [e] at hjc; simp at hjc
        · exact h
      have HNW := hide (newsI_at (w := W4.alloc (.cells #[] 3)) (b := bb) (o := ob) (xs := cs) (fun i hi => ((below_alloc W4 (.cells #[] 3)).cell (p := ⟨bb, ob + i, none⟩) hbb).trans (hcb i hi)))
      have E0 := hide (emptyI_row W4)
      have HD : Hid (Sh.sharedB fs (cs.set j (cs.getD j 0 + 1)) = true) := hide (more_shared HSH.out hj hsum)
      have HSUB := hide (fun h1 h2 h3 => gain_sub HSH.out hj hsum h1 h2 h3)
      have HCo1 := hide (fun (w' : World) (ha : ARow w' b1 fs) (hb : ARow w' (some ⟨bb, ob, none⟩) cs) => co_any (c := e1) (d := e2) (hide ha) (hide rfl) (hide hb) (hide rfl))
      have HCo2 := hide (fun (w' : World) (gd cd : Nat) (ha : ARow w' b1 fs) (hb : ARow w' (some ⟨gd, 0, none⟩) (cs.set j (cs.getD j 0 + 1))) => co_any (m := cs.length) (c := e1) (d := cd) (hide ha) (hide rfl) (hide hb) (hide (by simp)))
      simp only [fb_eq] at HCo1 HCo2
      generalize costF fs cs = p at *
      generalize costB fs cs = cb1 at *
      generalize costF fs (cs.set j (cs.getD j 0 + 1)) = q at *
      generalize costB fs (cs.set j (cs.getD j 0 + 1)) = cb2 at *
      have HSu := hide (fun (w' : World) => subG_any p q w')
      obtain ⟨p1, p2⟩ := p
      obtain ⟨q1, q2⟩ := q
      simp only at HSu HSUB
      generalize Fr.subN p1 p2 q1 q2 = s1 at *
      generalize Fr.subD p1 p2 q1 q2 = s2 at *
      generalize Fr.subB p1 p2 q1 q2 = sb at *
      have hj0 : (0 : Int) ≤ (j : Int) := by omega
      have hj1 : (j : Int) < (cs.length : Int) := by omega
      clear hcb
      go_wp2_with (first
        | (at_builtin; refine wpList_append_own _ rfl _ _ 23 rfl W4.heap.size 3 i0 (.int .i64 0) 1 8 Try.underlying23 hi hz0 hz1 hz2 rfl (by decide) _ _ _ rfl E0.out ⟨bb, ob, none⟩ cs.length e2 (ints cs) rfl (by simp [ints_len]) HNW.out (intI_cells _) (by unfold maxLen; omega) (by omega) (by simp) ?_))
      intro v' w5 own5 hg5 _
      have own5' : w5.ownsRow W4.heap.size 3 1 v' cs.length (ints cs) := by
        simpa [ints] using own5
      obtain ⟨gd, cd, rfl, gd0, gd1⟩ := own_some own5' (by omega)
      have B5 : Below W4.heap.size W4 w5 := (below_alloc W4 (.cells #[] 3)).trans (grown_below' hg5 (Nat.le_refl _) (by simp))
      have cx : w5.cell? ⟨gd, j, none⟩ = some (.int .i64 (cs.getD j 0)) := by rw [own5'.cellAt j (by omega), ints_get cs j hjc]
      have fx := own5'.frozenAt j
      obtain ⟨st1, _⟩ := own5'.stored j (.int .i64 (cs.getD j 0 + 1))
      rw [ints_set] at st1
      have B6 := hide (B5.setCell (p := ⟨gd, j, none⟩) gd0 (.int .i64 (cs.getD j 0 + 1)))
      have D6 := hide (arow_owns (xs := cs.set j (cs.getD j 0 + 1)) (by simp) st1)
      generalize cs.set j (cs.getD j 0 + 1) = ds at *
      generalize cs.getD j 0 = x at *
      clear own5 own5' hg5 st1 B5 E0 HNW
      go_wp2_with fail
      have C6 := hide (C4.out.step B6.out)
      have P6 := hide (P4.out.below B6.out)
      clear C4 P4 B6 cx fx
      generalize w5.setCell ⟨gd, j, none⟩ (.int .i64 (x + 1)) = w6 at *
      refine (HCo1.out _ C6.out.1 C6.out.2.1).mono ?_
      rintro e w7 ⟨rfl, hb7⟩
      have C7 := hide (C6.out.step hb7)
      have P7 := hide (P6.out.below hb7)
      have D7 := hide (D6.out.below hb7)
      clear C6 P6 D6 hb7 HCo1
      go_wp2_with fail
      have C7a := hide (C7.out.alloc (.cells #[.int .i64 p1, .int .i64 p2] 35))
      have P7a := hide (P7.out.below (below_alloc w7 (.cells #[.int .i64 p1, .int .i64 p2] 35)))
      have D7a := hide (D7.out.alloc (.cells #[.int .i64 p1, .int .i64 p2] 35))
      have X7 := hide (PBox.new w7 (.int .i64 p1) (.int .i64 p2) 35)
      clear C7 P7 D7
      generalize w7.alloc (.cells #[.int .i64 p1, .int .i64 p2] 35) = W7 at *
      generalize w7.heap.size = V7 at *
      refine (HCo2.out _ _ _ C7a.out.1 D7a.out).mono ?_
      rintro e w8 ⟨rfl, hb8⟩
      have C8 := hide (C7a.out.step hb8)
      have P8 := hide (P7a.out.below hb8)
      obtain ⟨xa, xb, xl⟩ := X7.out.below hb8
      have X8 : Hid (PBox w8 V7 (.int .i64 p1) (.int .i64 p2)) := hide ⟨xa, xb, xl⟩
      clear C7a P7a D7a X7 hb8 HCo2
      go_wp2_with fail
      have C8a := hide (C8.out.alloc (.cells #[.int .i64 q1, .int .i64 q2] 35))
      have P8a := hide (P8.out.below (below_alloc w8 (.cells #[.int .i64 q1, .int .i64 q2] 35)))
      clear C8 P8 X8 xa xb xl
      generalize w8.alloc (.cells #[.int .i64 q1, .int .i64 q2] 35) = W8 at *
      refine (HSu.out _).mono ?_
      rintro e w9 ⟨rfl, hb9⟩
      have C9 := hide (C8a.out.step hb9)
      obtain ⟨pa, pb, pl⟩ := P8a.out.below hb9
      clear C8a P8a hb9 HSu
      cases cb1
      · go_wp2_with fail
        go_ret
        exact ⟨rfl, (C9.out.alloc _).2.2⟩
      · cases cb2
        · go_wp2_with fail
          go_ret
          exact ⟨rfl, (C9.out.alloc _).2.2⟩
        · cases sb
          · go_wp2_with fail
            go_ret
            exact ⟨rfl, (C9.out.alloc _).2.2⟩
          · have he := HSUB.out rfl rfl rfl
            rw [← HGJ.out] at he
            obtain ⟨rfl, rfl⟩ := Prod.mk.injEq _ _ _ _ ▸ he
            have tz : ∀ w, (binOp .eql 35 (.agg #[.int .i64 s1, .int .i64 s2]) (.agg #[.int .i64 s1, .int .i64 s2])).run Try.prog w = .ok (.bool true) w := fun w => by rw [frac_eq]; simp
            have vz := fun x y => frac_eqg x y s1 s2 s1 s2
            clear he
            go_wp2_with fail
            go_ret
            exact ⟨rfl, (C9.out.alloc _).2.2⟩
    · go_wp2_with fail
      go_ret
      exact ⟨rfl, C4.out.2.2⟩
end Go.Proofs.Ytljccbnkibfimaa
