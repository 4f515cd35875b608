/-
  FnShares: its last part: no other counts with as many places cost less, and with a place more just one kind has one more.
-/
import Derived.Test.YtljccbnkibfimaaDd
import Derived.Test.YtljccbnkibfimaaLSbB
import Derived.BigQuiet
namespace Go.Proofs.Ytljccbnkibfimaa
open Go.RowKit

/-- What stands while the law looks on: the flow, the counts, the lists of counts, the bytes. -/
def Sat (w w' : World) (b1 a2 : Option Addr) (fs : List Int) (p : Int) (g n m G C len2 : Nat) (gs : List (Nat × Nat)) : Prop :=
  ARow w' b1 fs ∧ ARow w' (some ⟨g, 0, none⟩) (shareL fs p) ∧ NOwn w' w.heap.size n m (.slice (some ⟨G, 0, none⟩) m C) gs (sharesN fs m) ∧ Src w' a2 len2 ∧ Below w.heap.size w w'
theorem Sat.step {w w' w1 : World} {b1 a2 : Option Addr} {fs : List Int} {p : Int} {g n m G C len2 : Nat} {gs : List (Nat × Nat)} (h : Sat w w' b1 a2 fs p g n m G C len2 gs) (hb : Below w'.heap.size w' w1) : Sat w w1 b1 a2 fs p g n m G C len2 gs :=
  ⟨h.1.below hb, h.2.1.below hb, h.2.2.1.below hb, h.2.2.2.1.below hb, h.2.2.2.2.trans (hb.mono h.2.2.2.2.size)⟩
theorem row_at {w : World} {base n m G C : Nat} {gs : List (Nat × Nat)} {fs : List Int} (h : NOwn w base n m (.slice (some ⟨G, 0, none⟩) m C) gs (sharesN fs m)) {i : Nat} (hi : i < m) :
    ∃ gi ci, w.cell? ⟨G, i, none⟩ = some (.slice (some ⟨gi, 0, none⟩) n ci) ∧ ARow w (some ⟨gi, 0, none⟩) (Sh.share fs i) := by
  obtain ⟨h1, h2⟩ := h.2.2.2.1 i hi
  have hc := h.outer hi
  have := arow_owns h1.symm h2
  rw [sharesN_at fs hi] at this
  exact ⟨_, _, hc, this⟩
theorem idx_facts {n m i j : Nat} (h : j + 1 = i) (hn : n ≤ 8) (hi : i < m) (hm : m ≤ 100) : wrap64 ((i : Int) - 1) = (j : Int) ∧ IntKind.i64.wrap ((i : Int) - 1) = (j : Int) ∧ wrap64 ((n : Int) + j + 1) = (n : Int) + i ∧ IntKind.i64.wrap ((n : Int) + j + 1) = (n : Int) + i ∧ (0 : Int) ≤ (i : Int) ∧ (i : Int) < (m : Int) ∧ (0 : Int) ≤ (j : Int) ∧ (j : Int) < (m : Int) := by
  refine ⟨?_, ?_, ?_, ?_, by omega, by omega, by omega, by omega⟩
  · rw [wrap_id _ (by omega) (by omega)]; omega
  · rw [IntKind.wrap_i64]; omega
  · rw [wrap_id _ (by omega) (by omega)]; omega
  · rw [IntKind.wrap_i64]; omega
theorem row_cell {w : World} {b k : Nat} {xs : List Int} (h : ARow w (some ⟨b, 0, none⟩) xs) (hk : k < xs.length) : w.cell? ⟨b, k, none⟩ = some (.int .i64 (xs.getD k 0)) := by
  rcases h with e | ⟨b', off', e, _, hc⟩
  · rw [e] at hk; simp at hk
  · cases e; have := hc k hk; rwa [Nat.zero_add] at this
theorem src_at {w : World} {a : Option Addr} {len k : Nat} (h : Src w a len) (hk : k < len) : ∃ b off, ∃ z : Int, a = some ⟨b, off, none⟩ ∧ b < w.heap.size ∧ w.cell? ⟨b, off + k, none⟩ = some (.int .u8 z) ∧ 0 ≤ z ∧ z ≤ 255 := by
  rcases h.1 with e | ⟨b, off, rfl, hc⟩
  · omega
  · obtain ⟨z, h1, h2, h3⟩ := hc k hk
    exact ⟨b, off, z, rfl, h.2 b off rfl (by omega), h1, h2, h3⟩
theorem mv_own {w : World} {base n gd cd A B : Nat} {ys : List Int} (hl : ys.length = n) (hA : A < n) (hB : B < n) (own : w.ownsRow base 3 1 (.slice (some ⟨gd, 0, none⟩) n cd) n (ints ys)) :
    w.cell? ⟨gd, A, none⟩ = some (.int .i64 (ys.getD A 0)) ∧ w.frozen? ⟨gd, A, none⟩ = false ∧ (w.setCell ⟨gd, A, none⟩ (.int .i64 (ys.getD A 0 - 1))).cell? ⟨gd, B, none⟩ = some (.int .i64 ((ys.set A (ys.getD A 0 - 1)).getD B 0)) ∧ (w.setCell ⟨gd, A, none⟩ (.int .i64 (ys.getD A 0 - 1))).frozen? ⟨gd, B, none⟩ = false ∧
      ((w.setCell ⟨gd, A, none⟩ (.int .i64 (ys.getD A 0 - 1))).setCell ⟨gd, B, none⟩ (.int .i64 ((ys.set A (ys.getD A 0 - 1)).getD B 0 + 1))).ownsRow base 3 1 (.slice (some ⟨gd, 0, none⟩) n cd) n (ints ((ys.set A (ys.getD A 0 - 1)).set B ((ys.set A (ys.getD A 0 - 1)).getD B 0 + 1))) := by
  obtain ⟨st1, _⟩ := own.stored A (.int .i64 (ys.getD A 0 - 1))
  rw [ints_set] at st1
  obtain ⟨st2, _⟩ := st1.stored B (.int .i64 ((ys.set A (ys.getD A 0 - 1)).getD B 0 + 1))
  rw [ints_set] at st2
  exact ⟨by rw [own.cellAt A (by omega), ints_get ys A (by omega)], own.frozenAt A, by rw [st1.cellAt B (by omega), ints_get _ B (by simp; omega)], st1.frozenAt B, st2⟩
theorem share_all {fs : List Int} {i : Nat} (h : Sh.flowB fs = true) (hi : fs.length + i ≤ 40) : Pf.allB (Sh.share fs i) 1 40 = true := (Sh.sharedB_yes (Sh.share_shared h i hi)).2.2.1

set_option maxRecDepth 100000 in
set_option maxHeartbeats 4000000 in
theorem fsh_b (a1 a2 b1 : Option Addr) (len1 cap1 len2 cap2 e1 g G C m : Nat) (gs : List (Nat × Nat)) (fs : List Int) (p : Int) (w wc : World) (hlen2 : len2 ≤ 1048576) (hk : Hid (Sh.kindsB fs p = true)) (hm : (m : Int) = p - fs.length + 1)
    (HS : Hid (Sat w wc b1 a2 fs p g fs.length m G C len2 gs)) (c2 c3 c9 c10 c13 c14 c15 c16 c17 c18 c19 c20 c21 c22 c23 c24 c25 c26 c27 c28 c29 c30 c31 c32 c33 c34 c35 c36 c37 c38 c39 c40 c41 c42 c43 c44 c45 c46 c47 c48 c49 c50 c51 c52 c53 c54 c55 c56 c57 c58 c59 c60 c61 c62 c63 c64 c65 c66 c67 c68 c69 c70 c71 c72 c73 c74 c75 c76 c77 c78 c79 c80 c81 c82 c83 c84 c85 c86 c87 c88 c89 c90 c91 c92 c93 c94 c95 c96 c97 c98 c99 c100 c101 c102 c103 c104 c105 c106 c107 c108 c109 c110 c111 c112 c113 c114 c115 c116 c117 c118 c119 c120 c121 c122 c123 c124 c125 c126 c127 c128 c129 c130 c131 c132 c133 c134 c135 c136 c137 c138 c139 c140 c141 c142 c143 c144 c145 c146 c147 c148 c149 c150 c151 c152 c153 c154 c155 c156 c157 c158 c159 c160 c161 c162 c163 c164 c165 c166 c167 c168 c169 c170 c171 c172 c173 c174 c175 c176 c177 c178 c179 c180 c181 c182 c183 c184 c185 c186 c187 c188 c189 c190 c191 c192 c193 c194 c195 c196 c197 c198 c199 c200 c201 c202 c203 c204 c205 c206 c207 c208 c209 c210 c211 c212 c213 c214 c215 c216 c217 c218 c219 c220 c221 c222 c223 c224 c225 c226 c227 c228 c229 c230 c231 c232 c233 c234 c235 c236 c237 c238 c239 c240 c241 c242 c243 c244 c245 c246 c247 c248 c249 c250 c251 c252 c253 : Value) :
    Code.wp Try.prog (tailAt 9 (Try.f3.body.getD .skip)) (bodyPost Try.prog Try.f3 fun e w' => e = .returned (.bool true) ∧ Below w.heap.size w w') ⟨#[.slice a1 len1 cap1, .slice a2 len2 cap2, c2, c3, .bool false, .slice b1 fs.length e1, .int .i64 p, .slice (some ⟨g, 0, none⟩) fs.length fs.length, .bool true, c9, c10, .slice (some ⟨G, 0, none⟩) m C, .bool true, c13, c14, c15, c16, c17, c18, c19, c20, c21, c22, c23, c24, c25, c26, c27, c28, c29, c30, c31, c32, c33, c34, c35, c36, c37, c38, c39, c40, c41, c42, c43, c44, c45, c46, c47, c48, c49, c50, c51, c52, c53, c54, c55, c56, c57, c58, c59, c60, c61, c62, c63, c64, c65, c66, c67, c68, c69, c70, c71, c72, c73, c74, c75, c76, c77, c78, c79, c80, c81, c82, c83, c84, c85, c86, c87, c88, c89, c90, c91, c92, c93, c94, c95, c96, c97, c98, c99, c100, c101, c102, c103, c104, c105, c106, c107, c108, c109, c110, c111, c112, c113, c114, c115, c116, c117, c118, c119, c120, c121, c122, c123, c124, c125, c126, c127, c128, c129, c130, c131, c132, c133, c134, c135, c136, c137, c138, c139, c140, c141, c142, c143, c144, c145, c146, c147, c148, c149, c150, c151, c152, c153, c154, c155, c156, c157, c158, c159, c160, c161, c162, c163, c164, c165, c166, c167, c168, c169, c170, c171, c172, c173, c174, c175, c176, c177, c178, c179, c180, c181, c182, c183, c184, c185, c186, c187, c188, c189, c190, c191, c192, c193, c194, c195, c196, c197, c198, c199, c200, c201, c202, c203, c204, c205, c206, c207, c208, c209, c210, c211, c212, c213, c214, c215, c216, c217, c218, c219, c220, c221, c222, c223, c224, c225, c226, c227, c228, c229, c230, c231, c232, c233, c234, c235, c236, c237, c238, c239, c240, c241, c242, c243, c244, c245, c246, c247, c248, c249, c250, c251, c252, c253], []⟩ wc := by
  obtain ⟨i0, hi, hz0, hz1, hz2⟩ := info_parts infI
  obtain ⟨hfl, hp0, hp1⟩ := Sh.kindsB_yes hk.out
  have HFL := hide hfl
  obtain ⟨n1, n8, _⟩ := Sh.flowB_yes hfl
  have HLN : Hid ((shareL fs p).length = fs.length) := hide (shareL_len fs p)
  obtain ⟨t, ht⟩ : ∃ t : Nat, t + 1 = m := ⟨m - 1, by omega⟩
  have HSL : Hid (Sh.share fs t = shareL fs p) := hide (shareL_of (n := fs.length) (hide rfl) (by omega))
  have hsum : (shareL fs p).sum = p := by rw [← HSL.out, Sh.share_sum (by omega)]; omega
  have HAL : Hid (Pf.allB (shareL fs p) 1 40 = true) := hide (by rw [← HSL.out]; exact share_all hfl (by omega))
  have HSHR : Hid (Sh.sharedB fs (shareL fs p) = true) := hide (by rw [← HSL.out]; exact Sh.share_shared hfl t (by omega))
  have HCALM : Hid (Sh.Calm fs (shareL fs p)) := hide (by rw [← HSL.out]; exact Sh.share_calm hfl t (by omega))
  have hpp : (p != p) = false := by simp
  have hmm : ((m : Int) != p - (fs.length : Int) + 1) = false := by simp; omega
  have w1 : wrap64 (p - (fs.length : Int)) = p - (fs.length : Int) := wrap_id _ (by omega) (by omega)
  have w2 : wrap64 (p - (fs.length : Int) + 1) = p - (fs.length : Int) + 1 := wrap_id _ (by omega) (by omega)
  have w3 : wrap64 ((m : Int) - 1) = (t : Int) := by rw [wrap_id _ (by omega) (by omega)]; omega
  have t0 : (0 : Int) ≤ (t : Int) := by omega
  have t1 : (t : Int) < (m : Int) := by omega
  have ht' : t < m := by omega
  obtain ⟨gl, cl, cellL, RL⟩ := row_at HS.out.2.2.1 ht'
  rw [HSL.out] at RL
  have HRL := hide RL
  have cellM : wc.cell? ⟨G, ((m : Int) - 1).toNat, none⟩ = some (.slice (some ⟨gl, 0, none⟩) fs.length cl) := by rw [show ((m : Int) - 1).toNat = t by omega]; exact cellL
  have m0 : (0 : Int) ≤ (m : Int) - 1 := by omega
  have m1 : (m : Int) - 1 < (m : Int) := by omega
  have HM := hide hm
  have HT := hide ht
  have HSUM := hide hsum
  clear hfl RL hm ht hsum
  conv => arg 2; whnf
  go_wp2_with fail
  refine (lsum_eqn (hide HS.out.2.1) HLN (by omega) HAL).mono ?_
  rintro e w4 ⟨rfl, hw⟩
  obtain rfl : wc = w4 := hw.symm
  rw [HSUM.out]
  go_wp2_with fail
  refine (sameI_b (c := cl) HLN.out (by omega) HRL.out HS.out.2.1).mono ?_
  rintro e w5 ⟨rfl, hb5⟩
  have S5 := hide (HS.out.step hb5)
  have hm41 : m ≤ 41 := by have := HM.out; omega
  clear HS hb5 cellL HRL cellM w1 w2 w3 hmm hpp
  go_wp2_with fail
  go_loopw [4, 16, 17] (fun s4 s _ wr => ∃ i : Nat, s4 = .bool false ∧ s = .int .i64 i ∧ 1 ≤ i ∧ i ≤ m ∧ Hid (Sat w wr b1 a2 fs p g fs.length m G C len2 gs)) (fun _ s _ _ => m - (intOf s).toNat)
  case atStart => exact ⟨1, rfl, rfl, by omega, by omega, S5⟩
  case round =>
    obtain ⟨i, rfl, rfl, hi1, him, S6⟩ := hrel
    generalize wr = W at *
    by_cases hlt : i < m
    · obtain ⟨j, hj⟩ : ∃ j : Nat, j + 1 = i := ⟨i - 1, by omega⟩
      obtain ⟨gi, ci, cI, RI⟩ := row_at S6.out.2.2.1 hlt
      obtain ⟨gj, cj, cJ, RJ⟩ := row_at S6.out.2.2.1 (i := j) (by omega)
      have HSi : Hid (∀ w1, Below W.heap.size W w1 → Calls Try.prog 13 #[.slice (some ⟨gi, 0, none⟩) fs.length ci] w1 fun e w' => e = .returned (.int .i64 ((fs.length : Int) + i)) ∧ w' = w1) := hide fun w1 hb => by
        have := lsum_eqn (c := ci) (w := w1) (hide (RI.below hb)) (hide (Sh.share_len fs i)) (by omega) (hide (share_all HFL.out (i := i) (by have := HM.out; omega)))
        rwa [Sh.share_sum (by omega)] at this
      have HSj : Hid (∀ w1, Below W.heap.size W w1 → Calls Try.prog 13 #[.slice (some ⟨gj, 0, none⟩) fs.length cj] w1 fun e w' => e = .returned (.int .i64 ((fs.length : Int) + j)) ∧ w' = w1) := hide fun w1 hb => by
        have := lsum_eqn (c := cj) (w := w1) (hide (RJ.below hb)) (hide (Sh.share_len fs j)) (by omega) (hide (share_all HFL.out (i := j) (by have := HM.out; omega)))
        rwa [Sh.share_sum (by omega)] at this
      have HMono : Hid (∀ k, (Sh.share fs j).getD k 0 ≤ (Sh.share fs i).getD k 0) := hide fun k => by rw [← hj]; exact share_step fs (by omega) j k
      obtain ⟨wj1, wj2, hx1, hx2, ii0, ii1, jj0, jj1⟩ := idx_facts (n := fs.length) (m := m) hj n8 hlt (by omega)
      have hxx : (((fs.length : Int) + i) != ((fs.length : Int) + i)) = false := by simp
      have HRI := hide RI
      have HRJ := hide RJ
      have HJ := hide hj
      clear RI RJ hj
      go_wp2_with fail
      go_region_held3 (fun w' => w'.cell? ⟨G, i, none⟩ = some (.slice (some ⟨gi, 0, none⟩) fs.length ci) ∧ w'.cell? ⟨G, j, none⟩ = some (.slice (some ⟨gj, 0, none⟩) fs.length cj) ∧ Below W.heap.size W w')
        (first | exact ⟨cI, cJ, (Below.refl _ _).drew⟩ | assumption | fail)
        (first
          | (go_at_call_of 13 (Value.slice (some ⟨gi, 0, none⟩) fs.length ci); obtain ⟨_, _, hbS⟩ := ‹_ ∧ _ ∧ _›; refine (HSi.out _ hbS).mono ?_; rintro e w3 ⟨rfl, rfl⟩)
          | (go_at_call_of 13 (Value.slice (some ⟨gj, 0, none⟩) fs.length cj); obtain ⟨_, _, hbS⟩ := ‹_ ∧ _ ∧ _›; refine (HSj.out _ hbS).mono ?_; rintro e w3 ⟨rfl, rfl⟩) | fail)
      obtain ⟨cI2, cJ2, hbE⟩ := ‹_ ∧ _ ∧ _›
      have HBE := hide hbE
      have hGW := (S6.out.2.2.1.2.2.1.lt G rfl).2
      clear HSi HSj hx1 hx2 hxx cJ2 hbE
      go_wp2_with fail
      go_loopw [4, 17, 162] (fun s4 _ s wr => ∃ k : Nat, s4 = .bool false ∧ s = .int .i64 k ∧ k ≤ fs.length ∧ Hid (Below W.heap.size W wr)) (fun _ _ s _ => fs.length - (intOf s).toNat)
      case atStart => exact ⟨0, rfl, rfl, Nat.zero_le _, HBE⟩
      case round =>
        obtain ⟨k, rfl, rfl, hk, HBK⟩ := hrel
        by_cases hlk : k < fs.length
        · have cIk := (HBK.out.cell (p := ⟨G, i, none⟩) hGW).trans cI
          have cJk := (HBK.out.cell (p := ⟨G, j, none⟩) hGW).trans cJ
          have cx := row_cell (HRI.out.below HBK.out) (k := k) (by rw [Sh.share_len]; exact hlk)
          have cy := row_cell (HRJ.out.below HBK.out) (k := k) (by rw [Sh.share_len]; exact hlk)
          have hxy : ¬ (Sh.share fs i).getD k 0 < (Sh.share fs j).getD k 0 := by have := HMono.out k; omega
          generalize (Sh.share fs i).getD k 0 = x at *
          generalize (Sh.share fs j).getD k 0 = y at *
          have kk0 : (0 : Int) ≤ (k : Int) := by omega
          have kk1 : (k : Int) < (fs.length : Int) := by omega
          have hbK := HBK.out
          go_wp2_with fail
          go_region_held3 (fun w' => w'.cell? ⟨G, i, none⟩ = some (.slice (some ⟨gi, 0, none⟩) fs.length ci) ∧ w'.cell? ⟨G, j, none⟩ = some (.slice (some ⟨gj, 0, none⟩) fs.length cj) ∧ w'.cell? ⟨gi, k, none⟩ = some (.int .i64 x) ∧ w'.cell? ⟨gj, k, none⟩ = some (.int .i64 y) ∧ Below W.heap.size W w')
            (first | exact ⟨cIk, cJk, cx, cy, hbK.drew⟩ | assumption | fail)
            (fail)
          obtain ⟨_, _, _, _, hbE⟩ := ‹_ ∧ _ ∧ _ ∧ _ ∧ _›
          have HBE2 := hide hbE
          clear hbE
          go_wp2_with fail
          go_roundw
          case rel => exact ⟨k + 1, rfl, by go_num, by omega, HBE2⟩
          case measure => simp only [intOf]; omega
        · have S7 := hide (S6.out.step HBK.out)
          go_wp2_with fail
          go_roundw
          case rel => exact ⟨i + 1, rfl, by go_num, by omega, by omega, S7⟩
          case measure => simp only [intOf]; omega
    · have E0 := hide (emptyI_row W)
      have hgl : g < W.heap.size := by
        rcases S6.out.2.1 with e | ⟨b', off', e, hb, _⟩
        · have := HLN.out; rw [e] at this; simp at this; omega
        · cases e; exact hb
      have HNW := hide (newsI_at (w := W.alloc (.cells #[] 3)) (b := g) (o := 0) (xs := shareL fs p) (fun i hi => by rw [Nat.zero_add]; exact row_cell (S6.out.2.1.alloc _) hi))
      have hn0 : ((fs.length : Int) == 0) = false := beq_eq_false_iff_ne.2 (by omega)
      have hni : ¬ (i : Int) < (m : Int) := by omega
      have HOTH := hide (fun (ys : List Int) (h1 : ys.length = fs.length) (h2 : ∀ i, i < fs.length → 1 ≤ ys.getD i 0) (h3 : ys.sum = p) => Sh.shared_of HFL.out h1 h2 (by omega))
      have HLE := hide (fun (ys : List Int) (h1 : Sh.sharedB fs ys = true) (h3 : ys.sum = p) => Sh.calm_least HSHR.out HCALM.out h1 (h3.trans HSUM.out.symm))
      have H1 : Hid (∀ i, i < fs.length → 1 ≤ (shareL fs p).getD i 0) := hide fun i hi => (Sh.sharedB_at HSHR.out hi).1
      have HC1 := hide (fun (w' : World) (ha : ARow w' b1 fs) (hb : ARow w' (some ⟨g, 0, none⟩) (shareL fs p)) => co_any (m := fs.length) (c := e1) (d := fs.length) (hide ha) (hide rfl) (hide hb) HLN)
      have HF1 := hide (fun h => cost_facts HSHR.out h)
      simp only [fb_eq] at HC1
      generalize costF fs (shareL fs p) = pp at *
      generalize costB fs (shareL fs p) = cb1 at *
      obtain ⟨p1, p2⟩ := pp
      go_wp2_with (first
        | (at_builtin; refine wpList_append_own _ rfl _ _ 23 rfl W.heap.size 3 i0 (.int .i64 0) 1 8 Try.underlying23 hi hz0 hz1 hz2 rfl (by decide) _ _ _ rfl E0.out ⟨g, 0, none⟩ fs.length fs.length (ints (shareL fs p)) rfl (by rw [ints_len, HLN.out]; simp) HNW.out (intI_cells _) (by unfold maxLen; omega) (by omega) (by simp) ?_))
      intro v' w5 own5 hg5 _
      have own5' : w5.ownsRow W.heap.size 3 1 v' fs.length (ints (shareL fs p)) := by simpa [ints] using own5
      obtain ⟨gd, cd, rfl, gd0, gd1⟩ := own_some own5' (by omega)
      have B5 := hide ((below_alloc W (.cells #[] 3)).trans (grown_below' hg5 (Nat.le_refl _) (by simp)))
      have HO5 := hide own5'
      clear own5 own5' hg5 E0 HNW
      go_wp2_with fail
      go_loopw [19, 20, 21, 22, 187] (fun _ _ _ _ s wr => ∃ (k : Nat) (ys : List Int), s = .int .i64 k ∧ k ≤ len2 ∧ ys.length = fs.length ∧ Hid (∀ i, i < fs.length → 1 ≤ ys.getD i 0) ∧ Hid (ys.sum = p) ∧ Hid (wr.ownsRow W.heap.size 3 1 (.slice (some ⟨gd, 0, none⟩) fs.length cd) fs.length (ints ys)) ∧ Hid (Below W.heap.size W wr)) (fun _ _ _ _ s _ => len2 - (intOf s).toNat)
      case atStart => exact ⟨0, shareL fs p, rfl, Nat.zero_le _, HLN.out, H1, HSUM, HO5, B5⟩
      case round =>
        obtain ⟨k, ys, rfl, hk, hyl, HY1, HYS, HO, HB⟩ := hrel
        by_cases hlt : k < len2
        · obtain ⟨bb, ob, z, rfl, hbb, hcz, z0, z1⟩ := src_at S6.out.2.2.2.1 hlt
          have cz := (HB.out.cell (p := ⟨bb, ob + k, none⟩) hbb).trans hcz
          have kk0 : (0 : Int) ≤ (k : Int) := by omega
          have kk1 : (k : Int) < (len2 : Int) := by omega
          have hz8 : z / 8 ≤ 255 := by omega
          have hz80 : 0 ≤ z / 8 := by omega
          go_upto_region 36 with fail
          have hA0 := Int.emod_nonneg (z + (k : Int)) (show (fs.length : Int) ≠ 0 by omega)
          have hA1 := Int.emod_lt_of_pos (z + (k : Int)) (show 0 < (fs.length : Int) by omega)
          have hB0 := Int.emod_nonneg (z / 8) (show (fs.length : Int) ≠ 0 by omega)
          have hB1 := Int.emod_lt_of_pos (z / 8) (show 0 < (fs.length : Int) by omega)
          obtain ⟨A, hA⟩ := Int.eq_ofNat_of_zero_le hA0
          obtain ⟨B, hBB⟩ := Int.eq_ofNat_of_zero_le hB0
          rw [hA] at hA1
          rw [hBB] at hB1
          rw [hA, hBB]
          have hAn : A < fs.length := by omega
          have hBn : B < fs.length := by omega
          have a0 : (0 : Int) ≤ (A : Int) := by omega
          have b0 : (0 : Int) ≤ (B : Int) := by omega
          obtain ⟨cA, fA, cB, fB, st⟩ := mv_own hyl hAn hBn HO.out
          have bA := Sh.sharedB_at (HOTH.out ys hyl HY1.out HYS.out) hAn
          have bB : 0 ≤ (ys.set A (ys.getD A 0 - 1)).getD B 0 ∧ (ys.set A (ys.getD A 0 - 1)).getD B 0 ≤ 40 := by
            have := Sh.sharedB_at (HOTH.out ys hyl HY1.out HYS.out) hBn
            rw [Sh.set_get _ _ _ _ (by omega)]; split <;> omega
          have HMV := hide (moved (B := B) hyl HY1.out hAn hBn)
          have HST := hide st
          have HB2 := hide ((HB.out.setCell (p := ⟨gd, A, none⟩) gd0 (.int .i64 (ys.getD A 0 - 1))).setCell (p := ⟨gd, B, none⟩) gd0 (.int .i64 ((ys.set A (ys.getD A 0 - 1)).getD B 0 + 1)))
          simp only at HMV
          generalize (ys.set A (ys.getD A 0 - 1)).set B ((ys.set A (ys.getD A 0 - 1)).getD B 0 + 1) = zs at *
          generalize (ys.set A (ys.getD A 0 - 1)).getD B 0 = yb at *
          generalize ys.getD A 0 = ya at *
          obtain ⟨bA0, bA1⟩ := bA
          obtain ⟨bB0, bB1⟩ := bB
          clear hA hBB hA0 hB0 st z0 z1 hz8 hz80 cz
          by_cases h4 : (k : Int) < 4
          · by_cases hy : (1 : Int) < ya
            · obtain ⟨m1', m2', m3'⟩ := HMV.out hy
              have HZ1 := hide m2'
              have HZS := hide (m3'.trans HYS.out)
              clear m2' m3' HMV
              go_wp2_with fail
              go_roundw
              case rel => exact ⟨k + 1, zs, by go_num, by omega, m1', HZ1, HZS, HST, HB2⟩
              case measure => simp only [intOf]; omega
            · go_wp2_with fail
              go_roundw
              case rel => exact ⟨k + 1, ys, by go_num, by omega, hyl, HY1, HYS, HO, HB⟩
              case measure => simp only [intOf]; omega
          · go_wp2_with fail
            go_roundw
            case rel => exact ⟨k + 1, ys, by go_num, by omega, hyl, HY1, HYS, HO, HB⟩
            case measure => simp only [intOf]; omega
        · have hke : k = len2 := by omega
          subst hke
          have HSY := hide (HOTH.out ys hyl HY1.out HYS.out)
          have HLT := hide (HLE.out ys HSY.out HYS.out)
          have HC2 := hide (fun (w' : World) (ha : ARow w' b1 fs) (hb : ARow w' (some ⟨gd, 0, none⟩) ys) => co_any (m := fs.length) (c := e1) (d := cd) (hide ha) (hide rfl) (hide hb) (hide hyl))
          have HF2 := hide (fun h => cost_facts HSY.out h)
          simp only [fb_eq] at HC2
          generalize costF fs ys = qq at *
          generalize costB fs ys = cb2 at *
          obtain ⟨q1, q2⟩ := qq
          have S7 := hide (S6.out.step HB.out)
          have R7 := hide (arow_owns hyl.symm HO.out)
          clear HOTH HLE
          go_wp2_with fail
          refine (HC1.out _ S7.out.1 S7.out.2.1).mono ?_
          rintro e w8 ⟨rfl, hb8⟩
          have S8 := hide (S7.out.step hb8)
          have R8 := hide (R7.out.below hb8)
          clear S7 R7 hb8 HC1
          go_wp2_with fail
          have S8a := hide (S8.out.step (below_alloc w8 (.cells #[.int .i64 p1, .int .i64 p2] 35)))
          have R8a := hide (R8.out.alloc (.cells #[.int .i64 p1, .int .i64 p2] 35))
          have X8 := hide (PBox.new w8 (.int .i64 p1) (.int .i64 p2) 35)
          clear S8 R8
          generalize w8.alloc (.cells #[.int .i64 p1, .int .i64 p2] 35) = W8 at *
          generalize w8.heap.size = V8 at *
          refine (HC2.out _ S8a.out.1 R8a.out).mono ?_
          rintro e w9 ⟨rfl, hb9⟩
          have B9 := hide (S8a.out.step hb9).2.2.2.2
          obtain ⟨xa, xb, xl⟩ := X8.out.below hb9
          clear S8a R8a X8 hb9 HC2
          have BA := hide (B9.out.alloc B9.out.size (.cells #[.int .i64 q1, .int .i64 q2] 35))
          cases cb1
          · go_wp2_with fail
            go_ret
            exact ⟨rfl, BA.out⟩
          · cases cb2
            · go_wp2_with fail
              go_ret
              exact ⟨rfl, BA.out⟩
            · obtain ⟨i1, g1⟩ := HF1.out (by simp)
              obtain ⟨i2, g2⟩ := HF2.out (by simp)
              have hless := Sh.is_less g2 g1 i2 i1
              have hlf : Fr.lessB q1 q2 p1 p2 = false := by
                have e : Sh.less (q1, q2) (p1, p2) = Fr.lessB q1 q2 p1 p2 := rfl
                rw [← e, hless]
                have := HLT.out
                simp only [decide_eq_false_iff_not]; omega
              have HL := hide (fun (w' : World) => less_yes q1 q2 p1 p2 w' g2 g1)
              rw [hlf] at HL
              clear i1 i2 g1 g2 hless hlf HF1 HF2
              go_wp2_with fail
              refine (HL.out _).mono ?_
              rintro e w10 ⟨rfl, hb10⟩
              have BF := hide (BA.out.trans (hb10.mono (by simp; have := B9.out.size; omega)))
              go_wp2_with fail
              go_ret
              exact ⟨rfl, BF.out⟩
end Go.Proofs.Ytljccbnkibfimaa
