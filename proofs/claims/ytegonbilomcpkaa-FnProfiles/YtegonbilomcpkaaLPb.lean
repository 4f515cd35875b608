/-
  FnProfiles: the second part of the law's walk: sums, and an index.
-/
import Derived.Test.YtegonbilomcpkaaRw
import Derived.Test.YtegonbilomcpkaaId
import Derived.Deep.DeepCutAuto
import Derived.Deep.QuietTactic
import Derived.BigQuiet
namespace Go.Proofs.Ytegonbilomcpkaa
open Go.RowKit

theorem ix_cross {ps fs : List Int} {g : Int} (h : idxB ps fs g = true) : 0 ≤ g ∧ g < (ps.length : Int) ∧ g < (fs.length : Int) ∧ ixN ps fs g * ps.getD g.toNat 0 = fs.getD g.toNat 0 * ixD ps fs g ∧ (-10000000000000 ≤ ixN ps fs g * ps.getD g.toNat 0 ∧ ixN ps fs g * ps.getD g.toNat 0 ≤ 10000000000000) := by
  have h' := h
  simp only [idxB, Bool.and_eq_true] at h'
  obtain ⟨hg, hi, hz⟩ := h'
  have hi := Pf.inB_yes hi
  obtain ⟨k, rfl⟩ : ∃ k : Nat, g = (k : Int) := ⟨g.toNat, by omega⟩
  have hk : k < ps.length := by omega
  have hl := Pf.goodP_len hg
  have hb := Pf.inB_yes (Pf.allB_get (Pf.goodP_picks hg) hk)
  have hf := Pf.inB_yes (Pf.allB_get (Pf.goodP_flow hg) (i := k) (by omega))
  simp only [Int.toNat_natCast] at hz ⊢
  have e : ps.getD k 0 ≠ 0 := by simpa using hz
  simp only [ixN, ixD, h, if_true, Int.toNat_natCast]
  have hx := (mk_cross (n := fs.getD k 0) (d := ps.getD k 0) (by omega)).1
  refine ⟨by omega, by omega, by omega, hx, ?_⟩
  have ha := Fr.mkN_abs (fs.getD k 0) (ps.getD k 0)
  have hb2 := Int.natAbs_mul (Fr.mkN (fs.getD k 0) (ps.getD k 0)) (ps.getD k 0)
  have h3 : (Fr.mkN (fs.getD k 0) (ps.getD k 0)).natAbs * (ps.getD k 0).natAbs ≤ 10000000 * 10000 := Nat.mul_le_mul (by omega) (by omega)
  generalize Fr.mkN (fs.getD k 0) (ps.getD k 0) * ps.getD k 0 = Z at *
  omega
theorem ap_le (pa fa pb fb : List Int) (h : pa.length ≤ 1000) : (addP pa fa pb fb).length ≤ 1000 ∧ (addFl pa fa pb fb).length ≤ 1000 := by
  rw [addP_len, addFl_len]
  unfold addN
  split <;> omega
theorem box3_call {W w1 w2 : World} {A B C : Nat} {v0 v1 v2 v3 v4 v5 : Value} (hA : A < W.heap.size) (hB : B < W.heap.size) (hC : C < W.heap.size)
    (s : w1.cell? ⟨A, 0, none⟩ = some v0 ∧ w1.cell? ⟨A, 1, none⟩ = some v1 ∧ w1.cell? ⟨B, 0, none⟩ = some v2 ∧ w1.cell? ⟨B, 1, none⟩ = some v3 ∧ w1.cell? ⟨C, 0, none⟩ = some v4 ∧ w1.cell? ⟨C, 1, none⟩ = some v5 ∧ Below W.heap.size W w1 ∧ W.heap.size ≤ w1.heap.size) (h : Below w1.heap.size w1 w2) :
    w2.cell? ⟨A, 0, none⟩ = some v0 ∧ w2.cell? ⟨A, 1, none⟩ = some v1 ∧ w2.cell? ⟨B, 0, none⟩ = some v2 ∧ w2.cell? ⟨B, 1, none⟩ = some v3 ∧ w2.cell? ⟨C, 0, none⟩ = some v4 ∧ w2.cell? ⟨C, 1, none⟩ = some v5 ∧ Below W.heap.size W w2 ∧ W.heap.size ≤ w2.heap.size := by
  obtain ⟨s0, s1, s2, s3, s4, s5, s6, s7⟩ := s
  refine ⟨?_, ?_, ?_, ?_, ?_, ?_, s6.trans (h.mono s7), Nat.le_trans s7 h.size⟩
  · exact (h.cell (p := ⟨A, 0, none⟩) (show A < _ by omega)).trans s0
  · exact (h.cell (p := ⟨A, 1, none⟩) (show A < _ by omega)).trans s1
  · exact (h.cell (p := ⟨B, 0, none⟩) (show B < _ by omega)).trans s2
  · exact (h.cell (p := ⟨B, 1, none⟩) (show B < _ by omega)).trans s3
  · exact (h.cell (p := ⟨C, 0, none⟩) (show C < _ by omega)).trans s4
  · exact (h.cell (p := ⟨C, 1, none⟩) (show C < _ by omega)).trans s5
def tailAt : Nat → Code → Code
  | 0, c => c
  | n + 1, .seq _ b => tailAt n b
  | _ + 1, c => c
set_option maxRecDepth 100000 in
set_option maxHeartbeats 8000000 in
theorem lPr_b (a1 a2 : Option Addr) (len1 cap1 len2 cap2 : Nat) (w wd : World) (hs2 : Hid (Src w a2 len2)) (HB : Hid (Below w.heap.size w wd)) (c2 c3 c5 c6 c7 c8 c9 c10 c11 c12 c13 c14 c15 c16 c17 c18 c19 c20 c21 c22 c23 c24 c25 c26 c27 c28 c29 c30 c31 c32 c33 c34 c35 c36 c37 c38 c39 c40 c41 c42 c43 c44 c45 c46 c47 c48 c49 c50 c51 c52 c53 c54 c55 c56 c57 c58 c59 c60 c61 c62 c63 c64 c65 c66 c67 c68 c69 c70 c71 c72 c73 c74 c75 c76 c77 c78 c79 c80 c81 c82 c83 c84 c85 c86 c87 c88 c89 c90 c91 c92 c93 c94 c95 c96 c97 c98 c99 c100 c101 c102 c103 c104 c105 c106 c107 c108 c109 c110 c111 c112 c113 c114 c115 c116 c117 c118 c119 c120 c121 c122 c123 c124 c125 c126 c127 c128 c129 c130 c131 c132 c133 c134 c135 c136 c137 c138 c139 c140 c141 c142 c143 c144 c145 c146 c147 c148 c149 c150 c151 c152 c153 c154 c155 c156 c157 c158 c159 c160 c161 c162 c163 c164 c165 c166 c167 c168 c169 c170 c171 c172 c173 c174 c175 c176 c177 c178 c179 c180 c181 c182 c183 c184 c185 c186 c187 c188 c189 c190 c191 c192 c193 c194 c195 c196 c197 c198 c199 c200 c201 c202 c203 c204 c205 c206 c207 c208 c209 c210 c211 c212 c213 c214 c215 c216 c217 c218 c219 c220 c221 c222 c223 c224 c225 c226 c227 c228 c229 c230 c231 c232 c233 c234 c235 c236 c237 c238 c239 c240 c241 : Value) :
    Code.wp Try.prog (tailAt 7 (Try.f3.body.getD .skip)) (bodyPost Try.prog Try.f3 fun e w' => e = .returned (.bool true) ∧ Below w.heap.size w w') ⟨#[.slice a1 len1 cap1, .slice a2 len2 cap2, c2, c3, .bool false, c5, c6, c7, c8, c9, c10, c11, c12, c13, c14, c15, c16, c17, c18, c19, c20, c21, c22, c23, c24, c25, c26, c27, c28, c29, c30, c31, c32, c33, c34, c35, c36, c37, c38, c39, c40, c41, c42, c43, c44, c45, c46, c47, c48, c49, c50, c51, c52, c53, c54, c55, c56, c57, c58, c59, c60, c61, c62, c63, c64, c65, c66, c67, c68, c69, c70, c71, c72, c73, c74, c75, c76, c77, c78, c79, c80, c81, c82, c83, c84, c85, c86, c87, c88, c89, c90, c91, c92, c93, c94, c95, c96, c97, c98, c99, c100, c101, c102, c103, c104, c105, c106, c107, c108, c109, c110, c111, c112, c113, c114, c115, c116, c117, c118, c119, c120, c121, c122, c123, c124, c125, c126, c127, c128, c129, c130, c131, c132, c133, c134, c135, c136, c137, c138, c139, c140, c141, c142, c143, c144, c145, c146, c147, c148, c149, c150, c151, c152, c153, c154, c155, c156, c157, c158, c159, c160, c161, c162, c163, c164, c165, c166, c167, c168, c169, c170, c171, c172, c173, c174, c175, c176, c177, c178, c179, c180, c181, c182, c183, c184, c185, c186, c187, c188, c189, c190, c191, c192, c193, c194, c195, c196, c197, c198, c199, c200, c201, c202, c203, c204, c205, c206, c207, c208, c209, c210, c211, c212, c213, c214, c215, c216, c217, c218, c219, c220, c221, c222, c223, c224, c225, c226, c227, c228, c229, c230, c231, c232, c233, c234, c235, c236, c237, c238, c239, c240, c241], []⟩ wd := by
  conv => arg 2; whnf
  go_wp2_with fail
  refine (drawAP_any (hide (hs2.out.below HB.out))).mono ?_
  rintro e x1 ⟨xa, xc, xb, xd, ya, yc, yb, yd, px, fx, py, fy, rfl, l1, l2, l3, l4, r1, r2, r3, r4, hbx⟩
  have hb0 := HB.out.trans (hbx.mono HB.out.size)
  have bA := below_alloc x1 (.cells #[.slice xa px.length xc, .slice xb fx.length xd] 29)
  have bB := below_alloc (x1.alloc (.cells #[.slice xa px.length xc, .slice xb fx.length xd] 29)) (.cells #[.slice ya py.length yc, .slice yb fy.length yd] 29)
  have PX := hide ((PBox.new x1 (.slice xa px.length xc) (.slice xb fx.length xd) 29).below bB)
  have PY := hide (PBox.new (x1.alloc (.cells #[.slice xa px.length xc, .slice xb fx.length xd] 29)) (.slice ya py.length yc) (.slice yb fy.length yd) 29)
  have K1 : Hid (Rws w _ [(xa, px), (xb, fx), (ya, py), (yb, fy)]) := hide (Rws.step (Rws.step (w0 := w) (w := x1) (L := [(xa, px), (xb, fx), (ya, py), (yb, fy)]) ⟨fun a xs hm => by
    simp at hm
    rcases hm with ⟨rfl, rfl⟩ | ⟨rfl, rfl⟩ | ⟨rfl, rfl⟩ | ⟨rfl, rfl⟩
    · exact r1
    · exact r2
    · exact r3
    · exact r4, hb0⟩ bA) bB)
  have e1 : (x1.alloc (.cells #[.slice xa px.length xc, .slice xb fx.length xd] 29)).heap.size = x1.heap.size + 1 := by simp
  rw [e1] at PY
  have HA := hide (fun (w' : World) (k : Rws w w' [(xa, px), (xb, fx), (ya, py), (yb, fy)]) => ap_q (c := xc) (d := xd) (c' := yc) (d' := yd) (k.1 xa px (by simp)) (k.1 xb fx (by simp)) (k.1 ya py (by simp)) (k.1 yb fy (by simp)))
  have HS := hide (fun (w' : World) (ha : ARow w' xa px) (hb : ARow w' xb fx) (hc : ARow w' ya py) (hd : ARow w' yb fy) => sap_q (c := xc) (d := xd) (c' := yc) (d' := yd) ha hb hc hd)
  have HG := hide (fun (w' : World) (ha : ARow w' xa px) (hb : ARow w' xb fx) => gp_any (c := xc) (d := xd) ha hb)
  have SG := hide (fun (w' : World) (ha : ARow w' xa px) (hb : ARow w' xb fx) => sgp_any (c := xc) (d := xd) ha hb)
  have n1 : (addP px fx py fy).length ≤ 1000 := ap_le _ _ _ _ (by omega) |>.1
  have n2 : (addFl px fx py fy).length ≤ 1000 := ap_le _ _ _ _ (by omega) |>.2
  obtain ⟨okx, hokx⟩ : ∃ b, b = Pf.goodP px fx := ⟨_, rfl⟩
  obtain ⟨oks, hoks⟩ : ∃ b, b = addB px fx py fy := ⟨_, rfl⟩
  obtain ⟨PS, hPS⟩ : ∃ b, b = addP px fx py fy := ⟨_, rfl⟩
  obtain ⟨FS, hFS⟩ : ∃ b, b = addFl px fx py fy := ⟨_, rfl⟩
  rw [← hokx] at HG SG
  rw [← hoks, ← hPS, ← hFS] at HA HS
  rw [← hPS] at n1
  rw [← hFS] at n2
  have hob : (oks != oks) = false := by simp
  have hob2 : (okx != okx) = false := by simp
  clear hbx HB bA bB r1 r2 r3 r4 hb0 e1 hokx hoks hPS hFS
  go_upto_region 22 with fail
  generalize (x1.alloc (.cells #[.slice xa px.length xc, .slice xb fx.length xd] 29)).alloc (.cells #[.slice ya py.length yc, .slice yb fy.length yd] 29) = W1 at *
  obtain ⟨BX, hBX⟩ : ∃ b, b = x1.heap.size := ⟨_, rfl⟩
  obtain ⟨BY, hBY⟩ : ∃ b, b = x1.heap.size + 1 := ⟨_, rfl⟩
  rw [← hBY] at PY
  rw [← hBX] at PX
  rw [← hBY, ← hBX]
  clear hBX hBY
  obtain ⟨u0, u1, u2⟩ := PX.out
  obtain ⟨v0, v1, v2⟩ := PY.out
  go_wp2_with fail
  refine (HA.out _ K1.out).mono ?_
  rintro e x2 ⟨sa, sc, sb, sd, rfl, q1, q2, hb⟩
  have bn := below_alloc x2 (.cells #[.slice sa PS.length sc, .slice sb FS.length sd] 29)
  have K2 := hide ((((K1.out.step hb).add q1).add q2).step bn)
  have PX2 := hide ((PX.out.below hb).below bn)
  have PY2 := hide ((PY.out.below hb).below bn)
  have PS2 := hide (PBox.new x2 (.slice sa PS.length sc) (.slice sb FS.length sd) 29)
  clear K1 PX PY u0 u1 u2 v0 v1 v2 hb bn q1 q2
  go_upto_region 23 with fail
  generalize x2.alloc (.cells #[.slice sa PS.length sc, .slice sb FS.length sd] 29) = W2 at *
  obtain ⟨BS, hBS⟩ : ∃ b, b = x2.heap.size := ⟨_, rfl⟩
  rw [← hBS] at PS2
  rw [← hBS]
  clear hBS
  obtain ⟨u0, u1, u2⟩ := PX2.out
  obtain ⟨v0, v1, v2⟩ := PY2.out
  go_wp2_with fail
  refine (HS.out _ (K2.out.1 xa px (by simp)) (K2.out.1 xb fx (by simp)) (K2.out.1 ya py (by simp)) (K2.out.1 yb fy (by simp))).mono ?_
  rintro e x3 ⟨ta, tc, tb, td, rfl, q1, q2, hb⟩
  have bn := below_alloc x3 (.cells #[.slice ta PS.length tc, .slice tb FS.length td] 29)
  have K3 := hide ((((K2.out.step hb).add q1).add q2).step bn)
  obtain ⟨u0, u1, u2⟩ := (PX2.out.below hb).below bn
  obtain ⟨s0, s1, s2⟩ := (PS2.out.below hb).below bn
  obtain ⟨t0, t1, t2⟩ := PBox.new x3 (.slice ta PS.length tc) (.slice tb FS.length td) 29
  clear K2 PX2 PY2 PS2 hb bn q1 q2 HA HS
  go_upto_region 24 with fail
  generalize x3.alloc (.cells #[.slice ta PS.length tc, .slice tb FS.length td] 29) = W3 at *
  obtain ⟨BT, hBT⟩ : ∃ b, b = x3.heap.size := ⟨_, rfl⟩
  rw [← hBT] at t0 t1 t2
  rw [← hBT]
  clear hBT
  have HSP := hide (fun (w' : World) (hb : Below W3.heap.size W3 w') => sp_b (c := sc) (d := sd) (c' := tc) (d' := td) rfl rfl n1 n2 ((K3.out.step hb).1 sa PS (by simp)) ((K3.out.step hb).1 sb FS (by simp)) ((K3.out.step hb).1 ta PS (by simp)) ((K3.out.step hb).1 tb FS (by simp)))
  have HG3 := hide (fun (w' : World) (hb : Below W3.heap.size W3 w') => HG.out w' ((K3.out.step hb).1 xa px (by simp)) ((K3.out.step hb).1 xb fx (by simp)))
  have SG3 := hide (fun (w' : World) (hb : Below W3.heap.size W3 w') => SG.out w' ((K3.out.step hb).1 xa px (by simp)) ((K3.out.step hb).1 xb fx (by simp)))
  have HB3 := hide K3.out.2
  clear K3 HG SG
  generalize PS.length = nS at *
  generalize FS.length = mS at *
  generalize px.length = nX at *
  generalize fx.length = mX at *
  go_region_held3 (fun w' => w'.cell? ⟨BX, 0, none⟩ = some (.slice xa nX xc) ∧ w'.cell? ⟨BX, 1, none⟩ = some (.slice xb mX xd) ∧ w'.cell? ⟨BS, 0, none⟩ = some (.slice sa nS sc) ∧ w'.cell? ⟨BS, 1, none⟩ = some (.slice sb mS sd) ∧ w'.cell? ⟨BT, 0, none⟩ = some (.slice ta nS tc) ∧ w'.cell? ⟨BT, 1, none⟩ = some (.slice tb mS td) ∧ Below W3.heap.size W3 w' ∧ W3.heap.size ≤ w'.heap.size)
    (first | exact ⟨u0, u1, s0, s1, t0, t1, (Below.refl _ _).drew, Nat.le_refl _⟩ | assumption | exact box3_call u2 s2 t2 ‹_› (by assumption) | fail)
    (first
    | (go_at_call 8; obtain ⟨_, _, _, _, _, _, hbS, _⟩ := ‹_ ∧ _ ∧ _ ∧ _ ∧ _ ∧ _ ∧ _ ∧ _›; refine (HSP.out _ hbS).mono ?_; rintro e w3 ⟨rfl, hb3⟩)
    | (go_at_call 13; obtain ⟨_, _, _, _, _, _, hbS, _⟩ := ‹_ ∧ _ ∧ _ ∧ _ ∧ _ ∧ _ ∧ _ ∧ _›; refine (HG3.out _ hbS).mono ?_; rintro e w3 ⟨rfl, hb3⟩)
    | (go_at_call 17; obtain ⟨_, _, _, _, _, _, hbS, _⟩ := ‹_ ∧ _ ∧ _ ∧ _ ∧ _ ∧ _ ∧ _ ∧ _›; refine (SG3.out _ hbS).mono ?_; rintro e w3 ⟨rfl, hb3⟩)
    | fail)
  obtain ⟨_, _, _, _, _, _, hbE, _⟩ := ‹_ ∧ _ ∧ _ ∧ _ ∧ _ ∧ _ ∧ _ ∧ _›
  have HB4 := hide (HB3.out.trans (hbE.mono HB3.out.size))
  clear HSP HG3 SG3 HB3 hbE u0 u1 u2 s0 s1 s2 t0 t1 t2
  go_wp2_with fail
  refine (drawIX_any (hide (hs2.out.below HB4.out))).mono ?_
  rintro e x5 ⟨za, zb, zc, zd, ps, fs, g, rfl, l5, l6, o1, o2, hb⟩
  have bn := below_alloc x5 (.cells #[.slice za ps.length zc, .slice zb fs.length zd] 29)
  have K5 : Hid (Rws w _ [(za, ps), (zb, fs)]) := hide (Rws.step (w0 := w) (w := x5) (L := [(za, ps), (zb, fs)]) ⟨fun a xs hm => by
    simp at hm
    rcases hm with ⟨rfl, rfl⟩ | ⟨rfl, rfl⟩
    · exact own_arow rfl o1
    · exact own_arow rfl o2, HB4.out.trans (hb.mono HB4.out.size)⟩ bn)
  have PZ := hide (PBox.new x5 (.slice za ps.length zc) (.slice zb fs.length zd) 29)
  have HI := hide (fun (w' : World) (k : Rws w w' [(za, ps), (zb, fs)]) => ix_q (c := zc) (d := zd) (g := g) (k.1 za ps (by simp)) (k.1 zb fs (by simp)))
  have SI := hide (fun (w' : World) (k : Rws w w' [(za, ps), (zb, fs)]) => six_q (c := zc) (d := zd) (g := g) (k.1 za ps (by simp)) (k.1 zb fs (by simp)))
  have HX := hide (@ix_cross ps fs g)
  obtain ⟨ok, hok⟩ : ∃ b, b = idxB ps fs g := ⟨_, rfl⟩
  obtain ⟨N, hN⟩ : ∃ b, b = ixN ps fs g := ⟨_, rfl⟩
  obtain ⟨D, hD⟩ : ∃ b, b = ixD ps fs g := ⟨_, rfl⟩
  rw [← hok, ← hN, ← hD] at HI SI HX
  have hob : (ok == ok) = true := by simp
  clear hob2 hok hN hD hb bn o1 o2 HB4
  go_upto_region 27 with fail
  generalize x5.alloc (.cells #[.slice za ps.length zc, .slice zb fs.length zd] 29) = W5 at *
  obtain ⟨BZ, hBZ⟩ : ∃ b, b = x5.heap.size := ⟨_, rfl⟩
  rw [← hBZ] at PZ
  rw [← hBZ]
  clear hBZ
  obtain ⟨u0, u1, u2⟩ := PZ.out
  go_wp2_with fail
  refine (HI.out _ K5.out).mono ?_
  rintro e x6 ⟨rfl, hb⟩
  have bn := below_alloc x6 (.cells #[.int .i64 N, .int .i64 D] 45)
  have K6 := hide ((K5.out.step hb).step bn)
  have PZ6 := hide ((PZ.out.below hb).below bn)
  have PF6 := hide (PBox.new x6 (.int .i64 N) (.int .i64 D) 45)
  clear K5 PZ hb bn u0 u1 u2
  go_upto_region 28 with fail
  generalize x6.alloc (.cells #[.int .i64 N, .int .i64 D] 45) = W6 at *
  obtain ⟨BF, hBF⟩ : ∃ b, b = x6.heap.size := ⟨_, rfl⟩
  rw [← hBF] at PF6
  rw [← hBF]
  clear hBF
  obtain ⟨u0, u1, u2⟩ := PZ6.out
  go_wp2_with fail
  refine (SI.out _ K6.out).mono ?_
  rintro e x7 ⟨rfl, hb⟩
  have bn := below_alloc x7 (.cells #[.int .i64 N, .int .i64 D] 45)
  have K7 := hide ((K6.out.step hb).step bn)
  obtain ⟨z0, z1, z2⟩ := (PZ6.out.below hb).below bn
  obtain ⟨f0, f1, f2⟩ := (PF6.out.below hb).below bn
  obtain ⟨i0, i1, i2⟩ := PBox.new x7 (.int .i64 N) (.int .i64 D) 45
  clear K6 PZ6 PF6 hb bn u0 u1 u2 HI SI
  go_upto_region 29 with fail
  generalize x7.alloc (.cells #[.int .i64 N, .int .i64 D] 45) = W7 at *
  obtain ⟨BI, hBI⟩ : ∃ b, b = x7.heap.size := ⟨_, rfl⟩
  rw [← hBI] at i0 i1 i2
  rw [← hBI]
  clear hBI
  have eN : (N == N) = true := by simp
  have eD : (D == D) = true := by simp
  cases ok
  · clear HX
    go_quiet (fail)
    go_wp2_with fail
    go_ret
    exact ⟨rfl, below_drewN K7.out.2 _⟩
  · obtain ⟨g0, g1, g2, gx, gb0, gb1⟩ := HX.out rfl
    obtain ⟨k, rfl⟩ : ∃ k : Nat, g = (k : Int) := ⟨g.toNat, by omega⟩
    simp only [Int.toNat_natCast] at gx gb0 gb1
    obtain ⟨bp, op, rfl⟩ := arow_some (K7.out.1 za ps (by simp)) (by omega)
    obtain ⟨bf, of', rfl⟩ := arow_some (K7.out.1 zb fs (by simp)) (by omega)
    have c1 := arow_cell (K7.out.1 (some ⟨bp, op, none⟩) ps (by simp)) (i := k) (by omega)
    have c2 := arow_cell (K7.out.1 (some ⟨bf, of', none⟩) fs (by simp)) (i := k) (by omega)
    obtain ⟨P, hP⟩ : ∃ b, b = ps.getD k 0 := ⟨_, rfl⟩
    obtain ⟨F, hF⟩ : ∃ b, b = fs.getD k 0 := ⟨_, rfl⟩
    rw [← hP] at c1
    rw [← hF] at c2
    rw [← hP] at gx gb0 gb1
    rw [← hF] at gx
    have m1 : wrap64 (N * P) = N * P := wrap_id' _ (by omega) (by omega)
    have m2 : wrap64 (F * D) = N * P := by rw [← gx]; exact m1
    have eX : (N * P == N * P) = true := by simp
    have HBF := hide K7.out.2
    clear hP hF gx gb0 gb1 HX K7
    generalize ps.length = nP at *
    generalize fs.length = nF at *
    go_quiet (fail)
    go_wp2_with fail
    go_ret
    exact ⟨rfl, below_drewN HBF.out _⟩
end Go.Proofs.Ytegonbilomcpkaa
