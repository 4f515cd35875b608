/-
  FnProfiles: the law's own walk.
-/
import Derived.Test.YtegonbilomcpkaaLPb
import Derived.Test.YtegonbilomcpkaaPn
import Derived.Lib.AppendZeros
namespace Go.Proofs.Ytegonbilomcpkaa
open Go.RowKit

/-- The lines turned so far. -/
structure TL (w wr : World) (ls : List (Int × Int)) (v : Value) (j : Nat) : Prop where
  own : wr.ownsRow w.heap.size 35 2 v j (pc lf lg (ls.reverse.take j))
  bel : Below w.heap.size w wr
theorem TL.step {w wr : World} {ls : List (Int × Int)} {v : Value} {j K : Nat} (h : TL w wr ls v j) (hj : j < ls.length) (hl : ls.length ≤ 1000) (hK : ls.length - 1 - j = K) :
    ∃ v' w', (∀ ty, (Builtin.append_ #[24, 24] ty #[v, .slice (some ⟨wr.heap.size, 0, none⟩) 1 1]).run Try.prog (wr.alloc (.cells #[.int .i64 (ls.getD K (0, 0)).1, .int .i64 (ls.getD K (0, 0)).2] 35)) = .ok v' w') ∧ TL w w' ls v' (j + 1) := by
  obtain ⟨v', w', hr, own, hg⟩ := push_line (x := (ls.getD K (0, 0)).1) (y := (ls.getD K (0, 0)).2) h.own (by omega) h.bel.size
  refine ⟨v', w', hr, ?_, ?_⟩
  · have e : ls.reverse.take (j + 1) = ls.reverse.take j ++ [ls.getD K (0, 0)] := by
      rw [List.take_add_one, List.getElem?_reverse hj, hK, List.getElem?_eq_getElem (by omega)]
      simp [List.getD_eq_getElem?_getD, show K < ls.length by omega]
    rw [e, pc_snoc]
    exact own
  · have hs := h.bel.size
    refine ⟨hg.os.trans h.bel.os, hg.tape.trans h.bel.tape, hg.output.trans h.bel.output, Nat.le_trans hs hg.size, fun b hb => ?_⟩
    refine (hg.block b (Nat.lt_of_lt_of_le hb hs) fun e => ?_).trans (h.bel.block b hb)
    rcases h.own.2 with ⟨rfl, _⟩ | ⟨g, cap, cur, rfl, hbase, _⟩
    · simp [Value.ownBlock] at e
    · simp [Value.ownBlock] at e; omega
/-- Goods and lines that lie in memory while a law goes on. -/
def GL (w0 w : World) (ga la : Option Addr) (gs : List Gd) (ls : List (Int × Int)) (L : List (Option Addr × List Int)) : Prop := GRow w ga gs ∧ LRow w la ls ∧ Rws w0 w L
theorem GL.step {w0 w w' : World} {ga la : Option Addr} {gs : List Gd} {ls : List (Int × Int)} {L : List (Option Addr × List Int)} (h : GL w0 w ga la gs ls L) (hb : Below w.heap.size w w') : GL w0 w' ga la gs ls L := ⟨h.1.below hb, h.2.1.below hb, h.2.2.step hb⟩
theorem GL.add {w0 w : World} {ga la : Option Addr} {gs : List Gd} {ls : List (Int × Int)} {L : List (Option Addr × List Int)} {a : Option Addr} {xs : List Int} (h : GL w0 w ga la gs ls L) (r : ARow w a xs) : GL w0 w ga la gs ls ((a, xs) :: L) := ⟨h.1, h.2.1, h.2.2.add r⟩
theorem LRow.drop_map {w : World} {a : Option Addr} {ls : List (Int × Int)} (h : LRow w a ls) (k : Nat) : LRow w (Option.map (fun x => x.add (k * 2)) a) (ls.drop k) := by
  rcases h with h | ⟨b, o, rfl, h⟩
  · exact Or.inl (by rw [h]; simp)
  · have e : Option.map (fun x : Addr => x.add (k * 2)) (some ⟨b, o, none⟩) = some ⟨b, o + k * 2, none⟩ := by simp [add_plainI]
    rw [e]
    exact LRow.drop (Or.inr ⟨b, o, rfl, h⟩) k
set_option maxRecDepth 100000 in
set_option maxHeartbeats 8000000 in
theorem lPr_main {a1 a2 : Option Addr} {len1 cap1 len2 cap2 : Nat} {w : World} (hs1 : Hid (Src w a1 len1)) (hs2 : Hid (Src w a2 len2)) (h1 : ¬ (1048576 : Int) < wrap64 ((len1 : Int) + (len2 : Int))) (hl2 : len2 ≤ 1048576) :
    Calls Try.prog 3 #[.slice a1 len1 cap1, .slice a2 len2 cap2] w fun e w' => e = .returned (.bool true) ∧ Below w.heap.size w w' := by
  go_enter Try.func3, Try.ntmps3
  go_wp2_with fail
  refine (drawPO_any hs1).mono ?_
  rintro e x1 ⟨ga, gc, la, lc, gs, ls, n, m, rfl, hn, hm, n13, m82, ngc, mlc, hsh, hg, hl, hb⟩
  have K1 : Hid (GL w x1 ga la gs ls []) := hide ⟨hg, hl, fun a xs hm => by simp at hm, hb⟩
  have HP := hide (fun (w' : World) (a' : Option Addr) (n' c' : Nat) (l : List (Int × Int)) (h : GRow w' ga gs) (hn' : l.length = n') (h' : LRow w' a' l) => po_q (c' := c') hn ngc hsh h hn' h')
  have HSP := hide (fun (w' : World) (h : GRow w' ga gs) (h' : LRow w' la ls) => spo_q (c' := lc) hn (by omega) ngc hsh h hm h')
  have HG := hide (fun (w' : World) (h : GRow w' ga gs) => gg_any (c := gc) hn ngc hsh h)
  have SG := hide (fun (w' : World) (h : GRow w' ga gs) => sgg_any (c := gc) hn (by omega) ngc hsh h)
  obtain ⟨p13, pf⟩ := pr_len gs ls
  have HF := hide (@pr_facts gs ls)
  have HM := hide hm
  obtain ⟨ok, hok⟩ : ∃ b, b = prB gs ls := ⟨_, rfl⟩
  obtain ⟨P, hP⟩ : ∃ b, b = prP gs ls := ⟨_, rfl⟩
  obtain ⟨F, hF⟩ : ∃ b, b = prF gs ls := ⟨_, rfl⟩
  obtain ⟨okg, hokg⟩ : ∃ b, b = goodsB gs := ⟨_, rfl⟩
  have HP0 := hide (fun (w' : World) (h : GRow w' ga gs) (h' : LRow w' la ls) => HP.out w' la m lc ls h hm h')
  rw [← hok, ← hP, ← hF] at HSP HP0
  rw [← hP] at p13 pf
  rw [← hF] at pf
  rw [← hokg] at HG SG
  rw [← hok, ← hP, ← hF] at HF
  have f13 : F.length ≤ 13 := by omega
  have hob : (ok != ok) = false := by simp
  have hob2 : (okg != okg) = false := by simp
  clear hn hm hg hl hb hok hP hF hokg pf
  go_wp2_with fail
  refine (HP0.out _ K1.out.1 K1.out.2.1).mono ?_
  rintro e x2 ⟨pa, pc', pb, pd, rfl, q1, q2, hb⟩
  have bn := below_alloc x2 (.cells #[.slice pa P.length pc', .slice pb F.length pd] 29)
  have K2 := hide ((((K1.out.step hb).add q1).add q2).step bn)
  have PP2 := hide (PBox.new x2 (.slice pa P.length pc') (.slice pb F.length pd) 29)
  clear K1 hb bn q1 q2 HP0
  go_upto_region 5 with fail
  generalize x2.alloc (.cells #[.slice pa P.length pc', .slice pb F.length pd] 29) = W2 at *
  obtain ⟨BP, hBP⟩ : ∃ b, b = x2.heap.size := ⟨_, rfl⟩
  rw [← hBP] at PP2
  rw [← hBP]
  clear hBP
  go_wp2_with fail
  refine (HSP.out _ K2.out.1 K2.out.2.1).mono ?_
  rintro e x3 ⟨wa, wc, wb, wd, rfl, q1, q2, hb⟩
  have bn := below_alloc x3 (.cells #[.slice wa P.length wc, .slice wb F.length wd] 29)
  have K3 := hide ((((K2.out.step hb).add q1).add q2).step bn)
  have PP3 := hide ((PP2.out.below hb).below bn)
  obtain ⟨t0, t1, t2⟩ := PBox.new x3 (.slice wa P.length wc) (.slice wb F.length wd) 29
  clear K2 PP2 hb bn q1 q2 HSP
  go_upto_region 6 with fail
  generalize x3.alloc (.cells #[.slice wa P.length wc, .slice wb F.length wd] 29) = W3 at *
  obtain ⟨BW, hBW⟩ : ∃ b, b = x3.heap.size := ⟨_, rfl⟩
  rw [← hBW] at t0 t1 t2
  rw [← hBW]
  clear hBW
  obtain ⟨u0, u1, u2⟩ := PP3.out
  go_wp2_with fail
  refine (sp_b rfl rfl (by omega) (by omega) (K3.out.2.2.1 pa P (by simp)) (K3.out.2.2.1 pb F (by simp)) (K3.out.2.2.1 wa P (by simp)) (K3.out.2.2.1 wb F (by simp))).mono ?_
  rintro e x4 ⟨rfl, hb⟩
  have K4 := hide (K3.out.step hb)
  have PP4 := hide (PP3.out.below hb)
  clear K3 PP3 hb u0 u1 u2 t0 t1 t2
  go_wp2_with fail
  refine (HG.out _ K4.out.1).mono ?_
  rintro e x5 ⟨rfl, hb⟩
  have K5 := hide (K4.out.step hb)
  have PP5 := hide (PP4.out.below hb)
  clear K4 PP4 hb HG
  go_wp2_with fail
  refine (SG.out _ K5.out.1).mono ?_
  rintro e x6 ⟨rfl, hb⟩
  have K6 := hide (K5.out.step hb)
  have PP6 := hide (PP5.out.below hb)
  clear K5 PP5 hb SG
  go_upto_if 73 with fail
  clear hob hob2
  go_cut [4, 11, 12, 13, 14, 15, 16, 17, 18, 19, 20, 21] (fun s4 _ _ _ _ _ _ _ _ _ _ _ wd => s4 = .bool false ∧ Hid (Below w.heap.size w wd))
  case first =>
    cases ok
    · go_wp2_with fail
      go_meet
      case rel => exact ⟨rfl, hide K6.out.2.2.2⟩
    · obtain ⟨rv0, rv1, rv2, hgood, hsum, hall, hcut⟩ := HF.out rfl
      have HR := hide (fun (w' : World) (a' : Option Addr) (c' : Nat) (h : GRow w' ga gs) (h' : LRow w' a' ls.reverse) => HP.out w' a' m c' ls.reverse h (by rw [List.length_reverse]; exact HM.out) h')
      rw [rv0, rv1, rv2] at HR
      rw [HM.out] at hsum
      have HC := hide hcut
      have HGP := hide (fun (w' : World) (ha : ARow w' pa P) (hb : ARow w' pb F) => gp_any (c := pc') (d := pd) ha hb)
      rw [hgood] at HGP
      have HSU := hide (fun (w' : World) (ha : ARow w' pa P) => lsum_any (c := pc') ha (by omega) hall)
      rw [hsum] at HSU
      clear rv0 rv1 rv2 hgood hsum hall hcut HF
      go_wp2_with fail
      go_loopw [11, 12] (fun s11 s12 wr => ∃ j : Nat, s12 = .int .i64 ((m : Int) - 1 - j) ∧ j ≤ m ∧ Hid (TL x6 wr ls s11 j)) (fun _ s _ => (intOf s + 1).toNat)
      case atStart => exact ⟨0, by simp, by omega, hide ⟨World.ownsRow_nil _ _ _ _, Below.refl _ _⟩⟩
      case round =>
        obtain ⟨j, rfl, hj, HI⟩ := hrel
        by_cases e : j < m
        · obtain ⟨K, hK⟩ : ∃ K : Nat, m - 1 - j = K := ⟨_, rfl⟩
          have hKe : (m : Int) - 1 - j = K := by omega
          rw [hKe]
          have i0 : (0 : Int) ≤ (K : Int) := by omega
          have i1 : (K : Int) < (m : Int) := by omega
          obtain ⟨v', w', hr, HI'⟩ := HI.out.step (K := K) (by rw [HM.out]; exact e) (by rw [HM.out]; omega) (by rw [HM.out]; exact hK)
          obtain ⟨b, o, rfl, hbl, hc⟩ : ∃ b o, la = some ⟨b, o, none⟩ ∧ b < x6.heap.size ∧ _ := by
            rcases K6.out.2.1 with h0 | h0
            · have := HM.out; rw [h0] at this; simp at this; omega
            · exact h0
          obtain ⟨c0, c1⟩ := hc K (by rw [HM.out]; omega)
          have d0 := (HI.out.bel.cell (p := ⟨b, o + K * 2, none⟩) hbl).trans c0
          have d1 := (HI.out.bel.cell (p := ⟨b, o + K * 2 + 1, none⟩) hbl).trans c1
          have HII := hide HI'
          clear HI' hc c0 c1
          generalize (ls.getD K (0, 0)).1 = X at *
          generalize (ls.getD K (0, 0)).2 = Y at *
          go_wp2_with (first | (at_builtin; refine Lib.wpList_append_run _ rfl _ _ _ _ rfl _ _ rfl rfl _ _ (hr _) ?_))
          go_roundw
          case rel => exact ⟨j + 1, by go_num, by omega, HII⟩
          case measure => simp only [intOf]; omega
        · obtain rfl : j = m := by omega
          have own := HI.out.own
          rw [List.take_of_length_le (by rw [List.length_reverse, HM.out]; exact Nat.le_refl _)] at own
          obtain ⟨ra, rc, rfl, hcap⟩ := own_capP own
          have R1 := hide (lrow_own (by rw [List.length_reverse]; exact HM.out) own)
          have K7 := hide (K6.out.step HI.out.bel)
          have P7 := hide (PP6.out.below HI.out.bel)
          obtain ⟨zs, hz, hrow⟩ := src_row (hs2.out.below K7.out.2.2.2)
          have HNU := hide (fun (w' : World) (hb : Below wr.heap.size wr w') => num_of (c := cap2) hz (hrow.below hb) hl2)
          have nb := @numUp_bd zs len2
          obtain ⟨NU, hNU⟩ : ∃ b, b = numUp zs len2 := ⟨_, rfl⟩
          rw [← hNU] at HNU nb
          clear hz hrow hNU HI own K6 PP6 hcap
          go_wp2_with fail
          refine (HR.out _ ra rc K7.out.1 R1.out).mono ?_
          rintro e y1 ⟨qa, qc, qb, qd, rfl, q1, q2, hb⟩
          have bn := below_alloc y1 (.cells #[.slice qa P.length qc, .slice qb F.length qd] 29)
          have K8 := hide ((((K7.out.step hb).add q1).add q2).step bn)
          have P8 := hide ((P7.out.below hb).below bn)
          have Q8 := hide (PBox.new y1 (.slice qa P.length qc) (.slice qb F.length qd) 29)
          have B8 := hide (hb.trans (bn.mono hb.size))
          clear K7 P7 R1 HR hb bn q1 q2
          go_upto_region 15 with fail
          generalize y1.alloc (.cells #[.slice qa P.length qc, .slice qb F.length qd] 29) = Y1 at *
          obtain ⟨BQ, hBQ⟩ : ∃ b, b = y1.heap.size := ⟨_, rfl⟩
          rw [← hBQ] at Q8
          rw [← hBQ]
          clear hBQ
          have e1 : wrap64 ((j : Int) + 1) = (j : Int) + 1 := wrap_id' _ (by omega) (by omega)
          have e2 : IntKind.i64.wrap ((j : Int) + 1) = (j : Int) + 1 := by rw [IntKind.wrap_i64]; omega
          have e3 : ¬ (j : Int) + 1 = 0 := by omega
          have e4 : ((j : Int) + 1 == 0) = false := by simp; omega
          obtain ⟨k, hk, hkj⟩ : ∃ k : Nat, NU.tmod ((j : Int) + 1) = (k : Int) ∧ k ≤ j := by
            have h0 := Int.tmod_nonneg ((j : Int) + 1) nb.1
            have h1 := Int.tmod_lt_of_pos NU (show (0 : Int) < (j : Int) + 1 by omega)
            exact ⟨(NU.tmod ((j : Int) + 1)).toNat, by omega, by omega⟩
          go_wp2_with (go_at_call 11; refine (HNU.out _ B8.out).mono ?_; rintro e y2 ⟨rfl, hw⟩; subst hw)
          obtain ⟨t0, d0, ab, aP, aF⟩ := HC.out k
          have HPA := hide (fun (w' : World) (h : GRow w' ga gs) (h' : LRow w' la ls) => HP.out w' la k lc (ls.take k) h (by rw [List.length_take, HM.out]; omega) (h'.take k))
          have HPB := hide (fun (w' : World) (a' : Option Addr) (n' c' : Nat) (h : GRow w' ga gs) (hn' : (ls.drop k).length = n') (h' : LRow w' a' (ls.drop k)) => HP.out w' a' n' c' (ls.drop k) h hn' h')
          have HAP := hide (fun (w' : World) (a b a' b' : Option Addr) (c d c' d' : Nat) (ha : ARow w' a (prP gs (ls.take k))) (hb : ARow w' b (prF gs (ls.take k))) (ha' : ARow w' a' (prP gs (ls.drop k))) (hb' : ARow w' b' (prF gs (ls.drop k))) => ap_q (c := c) (d := d) (c' := c') (d' := d') ha hb ha' hb')
          rw [t0] at HPA
          rw [d0] at HPB
          rw [ab, aP, aF] at HAP
          obtain ⟨PA, hPA⟩ : ∃ b, b = prP gs (ls.take k) := ⟨_, rfl⟩
          obtain ⟨FA, hFA⟩ : ∃ b, b = prF gs (ls.take k) := ⟨_, rfl⟩
          obtain ⟨PB, hPB⟩ : ∃ b, b = prP gs (ls.drop k) := ⟨_, rfl⟩
          obtain ⟨FB, hFB⟩ : ∃ b, b = prF gs (ls.drop k) := ⟨_, rfl⟩
          rw [← hPA, ← hFA] at HPA
          rw [← hPB, ← hFB] at HPB
          rw [← hPA, ← hFA, ← hPB, ← hFB] at HAP
          clear t0 d0 ab aP aF hPA hFA hPB hFB HC HP hk e1 e2 e3 e4 HNU nb
          refine (HPA.out _ K8.out.1 K8.out.2.1).mono ?_
          rintro e y3 ⟨aa, ac, ab, ad, rfl, q1, q2, hb⟩
          have bn := below_alloc y3 (.cells #[.slice aa PA.length ac, .slice ab FA.length ad] 29)
          have K9 := hide ((((K8.out.step hb).add q1).add q2).step bn)
          have P9 := hide ((P8.out.below hb).below bn)
          have Q9 := hide ((Q8.out.below hb).below bn)
          have A9 := hide (PBox.new y3 (.slice aa PA.length ac) (.slice ab FA.length ad) 29)
          clear K8 P8 Q8 B8 HPA hb bn q1 q2
          go_upto_region 17 with fail
          generalize y3.alloc (.cells #[.slice aa PA.length ac, .slice ab FA.length ad] 29) = Y3 at *
          obtain ⟨BA, hBA⟩ : ∃ b, b = y3.heap.size := ⟨_, rfl⟩
          rw [← hBA] at A9
          rw [← hBA]
          clear hBA
          have k0 : (0 : Int) ≤ (k : Int) := by omega
          have k1 : (k : Int) ≤ (j : Int) := by omega
          have k2 : (j : Int) ≤ (lc : Int) := by omega
          go_wp2_with fail
          · have hlk : lc = k := by omega
            subst hlk
            refine (HPB.out _ la (j - lc) 0 K9.out.1 (by rw [List.length_drop, HM.out]) (Or.inl (List.drop_eq_nil_of_le (by rw [HM.out]; omega)))).mono ?_
            rintro e y4 ⟨ba, bc, bb, bd, rfl, q1, q2, hb⟩
            have bn := below_alloc y4 (.cells #[.slice ba PB.length bc, .slice bb FB.length bd] 29)
            have K10 := hide ((((K9.out.step hb).add q1).add q2).step bn)
            have P10 := hide ((P9.out.below hb).below bn)
            have Q10 := hide ((Q9.out.below hb).below bn)
            have A10 := hide ((A9.out.below hb).below bn)
            have B10 := hide (PBox.new y4 (.slice ba PB.length bc) (.slice bb FB.length bd) 29)
            clear K9 P9 Q9 A9 HPB hb bn q1 q2
            go_upto_region 18 with fail
            generalize y4.alloc (.cells #[.slice ba PB.length bc, .slice bb FB.length bd] 29) = Y4 at *
            obtain ⟨BB, hBB⟩ : ∃ b, b = y4.heap.size := ⟨_, rfl⟩
            rw [← hBB] at B10
            rw [← hBB]
            clear hBB
            obtain ⟨m0, m1, m2⟩ := A10.out
            obtain ⟨n0, n1, n2⟩ := B10.out
            go_wp2_with fail
            refine (HAP.out _ aa ab ba bb ac ad bc bd (K10.out.2.2.1 aa PA (by simp)) (K10.out.2.2.1 ab FA (by simp)) (K10.out.2.2.1 ba PB (by simp)) (K10.out.2.2.1 bb FB (by simp))).mono ?_
            rintro e y5 ⟨sa, sc, sb, sd, rfl, q1, q2, hb⟩
            have bn := below_alloc y5 (.cells #[.slice sa P.length sc, .slice sb F.length sd] 29)
            have K11 := hide ((((K10.out.step hb).add q1).add q2).step bn)
            have P11 := hide ((P10.out.below hb).below bn)
            have Q11 := hide ((Q10.out.below hb).below bn)
            have S11 := hide (PBox.new y5 (.slice sa P.length sc) (.slice sb F.length sd) 29)
            clear K10 P10 Q10 A10 B10 HAP hb bn q1 q2 m0 m1 m2 n0 n1 n2
            go_upto_region 19 with fail
            generalize y5.alloc (.cells #[.slice sa P.length sc, .slice sb F.length sd] 29) = Y5 at *
            obtain ⟨BS, hBS⟩ : ∃ b, b = y5.heap.size := ⟨_, rfl⟩
            rw [← hBS] at S11
            rw [← hBS]
            clear hBS
            obtain ⟨m0, m1, m2⟩ := P11.out
            go_wp2_with fail
            refine (HGP.out _ (K11.out.2.2.1 pa P (by simp)) (K11.out.2.2.1 pb F (by simp))).mono ?_
            rintro e y6 ⟨rfl, hb⟩
            have K12 := hide (K11.out.step hb)
            have P12 := hide (P11.out.below hb)
            have Q12 := hide (Q11.out.below hb)
            have S12 := hide (S11.out.below hb)
            clear K11 P11 Q11 S11 hb m0 m1 m2 HGP
            obtain ⟨m0, m1, m2⟩ := P12.out
            obtain ⟨n0, n1, n2⟩ := Q12.out
            go_wp2_with fail
            refine (sp_b rfl rfl (by omega) (by omega) (K12.out.2.2.1 qa P (by simp)) (K12.out.2.2.1 qb F (by simp)) (K12.out.2.2.1 pa P (by simp)) (K12.out.2.2.1 pb F (by simp))).mono ?_
            rintro e y7 ⟨rfl, hb⟩
            have K13 := hide (K12.out.step hb)
            have P13 := hide (P12.out.below hb)
            have S13 := hide (S12.out.below hb)
            clear K12 P12 Q12 S12 hb m0 m1 m2 n0 n1 n2
            obtain ⟨m0, m1, m2⟩ := P13.out
            obtain ⟨n0, n1, n2⟩ := S13.out
            go_wp2_with fail
            refine (sp_b rfl rfl (by omega) (by omega) (K13.out.2.2.1 sa P (by simp)) (K13.out.2.2.1 sb F (by simp)) (K13.out.2.2.1 pa P (by simp)) (K13.out.2.2.1 pb F (by simp))).mono ?_
            rintro e y8 ⟨rfl, hb⟩
            have K14 := hide (K13.out.step hb)
            have P14 := hide (P13.out.below hb)
            clear K13 P13 S13 hb m0 m1 m2 n0 n1 n2
            obtain ⟨m0, m1, m2⟩ := P14.out
            have en : ((j : Int) != (j : Int)) = false := by simp
            go_wp2_with fail
            refine (HSU.out _ (K14.out.2.2.1 pa P (by simp))).mono ?_
            rintro e y9 ⟨rfl, hw⟩
            obtain rfl : y8 = y9 := hw.symm
            go_wp2_with fail
            go_meet
            case rel => exact ⟨rfl, hide K14.out.2.2.2⟩
          · refine (HPB.out _ _ (j - k) _ K9.out.1 (by rw [List.length_drop, HM.out]) (K9.out.2.1.drop_map k)).mono ?_
            rintro e y4 ⟨ba, bc, bb, bd, rfl, q1, q2, hb⟩
            have bn := below_alloc y4 (.cells #[.slice ba PB.length bc, .slice bb FB.length bd] 29)
            have K10 := hide ((((K9.out.step hb).add q1).add q2).step bn)
            have P10 := hide ((P9.out.below hb).below bn)
            have Q10 := hide ((Q9.out.below hb).below bn)
            have A10 := hide ((A9.out.below hb).below bn)
            have B10 := hide (PBox.new y4 (.slice ba PB.length bc) (.slice bb FB.length bd) 29)
            clear K9 P9 Q9 A9 HPB hb bn q1 q2
            go_upto_region 18 with fail
            generalize y4.alloc (.cells #[.slice ba PB.length bc, .slice bb FB.length bd] 29) = Y4 at *
            obtain ⟨BB, hBB⟩ : ∃ b, b = y4.heap.size := ⟨_, rfl⟩
            rw [← hBB] at B10
            rw [← hBB]
            clear hBB
            obtain ⟨m0, m1, m2⟩ := A10.out
            obtain ⟨n0, n1, n2⟩ := B10.out
            go_wp2_with fail
            refine (HAP.out _ aa ab ba bb ac ad bc bd (K10.out.2.2.1 aa PA (by simp)) (K10.out.2.2.1 ab FA (by simp)) (K10.out.2.2.1 ba PB (by simp)) (K10.out.2.2.1 bb FB (by simp))).mono ?_
            rintro e y5 ⟨sa, sc, sb, sd, rfl, q1, q2, hb⟩
            have bn := below_alloc y5 (.cells #[.slice sa P.length sc, .slice sb F.length sd] 29)
            have K11 := hide ((((K10.out.step hb).add q1).add q2).step bn)
            have P11 := hide ((P10.out.below hb).below bn)
            have Q11 := hide ((Q10.out.below hb).below bn)
            have S11 := hide (PBox.new y5 (.slice sa P.length sc) (.slice sb F.length sd) 29)
            clear K10 P10 Q10 A10 B10 HAP hb bn q1 q2 m0 m1 m2 n0 n1 n2
            go_upto_region 19 with fail
            generalize y5.alloc (.cells #[.slice sa P.length sc, .slice sb F.length sd] 29) = Y5 at *
            obtain ⟨BS, hBS⟩ : ∃ b, b = y5.heap.size := ⟨_, rfl⟩
            rw [← hBS] at S11
            rw [← hBS]
            clear hBS
            obtain ⟨m0, m1, m2⟩ := P11.out
            go_wp2_with fail
            refine (HGP.out _ (K11.out.2.2.1 pa P (by simp)) (K11.out.2.2.1 pb F (by simp))).mono ?_
            rintro e y6 ⟨rfl, hb⟩
            have K12 := hide (K11.out.step hb)
            have P12 := hide (P11.out.below hb)
            have Q12 := hide (Q11.out.below hb)
            have S12 := hide (S11.out.below hb)
            clear K11 P11 Q11 S11 hb m0 m1 m2 HGP
            obtain ⟨m0, m1, m2⟩ := P12.out
            obtain ⟨n0, n1, n2⟩ := Q12.out
            go_wp2_with fail
            refine (sp_b rfl rfl (by omega) (by omega) (K12.out.2.2.1 qa P (by simp)) (K12.out.2.2.1 qb F (by simp)) (K12.out.2.2.1 pa P (by simp)) (K12.out.2.2.1 pb F (by simp))).mono ?_
            rintro e y7 ⟨rfl, hb⟩
            have K13 := hide (K12.out.step hb)
            have P13 := hide (P12.out.below hb)
            have S13 := hide (S12.out.below hb)
            clear K12 P12 Q12 S12 hb m0 m1 m2 n0 n1 n2
            obtain ⟨m0, m1, m2⟩ := P13.out
            obtain ⟨n0, n1, n2⟩ := S13.out
            go_wp2_with fail
            refine (sp_b rfl rfl (by omega) (by omega) (K13.out.2.2.1 sa P (by simp)) (K13.out.2.2.1 sb F (by simp)) (K13.out.2.2.1 pa P (by simp)) (K13.out.2.2.1 pb F (by simp))).mono ?_
            rintro e y8 ⟨rfl, hb⟩
            have K14 := hide (K13.out.step hb)
            have P14 := hide (P13.out.below hb)
            clear K13 P13 S13 hb m0 m1 m2 n0 n1 n2
            obtain ⟨m0, m1, m2⟩ := P14.out
            have en : ((j : Int) != (j : Int)) = false := by simp
            go_wp2_with fail
            refine (HSU.out _ (K14.out.2.2.1 pa P (by simp))).mono ?_
            rintro e y9 ⟨rfl, hw⟩
            obtain rfl : y8 = y9 := hw.symm
            go_wp2_with fail
            go_meet
            case rel => exact ⟨rfl, hide K14.out.2.2.2⟩
  case rest =>
    obtain ⟨rfl, HB⟩ := hcut
    clear K6 PP6 HF HP
    rename_i K1 hK1
    refine hK1 _ _ ?_
    exact lPr_b a1 a2 len1 cap1 len2 cap2 w _ hs2 HB _ _ _ _ _ _ _ _ _ _ _ _ _ _ _ _ _ _ _ _ _ _ _ _ _ _ _ _ _ _ _ _ _ _ _ _ _ _ _ _ _ _ _ _ _ _ _ _ _ _ _ _ _ _ _ _ _ _ _ _ _ _ _ _ _ _ _ _ _ _ _ _ _ _ _ _ _ _ _ _ _ _ _ _ _ _ _ _ _ _ _ _ _ _ _ _ _ _ _ _ _ _ _ _ _ _ _ _ _ _ _ _ _ _ _ _ _ _ _ _ _ _ _ _ _ _ _ _ _ _ _ _ _ _ _ _ _ _ _ _ _ _ _ _ _ _ _ _ _ _ _ _ _ _ _ _ _ _ _ _ _ _ _ _ _ _ _ _ _ _ _ _ _ _ _ _ _ _ _ _ _ _ _ _ _ _ _ _ _ _ _ _ _ _ _ _ _ _ _ _ _ _ _ _ _ _ _ _ _ _ _ _ _ _ _ _ _ _ _ _ _ _ _ _ _ _ _ _ _ _ _ _ _ _ _ _ _ _ _
end Go.Proofs.Ytegonbilomcpkaa
