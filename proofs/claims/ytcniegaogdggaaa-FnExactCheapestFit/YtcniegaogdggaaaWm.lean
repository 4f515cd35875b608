/-
  What addLoad answers.
-/
import Derived.Test.YtcniegaogdggaaaWl
namespace Go.Proofs.Ytcniegaogdggaaa
open Go.RowKit

set_option maxRecDepth 20000 in
set_option maxHeartbeats 8000000 in
theorem al_any {e : Option Addr} {n ce FT PU PV L : Nat} {C : List (List Int)} {T : Hu.Tri} {w0 w : World} (hg : Hu.costB C = true) (hl : C.length = n) (hL : L < n) (hT : Hu.Ou C n L T) (hG : Hu.Good C n) (hc : CRow w0 e C) (hb0 : Below w0.heap.size w0 w)
    (n1 : FT ≠ PU) (n2 : FT ≠ PV) (n3 : PU ≠ PV) (oft : w.ownsRow w0.heap.size 3 1 (.slice (some ⟨FT, 0, none⟩) n n) n (ints (Hu.fitR n T.o L))) (opu : w.ownsRow w0.heap.size 3 1 (.slice (some ⟨PU, 0, none⟩) n n) n (ints (Hu.tab n T.u))) (opv : w.ownsRow w0.heap.size 3 1 (.slice (some ⟨PV, 0, none⟩) n n) n (ints (Hu.tab n T.v))) :
    Calls Try.prog 44 #[.agg (fv e n ce FT PU PV), .int .i64 (L : Int)] w fun e w' => e = .returned (.tuple #[]) ∧ w'.ownsRow w0.heap.size 3 1 (.slice (some ⟨FT, 0, none⟩) n n) n (ints (Hu.fitR n (Hu.seek C n L T).o (L + 1))) ∧ w'.ownsRow w0.heap.size 3 1 (.slice (some ⟨PU, 0, none⟩) n n) n (ints (Hu.tab n (Hu.seek C n L T).u)) ∧ w'.ownsRow w0.heap.size 3 1 (.slice (some ⟨PV, 0, none⟩) n n) n (ints (Hu.tab n (Hu.seek C n L T).v)) ∧ Off3 w w' FT PU PV := by
  have gl := Hu.costB_len hg
  rw [hl] at gl
  obtain ⟨n1', n10⟩ := gl
  have bnA := below_new w (.cells (fv e n ce FT PU PV) 60)
  have HAL : Hid (AL w0 w (w.alloc (.cells (fv e n ce FT PU PV) 60)) e n ce FT PU PV C (Hu.fitR n T.o L) (Hu.tab n T.u) (Hu.tab n T.v)) := hide
    ⟨hc, hb0, (Off3.refl w FT PU PV).below bnA (Nat.le_refl _), by simp, by simp [fv, go_sem], by simp [fv, go_sem], by simp [fv, go_sem], by simp [fv, go_sem], g_own oft bnA, g_own opu bnA, g_own opv bnA, n1, n2, n3, (oft.lt FT rfl).2, (opu.lt PU rfl).2, (opv.lt PV rfl).2⟩
  have hsW : (w.alloc (.cells (fv e n ce FT PU PV) 60)).heap.size = w.heap.size + 1 := World.size_alloc _ _
  obtain ⟨W1, hW1⟩ : ∃ W1, W1 = w.alloc (.cells (fv e n ce FT PU PV) 60) := ⟨_, rfl⟩
  rw [← hW1] at HAL hsW
  have HW1 := hide hW1.symm
  have hf0 := HAL.out.f0
  have HG := hide hg
  have HLn := hide hl
  have HT := hide hT
  have HGd := hide hG
  generalize fv e n ce FT PU PV = arr at *
  clear bnA hc hb0 n1 n2 n3 oft opu opv hg hl hT hG hW1
  go_enter Try.func44, Try.ntmps44
  go_upto_region 1 with fail
  rw [HW1.out]
  clear HW1
  go_wp2_with fail
  refine (ns_any (n := n) n10).mono ?_
  rintro e2 w2 ⟨v, rfl, hb2, ov⟩
  rw [hsW] at hb2 ov
  have HAL2 := hide (HAL.out.blw hb2 (by omega))
  clear HAL hf0
  obtain ⟨g2, c2, rfl⟩ : ∃ g2 c2, v = .slice (some ⟨g2, 0, none⟩) n c2 := by
    rcases ov.2 with ⟨h, _⟩ | ⟨g, cap, cur, hv, _⟩
    · exact absurd h (by omega)
    · exact ⟨g, cap, hv⟩
  obtain ⟨W3, hW3⟩ : ∃ W3, W3 = w2.alloc (.cells #[.slice none 0 0, .slice none 0 0, .slice none 0 0, .int .i64 0, .int .i64 0, .int .i64 0, .int .i64 0, .int .i64 0, .int .i64 0, .int .i64 0, .int .i64 0, .int .i64 0, .int .i64 0, .int .i64 0, .int .i64 0, .int .i64 0, .int .i64 0, .int .i64 0, .int .i64 0, .int .i64 0, .int .i64 0, .int .i64 0, .int .i64 0] 81) := ⟨_, rfl⟩
  have HZ := hide (zsl_new w2 81)
  have bn3 := below_new w2 (.cells #[.slice none 0 0, .slice none 0 0, .slice none 0 0, .int .i64 0, .int .i64 0, .int .i64 0, .int .i64 0, .int .i64 0, .int .i64 0, .int .i64 0, .int .i64 0, .int .i64 0, .int .i64 0, .int .i64 0, .int .i64 0, .int .i64 0, .int .i64 0, .int .i64 0, .int .i64 0, .int .i64 0, .int .i64 0, .int .i64 0, .int .i64 0] 81)
  have og := ov.lt g2 rfl
  rw [← hW3] at HZ bn3
  have HZ' : Hid (SV (w2.alloc (.cells #[.slice none 0 0, .slice none 0 0, .slice none 0 0, .int .i64 0, .int .i64 0, .int .i64 0, .int .i64 0, .int .i64 0, .int .i64 0, .int .i64 0, .int .i64 0, .int .i64 0, .int .i64 0, .int .i64 0, .int .i64 0, .int .i64 0, .int .i64 0, .int .i64 0, .int .i64 0, .int .i64 0, .int .i64 0, .int .i64 0, .int .i64 0] 81)) w2.heap.size (.slice none 0 0) (.slice none 0 0) (.slice none 0 0) z10 z10) := hide (by rw [← hW3]; exact HZ.out)
  have HAL3 := hide (HAL2.out.blw bn3 (by omega))
  have HOV := hide (g_own ov bn3)
  have hs3 : w2.heap.size < W3.heap.size := HZ.out.lt
  have HW3 := hide hW3
  clear HAL2 ov bn3 hb2 HZ hW3
  have lmx : (mxs n).length = 10 := Hu.tab_len _ _
  have lz0 : z10.length = 10 := rfl
  go_upto_region 2 with (first | (refine ws_store rfl _ _ rfl rfl rfl HZ' lmx lz0 rfl rfl rfl ?_; intro w4 A4 T4) | fail)
  rw [← HW3.out] at T4
  have hB3 : w.heap.size + 1 + 2 < w2.heap.size := by omega
  have HAL4 := hide (HAL3.out.blw (T4.2.1 _ (Nat.le_refl _)) (by omega))
  have HS4 : Hid (Sr w4 (w.heap.size + 1 + 2) w2.heap.size (.slice none 0 0) (.slice none 0 0) (.slice (some ⟨g2, 0, none⟩) (Hu.leftN n (Hu.start T.u T.v).gn).length c2) (Hu.cast (Hu.loadsW T.o L [])) (Hu.cast ([] : List Nat).reverse) (Hu.cast (Hu.leftN n (Hu.start T.u T.v).gn)) (mxs n) z10) := hide (by
    have e1 : Hu.leftN n (Hu.start T.u T.v).gn = List.range n := by simp [Hu.leftN, Hu.start]
    rw [e1, List.length_range]
    refine ⟨A4, World.ownsRow_nil _ _ _ _, World.ownsRow_nil _ _ _ _, ?_, by omega, by simp [Value.ownBlock], by simp [Value.ownBlock], by simp [Value.ownBlock]; omega, fun g hg => by simp [Value.ownBlock] at hg, fun g hg => by simp [Value.ownBlock] at hg, fun g hg => by simp [Value.ownBlock] at hg⟩
    rw [Hu.cast_len, List.length_range]
    exact own_blk HOV.out fun g hg => T4.2.2 g (by simp [Value.ownBlock] at hg; omega))
  have hS4 : w2.heap.size < w4.heap.size := A4.lt
  have HI0 := hide (Hu.In.start (L := L) HT.out.pr)
  clear HAL3 HOV HW3 A4 T4 HZ' og hs3 hsW lmx lz0
  generalize w2.heap.size = B at *
  clear w2 W3 W1
  go_wp2_with fail
  go_loopg [5, 6] n (fun gk s5 s6 wr => ∃ (S : Hu.Sk) (g : List Nat) (xs ys : List Int) (v0 v1 : Value) (M : Nat), s5 = .int .i64 S.la ∧ s6 = .int .i64 (Hu.nx T.o L S.la) ∧ Hid (gk = n - g.length) ∧ Hid (M = (Hu.leftN n S.gn).length) ∧ Hid (Hu.In C n T.o L S g) ∧ Hid (Hu.run C n T.o L n (Hu.start T.u T.v) = Hu.run C n T.o L gk S) ∧ Hid (Hu.LsR n T.o L S g xs ys) ∧ Hid (AL w0 w wr e n ce FT PU PV C (Hu.fitR n T.o L) (Hu.tab n S.u) (Hu.tab n S.v)) ∧ Hid (Sr wr (w.heap.size + 1 + 2) B v0 v1 (.slice (some ⟨g2, 0, none⟩) M c2) (Hu.cast (Hu.loadsW T.o L g)) (Hu.cast g.reverse) (Hu.cast (Hu.leftN n S.gn)) xs ys))
  case atStart => exact ⟨Hu.start T.u T.v, [], mxs n, z10, _, _, _, rfl, rfl, hide rfl, hide rfl, HI0, hide rfl, hide (Hu.LsR.start _ _ _ _ _ _ n10), HAL4, HS4⟩
  case round =>
    clear HAL4 HS4 HI0
    obtain ⟨S, g, xs, ys, v0, v1, M, rfl, rfl, HK, HM, HI, HR, HL, HAL, HS⟩ := hrel
    by_cases hx : 0 ≤ Hu.nx T.o L S.la
    · obtain ⟨d, p, hW⟩ := Hu.way_step HGd.out HT.out.ow hL HI.out hx HL.out n10
      have HP1 := hide (HI.out.bd HGd.out HT.out.ow hL)
      have elsl : Hu.cast (Hu.loadsW T.o L g) ++ [((Hu.ld T.o L S.la : Nat) : Int)] = Hu.cast (Hu.loadsW T.o L (d :: g)) := by
        rw [HI.out.la]; simp [Hu.loadsW, Hu.cast]
      have hll : (Hu.loadsW T.o L (d :: g)).length = g.length + 1 := Hu.loadsW_len _ _ _
      have hlen := hW.inn.len
      simp only [List.length_cons] at hlen
      have enx := Hu.ld_nx hx
      have hir := hW.lr
      have HE := hide elsl
      have HWS := hide hW
      have hpl := hW.pl
      rw [← HM.out] at hpl
      have hdn := hW.dn
      have HX10 : Hid ((Hu.restR C (Hu.tab n S.u) (Hu.tab n S.v) (Hu.ld T.o L S.la)).length = 10) := hide (Hu.tab_len _ _)
      have HXL : Hid ((Hu.seeX (Hu.leftN n S.gn) (Hu.restR C (Hu.tab n S.u) (Hu.tab n S.v) (Hu.ld T.o L S.la)) xs).length = 10) := hide (Hu.tab_len _ _)
      have HYL : Hid ((Hu.seeY (Hu.leftN n S.gn) (Hu.restR C (Hu.tab n S.u) (Hu.tab n S.v) (Hu.ld T.o L S.la)) xs ys (Hu.ld T.o L S.la)).length = 10) := hide (Hu.tab_len _ _)
      have HRO := hide fun (W : World) (h1 : CRow W e C) (h2 : ARow W (some ⟨PU, 0, none⟩) (Hu.tab n S.u)) (h3 : ARow W (some ⟨PV, 0, none⟩) (Hu.tab n S.v)) => ro9_any (ce := ce) (FT := FT) HG.out HLn.out (Hu.tab_len n S.u) (Hu.tab_len n S.v) hir (Hu.tab_all fun i hi => by have := HP1.out.1 i hi; omega) (Hu.tab_all fun i hi => by have := HP1.out.2 i hi; omega) h1 h2 h3
      have hRun : Hu.run C n T.o L (n - g.length) S = Hu.run C n T.o L (n - g.length - 1) (Hu.step C n T.o L S) := by
        have : n - g.length = (n - g.length - 1) + 1 := by omega
        rw [this, Hu.run_on hx]; rfl
      have HRn := hide (HR.out.trans ((congrArg (fun k => Hu.run C n T.o L k S) HK.out).trans hRun))
      have HND := hide (Hu.left_nodup n S.gn)
      have H10 : Hid (∀ x ∈ Hu.leftN n S.gn, x < 10) := hide fun x hx => by have := (Hu.left_mem.1 hx).1; omega
      have ML : M ≤ 10 := by
        have := HND.out.length_le_of_subset (l₂ := List.range 10) (fun x hx => List.mem_range.2 (H10.out x hx))
        rw [← HM.out] at this; simpa using this
      have hgl : g.length ≤ 10 := by omega
      obtain ⟨M', rfl⟩ : ∃ M', M = M' + 1 := ⟨M - 1, by omega⟩
      have HSEE := hide fun (W : World) (hb : w.heap.size + 1 + 2 ≤ W.heap.size) (h : Sr W (w.heap.size + 1 + 2) B v0 v1 (.slice (some ⟨g2, 0, none⟩) (M' + 1) c2) (Hu.cast (Hu.loadsW T.o L g)) (Hu.cast g.reverse) (Hu.cast (Hu.leftN n S.gn)) xs ys) => see_any (i := Hu.ld T.o L S.la) HX10.out HM.out.symm HND.out H10.out hb (by rw [Hu.cast_len, Hu.loadsW_len]; omega) h
      rw [HE.out] at HSEE
      have HNR := hide fun (W : World) (u0 u1 : Value) (h0 : u0.oneCell' = true) (h1 : u1.oneCell' = true) (ha : ARow W (some ⟨g2, 0, none⟩) (Hu.cast (Hu.leftN n S.gn))) => nr_any (c2 := c2) HXL.out HYL.out h0 h1 HM.out.symm (by omega) (by omega) H10.out ha HWS.out.best
      have HSH := hide fun (W : World) (a0 a1 : Option Addr) (c0 c1 : Nat) (hne : PU ≠ PV) (ou : W.ownsRow w0.heap.size 3 1 (.slice (some ⟨PU, 0, none⟩) n n) n (ints (Hu.tab n S.u))) (ov : W.ownsRow w0.heap.size 3 1 (.slice (some ⟨PV, 0, none⟩) n n) n (ints (Hu.tab n S.v))) (r0 : ARow W a0 (Hu.cast (Hu.loadsW T.o L (d :: g)))) (r1 : ARow W a1 (Hu.cast g.reverse)) (d0 : ∀ b o, a0 = some ⟨b, o, none⟩ → b ≠ PU ∧ b ≠ PV) (d1 : ∀ b o, a1 = some ⟨b, o, none⟩ → b ≠ PU ∧ b ≠ PV) =>
        sh_any (e := e) (ce := ce) (FT := FT) (c0 := c0) (c1 := c1) (a2 := some ⟨g2, 0, none⟩) (c2 := c2) (N2 := M' + 1) HXL.out HYL.out (Hu.tab_len n S.u) (Hu.tab_len n S.v) hll (show g.reverse.length = g.length from List.length_reverse) (by omega) (by omega) HWS.out.lm (fun b hb => HI.out.gb b (by simpa using hb)) HWS.out.yb.1 HWS.out.yb.2 (Hu.tab_all fun i hi => by have := HP1.out.1 i hi; omega) (Hu.tab_all fun i hi => by have := HP1.out.2 i hi; omega) hne ou ov r0 r1 d0 d1
      rw [HWS.out.lsu, HWS.out.lsv] at HSH
      have HGO := hide fun (W : World) (u0 : Value) (hb : w.heap.size + 1 + 2 ≤ W.heap.size) (h : Sr W (w.heap.size + 1 + 2) B u0 v1 (.slice (some ⟨g2, 0, none⟩) (M' + 1) c2) (Hu.cast (Hu.loadsW T.o L (d :: g))) (Hu.cast g.reverse) (Hu.cast (Hu.leftN n S.gn)) (Hu.seeX (Hu.leftN n S.gn) (Hu.restR C (Hu.tab n S.u) (Hu.tab n S.v) (Hu.ld T.o L S.la)) xs) (Hu.seeY (Hu.leftN n S.gn) (Hu.restR C (Hu.tab n S.u) (Hu.tab n S.v) (Hu.ld T.o L S.la)) xs ys (Hu.ld T.o L S.la))) => go9_any (p := p) HM.out.symm (by omega) HND.out H10.out HWS.out.bd hb (by rw [Hu.cast_len, List.length_reverse]; omega) h
      have erev : Hu.cast g.reverse ++ [(d : Int)] = Hu.cast (d :: g).reverse := by simp [Hu.cast]
      rw [HWS.out.pd, erev, ← HWS.out.lfe] at HGO
      have HIX := hide fun (W : World) (ha : ARow W (some ⟨FT, 0, none⟩) (Hu.fitR n T.o L)) => ix9_any (c := n) (x := (d : Int)) (r := T.o d) (Hu.fitR_len n T.o L) (by omega) ha (by
        rcases Hu.fit_index HT.out.ow (Nat.le_of_lt hL) hdn with ⟨h1, h2⟩ | ⟨i, h1, h2, h3, h4⟩
        · exact Or.inl ⟨h1, h2⟩
        · exact Or.inr ⟨i, h1, h2, h3, h4⟩)
      have HIN := hide HWS.out.inn
      have HLS := hide HWS.out.lsr
      have hla : (Hu.step C n T.o L S).la = (d : Int) := HIN.out.la
      have hnx : Hu.nx T.o L (Hu.step C n T.o L S).la = T.o d := by
        rw [hla, Hu.nx, if_neg (by omega)]; simp
      have HMM : Hid (M' = (Hu.leftN n (Hu.step C n T.o L S).gn).length) := hide (by rw [HWS.out.lfe, List.length_eraseIdx_of_lt HWS.out.pl, ← HM.out]; rfl)
      rw [← hnx] at HIX
      rw [enx]
      have f0 := HAL.out.f0
      have f1 := HAL.out.f1
      have f2 := HAL.out.f2
      have f3 := HAL.out.f3
      have hFl := HAL.out.lt
      have hne : (((Hu.ld T.o L S.la : Nat) : Int) != -1) = true := by simp
      have d0' : (0 : Int) ≤ (d : Int) := by omega
      have d1' : (d : Int) < 10 := by omega
      have hBS := HS.out.sv.lt
      clear HR HP1 elsl hW hx enx HI HE HWS HX10 hll H10 HND erev hpl hRun hir
      generalize Hu.restR C (Hu.tab n S.u) (Hu.tab n S.v) (Hu.ld T.o L S.la) = rs at *
      generalize Hu.seeX (Hu.leftN n S.gn) rs xs = X at *
      generalize Hu.seeY (Hu.leftN n S.gn) rs xs ys ((Hu.ld T.o L S.la : Nat) : Int) = Y at *
      generalize Hu.ld T.o L S.la = I at *
      go_wp2_with fail
      refine (HRO.out _ HAL.out.c (own_arow (Hu.tab_len _ _) HAL.out.pu) (own_arow (Hu.tab_len _ _) HAL.out.pv)).mono ?_
      rintro e2 w2 ⟨rfl, hb2⟩
      have HAL2 := hide (HAL.out.blw hb2 (by omega))
      have HS2 := hide (HS.out.below hb2)
      have hz2 := hb2.size
      clear HAL HS HRO f0 f1 f2 f3 hb2
      go_wp2_with fail
      refine (HSEE.out _ (by omega) HS2.out).mono ?_
      rintro e3 w3 ⟨rfl, ⟨v0', hs3⟩, hb3⟩
      have HAL3 := hide (HAL2.out.blw hb3 (by omega))
      have HS3 := hide hs3
      have HSV3 := hide hs3.sv
      have hz3 := hb3.size
      clear HAL2 HS2 HSEE hs3 hb3
      go_wp2_with (first | (refine ws_load rfl _ rfl rfl HSV3 ?_) | fail)
      refine (HNR.out _ _ _ (own_one HS3.out.o0) (own_one HS3.out.o1) (own_arow rfl HS3.out.o2)).mono ?_
      rintro e4 w4 ⟨rfl, hb4⟩
      have HAL4 := hide (HAL3.out.blw hb4 (by omega))
      have HS4 := hide (HS3.out.below hb4)
      have hz4 := hb4.size
      clear HAL3 HS3 HNR hb4 HSV3
      obtain ⟨a0, c0, rfl⟩ := own_form HS4.out.o0
      obtain ⟨a1, c1, rfl⟩ := own_form HS4.out.o1
      have el0 : (Hu.cast (Hu.loadsW T.o L (d :: g))).length = g.length + 1 := by rw [Hu.cast_len, Hu.loadsW_len]; rfl
      have el1 : (Hu.cast g.reverse).length = g.length := by rw [Hu.cast_len, List.length_reverse]
      rw [el0] at HS4
      rw [el1] at HS4 HGO
      go_wp2_with fail
      refine wp_region_noPanic ?_
      refine wp_region_held_drew (S := fun w' => SV w' B (.slice a0 (g.length + 1) c0) (.slice a1 g.length c1) (.slice (some ⟨g2, 0, none⟩) (M' + 1) c2) X Y ∧ w'.cell? ⟨w.heap.size, 0, none⟩ = some (.slice e n ce) ∧ w'.cell? ⟨w.heap.size, 1, none⟩ = some (.slice (some ⟨FT, 0, none⟩) n n) ∧ w'.cell? ⟨w.heap.size, 2, none⟩ = some (.slice (some ⟨PU, 0, none⟩) n n) ∧ w'.cell? ⟨w.heap.size, 3, none⟩ = some (.slice (some ⟨PV, 0, none⟩) n n)) (by kernel_rfl) ⟨HS4.out.sv.below (Below.refl _ _).drew, HAL4.out.f0, HAL4.out.f1, HAL4.out.f2, HAL4.out.f3⟩ (fun hHeld => ?_)
      refine wpAnyH_take (i := 0) (oi := ⟨some 25, _, _, _, _, none⟩) (v := .agg (fv e n ce FT PU PV)) rfl (by kernel_rfl) (by kernel_rfl) (by kernel_rfl) (fun _ _ _ h => h) (Or.inl ⟨by rfl, fun w' hSw => by obtain ⟨_, x0, x1, x2, x3⟩ := hSw; unfold fv; go_simp⟩) hHeld ?_
      simp only [Act.put, List.setIfInBounds_toArray, List.set_cons_zero, List.set_cons_succ]
      refine wpAnyH_take (i := 1) (oi := ⟨some 26, _, _, _, _, none⟩) (v := .agg (sl9 (.slice a0 (g.length + 1) c0) (.slice a1 g.length c1) (.slice (some ⟨g2, 0, none⟩) (M' + 1) c2) X Y).toArray) rfl (by kernel_rfl) (by kernel_rfl) (by kernel_rfl) (fun _ _ _ h => h) (yieldsIf_load_mid (by rfl) _ _ rfl _ _ rfl (sl9 (.slice a0 (g.length + 1) c0) (.slice a1 g.length c1) (.slice (some ⟨g2, 0, none⟩) (M' + 1) c2) X Y) _ (fun w' h => h.1.range) Try.underlying81 rfl (by rw [sl9_len HXL.out HYL.out]; exact infS9)) hHeld ?_
      simp only [Act.put, List.setIfInBounds_toArray, List.set_cons_zero, List.set_cons_succ]
      refine wpAnyH_take (i := 2) (oi := ⟨some 27, _, _, _, _, none⟩) (v := .int .i64 (d : Int)) rfl (by kernel_rfl) (by kernel_rfl) (by kernel_rfl) (fun _ _ _ h => h) (Or.inl ⟨by rfl, fun w' hSw => by clear hSw; go_simp⟩) hHeld ?_
      simp only [Act.put, List.setIfInBounds_toArray, List.set_cons_zero, List.set_cons_succ]
      refine wpAnyH_take (i := 3) (oi := ⟨some 28, _, _, _, _, none⟩) (v := .pointer (some ⟨B, 3, none⟩)) rfl (by kernel_rfl) (by kernel_rfl) (by kernel_rfl) (fun _ _ _ h => h) (Or.inl ⟨by rfl, fun w' hSw => by clear hSw; go_simp⟩) hHeld ?_
      simp only [Act.put, List.setIfInBounds_toArray, List.set_cons_zero, List.set_cons_succ]
      refine wpAnyH_take (i := 4) (oi := ⟨some 29, _, _, _, _, none⟩) (v := .pointer (some ⟨B, 3 + d, none⟩)) rfl (by kernel_rfl) (by kernel_rfl) (by kernel_rfl) (fun _ _ _ h => h) (Or.inl ⟨by rfl, fun w' hSw => by clear hSw; go_simp⟩) hHeld ?_
      simp only [Act.put, List.setIfInBounds_toArray, List.set_cons_zero, List.set_cons_succ]
      refine wpAnyH_take (i := 5) (oi := ⟨some 30, _, _, _, _, none⟩) (v := .int .i64 (X.getD d 0)) rfl (by kernel_rfl) (by kernel_rfl) (by kernel_rfl) (fun _ _ _ h => h) (Or.inl ⟨by rfl, fun w' hSw => by have hxx := hSw.1.x (i := d) (by omega); clear hSw; go_simp⟩) hHeld ?_
      simp only [Act.put, List.setIfInBounds_toArray, List.set_cons_zero, List.set_cons_succ]
      refine wpAnyH_ready (rs := [6]) (by kernel_rfl) (by simp) ?_
      refine AllReadyH.cons (o := ⟨some 31, _, _, _, _, none⟩) rfl (fun K hK => ?_) AllReadyH.nil
      go_simp
      have hdr : Below w4.heap.size w4 w4.drew := (Below.refl _ _).drew
      have HAL5 := hide (HAL4.out.blw hdr (by omega))
      have HS5 := hide (HS4.out.below hdr)
      have hs5 : w4.drew.heap.size = w4.heap.size := rfl
      refine (HSH.out w4.drew a0 a1 c0 c1 HAL5.out.n3 HAL5.out.pu HAL5.out.pv (own_arow rfl HS5.out.o0) (own_arow rfl HS5.out.o1) (fun b o hb => ⟨own_apart HS5.out.o0 (by have := HAL5.out.l2; omega) b o hb, own_apart HS5.out.o0 (by have := HAL5.out.l3; omega) b o hb⟩) (fun b o hb => ⟨own_apart HS5.out.o1 (by have := HAL5.out.l2; omega) b o hb, own_apart HS5.out.o1 (by have := HAL5.out.l3; omega) b o hb⟩)).mono ?_
      rintro e6 w6 ⟨rfl, hu6, hv6, hf6⟩
      have HAL6 := hide (HAL5.out.shift hf6 hu6 hv6)
      have HS6 := hide (HS5.out.off2 hf6 (by have := HAL5.out.l2; omega) (by have := HAL5.out.l3; omega))
      have hz6 := hf6.size
      clear HAL4 HS4 HAL5 HS5 HSH hu6 hv6 hf6
      refine hK.out _ _ ⟨HS6.out.sv, HAL6.out.f0, HAL6.out.f1, HAL6.out.f2, HAL6.out.f3⟩ (fun hHeld => ?_)
      clear hK K hHeld
      refine wpAnyH_done (by kernel_rfl) ?_ _
      refine NoPanic.normal ?_
      go_wp2_with fail
      refine (HGO.out _ _ (by omega) HS6.out).mono ?_
      rintro e7 w7 ⟨rfl, ⟨v1', hs7⟩, hb7⟩
      have HAL7 := hide (HAL6.out.blw hb7 (by omega))
      have HS7 := hide hs7
      clear HAL6 HS6 HGO hs7 hb7
      have f1 := HAL7.out.f1
      go_wp2_with fail
      refine (HIX.out _ (own_arow (Hu.fitR_len _ _ _) HAL7.out.ft)).mono ?_
      rintro e8 w8 ⟨rfl, rfl⟩
      go_wp2_with fail
      rw [← hla]
      go_roundg (n - g.length - 1)
      case measure => have := HK.out; omega
      case rel => exact ⟨Hu.step C n T.o L S, d :: g, _, _, _, _, _, rfl, rfl, hide (by simp; omega), HMM, HIN, HRn, HLS, HAL7, HS7⟩
    · obtain ⟨d, r, rfl⟩ : ∃ d r, g = d :: r := by
        cases g with
        | nil => rw [HI.out.la] at hx; exact absurd (by simp [Hu.nx, Hu.lastOf]) hx
        | cons d r => exact ⟨d, r, rfl⟩
      have hla : S.la = (d : Int) := HI.out.la
      have hnx : Hu.nx T.o L S.la = T.o d := by
        rw [hla, Hu.nx, if_neg (by omega)]; simp
      have hdn := HI.out.gb d List.mem_cons_self
      have ho1 : T.o d = -1 := by
        rcases HT.out.ow.is d hdn with h | h
        · exact h
        · rw [hnx] at hx; omega
      have hS : Hu.run C n T.o L n (Hu.start T.u T.v) = S := HR.out.trans (Hu.run_here (by omega))
      obtain ⟨K, hK⟩ := Hu.fit_back HGd.out hL HT.out hS HI.out (by omega) (fun b hb => HL.out.fr (by simp) b hb)
      have eu : (Hu.seek C n L T).u = S.u := by rw [Hu.seek, hS]
      have ev : (Hu.seek C n L T).v = S.v := by rw [Hu.seek, hS]
      rw [hnx, ho1, hla]
      have f0 := HAL.out.f0
      have f1 := HAL.out.f1
      have f2 := HAL.out.f2
      have f3 := HAL.out.f3
      have HSV := hide HS.out.sv
      have HGB := hide (gb_any (e := e) (ce := ce) (PU := PU) (PV := PV) n10 HS.out.sv.lx HS.out.sv.ly (own_one HS.out.o0) (own_one HS.out.o1) (own_one HS.out.o2) (Hu.fitR_len n T.o L) hK HAL.out.ft)
      clear HI HL HR HK hK hS hx HS HG HGd
      go_wp2_with (first | (refine ws_load rfl _ rfl rfl HSV ?_) | fail)
      refine HGB.out.mono ?_
      rintro e8 w8 ⟨rfl, hf8, hg8⟩
      have HR8 := hide hf8
      have HOF : Hid (Off3 w w8 FT PU PV) := hide (HAL.out.off.grown hg8)
      have HU8 : Hid (w8.ownsRow w0.heap.size 3 1 (.slice (some ⟨PU, 0, none⟩) n n) n (ints (Hu.tab n (Hu.seek C n L T).u))) := hide (by
        rw [eu]
        exact own_blk HAL.out.pu fun g hg => by simp [Value.ownBlock] at hg; subst hg; exact hg8.block _ (by have := HAL.out.l2; have := HAL.out.lt; omega) (by have := HAL.out.n1; simp; omega))
      have HV8 : Hid (w8.ownsRow w0.heap.size 3 1 (.slice (some ⟨PV, 0, none⟩) n n) n (ints (Hu.tab n (Hu.seek C n L T).v))) := hide (by
        rw [ev]
        exact own_blk HAL.out.pv fun g hg => by simp [Value.ownBlock] at hg; subst hg; exact hg8.block _ (by have := HAL.out.l3; have := HAL.out.lt; omega) (by have := HAL.out.n2; simp; omega))
      clear hf8 hg8 HAL HGB HSV
      go_wp2_with fail
      go_end0
      exact ⟨rfl, HR8.out, HU8.out, HV8.out, HOF.out⟩
end Go.Proofs.Ytcniegaogdggaaa
