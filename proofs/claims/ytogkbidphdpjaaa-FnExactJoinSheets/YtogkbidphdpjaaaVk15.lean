/-
  What JoinSheets of the model answers, where both are good.
-/
import Derived.Test.YtogkbidphdpjaaaVj15
import Derived.Lib.AppendZeros
namespace Go.Proofs.Ytogkbidphdpjaaa
open Go.RowKit

theorem own_setne15 {w : World} {base e s n J o : Nat} {v u : Value} {xs : List Value} (h : w.ownsRow base e s v n xs) (hJ : v.ownBlock ≠ some J) : (w.setCell ⟨J, o, none⟩ u).ownsRow base e s v n xs :=
  own_keep15 h fun g hg _ => Below.heap_setCell _ _ _ g fun e => hJ (by have e2 : g = J := e; rw [← e2]; exact hg)
theorem JM.turn {w0 w w' : World} {J : Nat} {v v' : Value} {gs : List Gd} {ls : List (Int × Int)} (h : JM w0 w J v v' gs ls) (hb : Below w.heap.size w w') : JM w0 w' J v v' gs ls :=
  ⟨(hb.cell (p := ⟨J, 0, none⟩) h.lt).trans h.c0, (hb.cell (p := ⟨J, 1, none⟩) h.lt).trans h.c1, (hb.frozen (p := ⟨J, 0, none⟩) h.lt).trans h.f0, (hb.frozen (p := ⟨J, 1, none⟩) h.lt).trans h.f1, own_below15 h.o1 hb, own_below15 h.o2 hb, h.ne, h.n1, h.n2, Nat.lt_of_lt_of_le h.lt hb.size, h.lo, h.below.trans (hb.mono h.below.size)⟩
theorem JM.own1 {w0 w : World} {J : Nat} {v v' : Value} {gs : List Gd} {ls : List (Int × Int)} (h : JM w0 w J v v' gs ls) : ∀ g, v.ownBlock = some g → w0.heap.size ≤ g ∧ g < w.heap.size := h.o1.lt
theorem JM.own2 {w0 w : World} {J : Nat} {v v' : Value} {gs : List Gd} {ls : List (Int × Int)} (h : JM w0 w J v v' gs ls) : ∀ g, v'.ownBlock = some g → w0.heap.size ≤ g ∧ g < w.heap.size := h.o2.lt
/-- A good more in the model's sheet. -/
theorem push_gm {w0 w : World} {J : Nat} {v v' : Value} {gs : List Gd} {ls : List (Int × Int)} {x : ByteArray} {z : Int} (h : JM w0 w J v v' gs ls) (hn : gs.length ≤ 1000) :
    ∃ gg cap w6, (∀ ty, (Builtin.append_ #[28, 28] ty #[v, .slice (some ⟨w.heap.size, 0, none⟩) 1 1]).run Try.prog (w.alloc (.cells #[.string x, .int .i64 z] 68)) = .ok (.slice (some ⟨gg, 0, none⟩) (gs.length + 1) cap) w6) ∧ w6.cell? ⟨J, 0, none⟩ = some v ∧ w6.frozen? ⟨J, 0, none⟩ = false ∧
      JM w0 (w6.setCell ⟨J, 0, none⟩ (.slice (some ⟨gg, 0, none⟩) (gs.length + 1) cap)) J (.slice (some ⟨gg, 0, none⟩) (gs.length + 1) cap) v' (gs ++ [(x, z)]) ls := by
  obtain ⟨i0, hi, hz0, hz1, hz2⟩ := infoG15
  obtain ⟨gg, cap, w6, hr, ho, hg, hat⟩ := push15 (u0 := .string x) (u1 := .int .i64 z) Try.underlying28 hi hz0 hz1 hz2 rfl (by omega) rfl rfl h.o1 (by omega) h.below.size
  have bn := below_new w (.cells #[.string x, .int .i64 z] 68)
  have ha := h.turn bn
  have blk : ∀ b, b < (w.alloc (.cells #[.string x, .int .i64 z] 68)).heap.size → some b ≠ v.ownBlock → w6.heap[b]? = (w.alloc (.cells #[.string x, .int .i64 z] 68)).heap[b]? := fun b hb' hne => hg.block b hb' hne
  have nJ : some J ≠ v.ownBlock := fun e => h.n1 e.symm
  have bJ := blk J ha.lt nJ
  have c0 := (World.cell?_of_block (a := ⟨J, 0, none⟩) bJ).trans ha.c0
  have hgJ : gg ≠ J := by
    rcases hat with e | e
    · exact fun he => h.n1 (he ▸ e)
    · have := h.lt; omega
  refine ⟨gg, cap, w6, hr, c0, (World.frozen?_of_block (a := ⟨J, 0, none⟩) bJ).trans ha.f0, ?_⟩
  refine ⟨World.cell?_setCell_same _ _ _ c0, (World.cell?_setCell_other _ _ _ _ (by simp)).trans ((World.cell?_of_block (a := ⟨J, 1, none⟩) bJ).trans ha.c1), (World.frozen?_setCell ..).trans ((World.frozen?_of_block (a := ⟨J, 0, none⟩) bJ).trans ha.f0), (World.frozen?_setCell ..).trans ((World.frozen?_of_block (a := ⟨J, 1, none⟩) bJ).trans ha.f1), ?_, ?_, ?_, ?_, h.n2, ?_, h.lo, ?_⟩
  · have e1 : gce (gs ++ [(x, z)]) = gce gs ++ [.string x, .int .i64 z] := pq_snoc _ _ _ _
    rw [e1, List.length_append]
    exact own_setne15 ho fun e => hgJ (by cases e; rfl)
  · exact own_setne15 (own_keep15 ha.o2 fun b hb' hl => blk b hl (fun e => h.ne b e.symm hb')) h.n2
  · intro b hb1 hb2
    cases hb1
    rcases hat with e | e
    · exact h.ne gg e hb2
    · have := h.own2 gg hb2; omega
  · exact fun e => hgJ (by cases e; rfl)
  · rw [World.size_setCell]; exact Nat.lt_of_lt_of_le ha.lt hg.size
  · exact (ha.below.trans (grown_und15 hg ha.o1 ha.below.size)).setCell (p := ⟨J, 0, none⟩) h.lo _
theorem push_lm {w0 w : World} {J : Nat} {v v' : Value} {gs : List Gd} {ls : List (Int × Int)} {x z : Int} (h : JM w0 w J v v' gs ls) (hn : ls.length ≤ 1000) :
    ∃ gg cap w6, (∀ ty, (Builtin.append_ #[29, 29] ty #[v', .slice (some ⟨w.heap.size, 0, none⟩) 1 1]).run Try.prog (w.alloc (.cells #[.int .i64 x, .int .i64 z] 52)) = .ok (.slice (some ⟨gg, 0, none⟩) (ls.length + 1) cap) w6) ∧ w6.cell? ⟨J, 1, none⟩ = some v' ∧ w6.frozen? ⟨J, 1, none⟩ = false ∧
      JM w0 (w6.setCell ⟨J, 1, none⟩ (.slice (some ⟨gg, 0, none⟩) (ls.length + 1) cap)) J v (.slice (some ⟨gg, 0, none⟩) (ls.length + 1) cap) gs (ls ++ [(x, z)]) := by
  obtain ⟨i0, hi, hz0, hz1, hz2⟩ := infoL15
  obtain ⟨gg, cap, w6, hr, ho, hg, hat⟩ := push15 (u0 := .int .i64 x) (u1 := .int .i64 z) Try.underlying29 hi hz0 hz1 hz2 rfl (by omega) rfl rfl h.o2 (by omega) h.below.size
  have bn := below_new w (.cells #[.int .i64 x, .int .i64 z] 52)
  have ha := h.turn bn
  have blk : ∀ b, b < (w.alloc (.cells #[.int .i64 x, .int .i64 z] 52)).heap.size → some b ≠ v'.ownBlock → w6.heap[b]? = (w.alloc (.cells #[.int .i64 x, .int .i64 z] 52)).heap[b]? := fun b hb' hne => hg.block b hb' hne
  have nJ : some J ≠ v'.ownBlock := fun e => h.n2 e.symm
  have bJ := blk J ha.lt nJ
  have c1 := (World.cell?_of_block (a := ⟨J, 1, none⟩) bJ).trans ha.c1
  have hgJ : gg ≠ J := by
    rcases hat with e | e
    · exact fun he => h.n2 (he ▸ e)
    · have := h.lt; omega
  refine ⟨gg, cap, w6, hr, c1, (World.frozen?_of_block (a := ⟨J, 1, none⟩) bJ).trans ha.f1, ?_⟩
  refine ⟨(World.cell?_setCell_other _ _ _ _ (by simp)).trans ((World.cell?_of_block (a := ⟨J, 0, none⟩) bJ).trans ha.c0), World.cell?_setCell_same _ _ _ c1, (World.frozen?_setCell ..).trans ((World.frozen?_of_block (a := ⟨J, 0, none⟩) bJ).trans ha.f0), (World.frozen?_setCell ..).trans ((World.frozen?_of_block (a := ⟨J, 1, none⟩) bJ).trans ha.f1), ?_, ?_, ?_, h.n1, ?_, ?_, h.lo, ?_⟩
  · exact own_setne15 (own_keep15 ha.o1 fun b hb' hl => blk b hl (fun e => h.ne b hb' e.symm)) h.n1
  · have e1 : lce (ls ++ [(x, z)]) = lce ls ++ [.int .i64 x, .int .i64 z] := pq_snoc _ _ _ _
    rw [e1, List.length_append]
    exact own_setne15 ho fun e => hgJ (by cases e; rfl)
  · intro b hb1 hb2
    cases hb2
    rcases hat with e | e
    · exact h.ne gg hb1 e
    · have := h.own1 gg hb1; omega
  · exact fun e => hgJ (by cases e; rfl)
  · rw [World.size_setCell]; exact Nat.lt_of_lt_of_le ha.lt hg.size
  · exact (ha.below.trans (grown_und15 hg ha.o2 ha.below.size)).setCell (p := ⟨J, 1, none⟩) h.lo _
theorem joinM_yes {ga gb : List Gd} {la lb : List (Int × Int)} (h1 : sheetB ga la = true) (h2 : sheetB gb lb = true) : joinM ga la gb lb = (takeM ga gb).bind fun o => if sheetB o (la ++ lb.map (newM o gb)) = true then some (o, la ++ lb.map (newM o gb)) else none := by
  unfold joinM
  rw [h1, h2]; rfl
theorem ok_short {gs : List Gd} (h : AllOK gs) : Short gs := fun i => by
  by_cases hi : i < gs.length
  · have h1 := (ok_parts h hi).1
    simp only [nameB, Bool.and_eq_true] at h1
    have := Pf.inB_yes h1.1
    omega
  · have : gs.getD i gd0 = gd0 := by simp [show gs.length ≤ i by omega]
    rw [this]; decide
set_option maxRecDepth 100000 in
set_option maxHeartbeats 16000000 in
theorem sji_yes {a a' b b' : Option Addr} {n c n' c' m d m' d' : Nat} {ga gb : List Gd} {la lb : List (Int × Int)} {w : World} (HN : Hid (ga.length = n)) (hn : n ≤ 1048576) (hc : n ≤ c) (HS : Hid (Short ga)) (HA : Hid (GRow w a ga)) (HN' : Hid (la.length = n')) (hn' : n' ≤ 1048576) (hc' : n' ≤ c') (HA' : Hid (LRow w a' la))
    (HM : Hid (gb.length = m)) (hm : m ≤ 1048576) (hd : m ≤ d) (HT : Hid (Short gb)) (HB : Hid (GRow w b gb)) (HM' : Hid (lb.length = m')) (hm' : m' ≤ 1048576) (hd' : m' ≤ d') (HB' : Hid (LRow w b' lb)) (HG1 : Hid (sheetB ga la = true)) (HG2 : Hid (sheetB gb lb = true)) :
    Calls Try.prog 20 #[.agg #[.slice a n c, .slice a' n' c'], .agg #[.slice b m d, .slice b' m' d']] w fun e w' => JA w (joinM ga la gb lb) e w' := by
  have HE := hide (joinM_yes HG1.out HG2.out)
  generalize joinM ga la gb lb = r at *
  have hJ := j3_new w (.slice a n c) (.slice a' n' c') (.slice b m d) (.slice b' m' d') 31 31 31
  obtain ⟨W, hW⟩ : ∃ W, W = ((w.alloc (.cells #[.slice a n c, .slice a' n' c'] 31)).alloc (.cells #[.slice b m d, .slice b' m' d'] 31)).alloc (.cells #[.slice none 0 0, .slice none 0 0] 31) := ⟨_, rfl⟩
  rw [← hW] at hJ
  have H3 := hide hJ
  have HW := hide hW.symm
  have HA1 := hide (HA.out.below H3.out.below)
  have HA1' := hide (HA'.out.below H3.out.below)
  have HB1 := hide (HB.out.below H3.out.below)
  have HB1' := hide (HB'.out.below H3.out.below)
  clear hJ hW
  go_enter Try.func20, Try.ntmps20
  go_upto_region 1 with fail
  have e1 : w.heap.size + 1 + 1 = w.heap.size + 2 := rfl
  simp only [e1]
  rw [HW.out]
  obtain ⟨a0, a1, _⟩ := H3.out.a
  clear HW e1
  go_wp2_with fail
  refine (sgsh_hid HG1 HN hn hc HS HA1 HN' hn' hc' HA1').mono ?_
  rintro e w1 ⟨rfl, hb1⟩
  have H31 := hide (H3.out.keep (hb1.mono H3.out.lt))
  have HA2 := hide (HA1.out.below hb1)
  have HA2' := hide (HA1'.out.below hb1)
  have HB2 := hide (HB1.out.below hb1)
  have HB2' := hide (HB1'.out.below hb1)
  obtain ⟨b0, b1, _⟩ := H31.out.b
  clear a0 a1 hb1 HA1 HA1' HB1 HB1' H3
  go_wp2_with fail
  refine (sgsh_hid HG2 HM hm hd HT HB2 HM' hm' hd' HB2').mono ?_
  rintro e w2 ⟨rfl, hb2⟩
  have H32 := hide (H31.out.keep (hb2.mono H31.out.lt))
  have HA3 := hide (HA2.out.below hb2)
  have HA3' := hide (HA2'.out.below hb2)
  have HB3 := hide (HB2.out.below hb2)
  have HB3' := hide (HB2'.out.below hb2)
  clear b0 b1 hb2 HA2 HA2' HB2 HB2' H31
  go_upto_region 3 with fail
  obtain ⟨ok1, n12, n80, hLA⟩ := sheet_parts HG1.out
  rw [HN.out] at n12
  rw [HN'.out] at n80
  have HSA := hide fun (X : World) (hX : Below w2.heap.size w2 X) => (⟨(pb_keep H32.out.a hX (by have := H32.out.lt; omega)).1, (pb_keep H32.out.a hX (by have := H32.out.lt; omega)).2.1⟩ : X.cell? ⟨w.heap.size, 0, none⟩ = some (.slice a n c) ∧ X.cell? ⟨w.heap.size, 1, none⟩ = some (.slice a' n' c'))
  have HGA := hide fun (X : World) (hX : Below w2.heap.size w2 X) => HA3.out.below hX
  have HLA := hide fun (X : World) (hX : Below w2.heap.size w2 X) => HA3'.out.below hX
  have HBL : Hid (Below w2.heap.size w2 w2.drew) := hide (Below.refl _ _).drew
  clear ok1 hLA
  go_cut [6, 22, 23, 24, 25, 26, 27, 28, 29, 30] (fun s6 _ _ _ _ _ _ _ _ _ wc => ∃ FB p1 q1 p2 q2, s6 = .pointer (some ⟨FB, 0, none⟩) ∧ Hid (JM w2 wc FB (.slice p1 n q1) (.slice p2 n' q2) ga la))
  case first =>
    refine wp_region_noPanic ?_
    refine wp_region_held_drew (S := (fun X => X.cell? ⟨w.heap.size, 0, none⟩ = some (.slice a n c) ∧ X.cell? ⟨w.heap.size, 1, none⟩ = some (.slice a' n' c'))) (by kernel_rfl) (HSA.out _ HBL.out) (fun hHeld => ?_)
    clear hHeld
    refine wpAnyH_take (i := 1) (oi := ⟨some 23, _, _, _, _, none⟩) (v := .pointer (some ⟨w.heap.size, 0, none⟩)) rfl (by kernel_rfl) (by kernel_rfl) (by kernel_rfl) (fun _ _ _ h => h) (Or.inl ⟨by rfl, fun w' hSw => by obtain ⟨s0, s1⟩ := hSw; go_simp⟩) (HSA.out _ HBL.out) ?_
    simp only [Act.put, List.setIfInBounds_toArray, List.set_cons_zero, List.set_cons_succ]
    refine wpAnyH_take (i := 2) (oi := ⟨some 24, _, _, _, _, none⟩) (v := .slice a n c) rfl (by kernel_rfl) (by kernel_rfl) (by kernel_rfl) (fun _ _ _ h => h) (Or.inl ⟨by rfl, fun w' hSw => by obtain ⟨s0, s1⟩ := hSw; go_simp⟩) (HSA.out _ HBL.out) ?_
    simp only [Act.put, List.setIfInBounds_toArray, List.set_cons_zero, List.set_cons_succ]
    refine wpAnyH_take (i := 5) (oi := ⟨some 27, _, _, _, _, none⟩) (v := .pointer (some ⟨w.heap.size, 1, none⟩)) rfl (by kernel_rfl) (by kernel_rfl) (by kernel_rfl) (fun _ _ _ h => h) (Or.inl ⟨by rfl, fun w' hSw => by obtain ⟨s0, s1⟩ := hSw; go_simp⟩) (HSA.out _ HBL.out) ?_
    simp only [Act.put, List.setIfInBounds_toArray, List.set_cons_zero, List.set_cons_succ]
    refine wpAnyH_take (i := 6) (oi := ⟨some 28, _, _, _, _, none⟩) (v := .slice a' n' c') rfl (by kernel_rfl) (by kernel_rfl) (by kernel_rfl) (fun _ _ _ h => h) (Or.inl ⟨by rfl, fun w' hSw => by obtain ⟨s0, s1⟩ := hSw; go_simp⟩) (HSA.out _ HBL.out) ?_
    simp only [Act.put, List.setIfInBounds_toArray, List.set_cons_zero, List.set_cons_succ]
    refine jmd_n HN (by omega) HN' (by omega) HGA HLA HSA (hide fun B1 B2 FB p1 q1 p2 q2 X HCF => ?_) HBL
    go_wp2_with fail
    go_meet
    case rel => exact ⟨FB, p1, q1, p2, q2, rfl, hide HCF⟩
  case rest =>
    obtain ⟨FB, p1, q1, p2, q2, rfl, HCF⟩ := hcut
    clear HSA HGA HLA HBL HA3 HA3'
    obtain ⟨okb, m12, m80, hLB⟩ := sheet_parts HG2.out
    rw [HM.out] at m12
    rw [HM'.out] at m80
    have hlt3 := H32.out.lt
    have HK3 := hide fun (X : World) (hX : Below w2.heap.size w2 X) => H32.out.keep (hX.mono hlt3)
    have HBX := hide fun (X : World) (hX : Below w2.heap.size w2 X) => HB3.out.below hX
    have HBX' := hide fun (X : World) (hX : Below w2.heap.size w2 X) => HB3'.out.below hX
    have HOKB := hide okb
    have HLB := hide hLB
    obtain ⟨b0, b1, _⟩ := (HK3.out _ HCF.out.below).b
    clear HB3 HB3' hLB okb H32
    go_wp2_with fail
    go_loopw [5, 8, 9, 34] (fun s5 _ _ s wr => ∃ (k : Nat) (u u' : Value) (o : List Gd), s5 = .bool false ∧ s = .int .i64 k ∧ k ≤ m ∧ Hid (takeM ga (gb.take k) = some o) ∧ o.length ≤ n + k ∧ Hid (JM w2 wr FB u u' o la)) (fun _ _ _ s _ => m - (intOf s).toNat)
    case atStart => exact ⟨0, _, _, ga, rfl, rfl, Nat.zero_le _, hide rfl, by rw [HN.out]; exact Nat.le_refl _, HCF⟩
    case round =>
      obtain ⟨k, u, u', o, rfl, rfl, hk, HT, ho, HJ⟩ := hrel
      clear b0 b1 HCF
      by_cases hlt : k < m
      · have hklen : k < gb.length := by rw [HM.out]; exact hlt
        obtain ⟨bb, ob, rfl, hbb, r1, r2⟩ := (HBX.out _ HJ.out.below).at (i := k) hklen
        have i0 : (0 : Int) ≤ (k : Int) := by omega
        have i1 : (k : Int) < (m : Int) := by omega
        have HST := hide (takeM_step hklen HT.out)
        have HSP := hide (takeM_stop hklen HT.out)
        generalize gb.getD k gd0 = g at *
        obtain ⟨x, z⟩ := g
        have bG := below_new wr (.cells #[.string x, .int .i64 z] 68)
        have PG := hide (PBox.new wr (.string x) (.int .i64 z) 68)
        have HJ1 := hide (HJ.out.turn bG)
        clear hklen HT bG hbb HJ
        go_upto_region 7 with fail
        obtain ⟨W, hW⟩ : ∃ W, W = wr.alloc (.cells #[.string x, .int .i64 z] 68) := ⟨_, rfl⟩
        simp only [← hW]
        rw [← hW] at PG HJ1
        obtain ⟨G, hG⟩ : ∃ b, b = wr.heap.size := ⟨_, rfl⟩
        rw [← hG] at PG
        simp only [← hG]
        clear hW hG r1 r2
        obtain ⟨p, q, hu, hq, rowo⟩ := own_gd rfl HJ1.out.o1
        have HR := hide rowo
        have j0 : W.cell? ⟨FB, 0, none⟩ = some (.slice p o.length q) := by rw [← hu]; exact HJ1.out.c0
        have g0 := PG.out.1
        have HU := hide hu
        obtain ⟨F, hF⟩ : ∃ F, fndI o x = F := ⟨_, rfl⟩
        have HFI := hide hF
        clear hu rowo hF
        generalize hol : o.length = mo at *
        have HMO := hide hol
        clear hol
        go_wp2_with fail
        refine (sfd_hid HFI HMO (by omega) hq HR).mono ?_
        rintro e w5 ⟨rfl, hb5⟩
        have HJ5 := hide (HJ1.out.turn hb5)
        have PG5 := hide (PG.out.below hb5)
        have HR5 := hide (HR.out.below hb5)
        have j5 : w5.cell? ⟨FB, 0, none⟩ = some (.slice p mo q) := by
          have h := HJ5.out.c0
          rw [HU.out] at h; exact h
        obtain ⟨g50, g51, _⟩ := PG5.out
        clear hb5 j0 g0 HJ1 PG HR
        by_cases hF0 : F < 0
        · have HT' : Hid (takeM ga (gb.take (k + 1)) = some (o ++ [(x, z)])) := hide (by rw [HST.out, putM, HFI.out, if_pos hF0])
          obtain ⟨gg, cap, w6, hr, c6, f6, hj6⟩ := push_gm (x := x) (z := z) HJ5.out (by rw [HMO.out]; omega)
          rw [HMO.out] at hr hj6
          rw [HU.out] at hr
          have HJ6 := hide hj6
          clear hj6 HST HSP HJ5 PG5
          go_wp2_with (first | (at_builtin; refine Lib.wpList_append_run _ rfl _ _ _ _ rfl _ _ rfl rfl _ _ (hr _) ?_))
          go_roundw
          case rel => exact ⟨k + 1, _, u', o ++ [(x, z)], rfl, by go_num, by omega, HT', by rw [List.length_append, HMO.out]; simp; omega, HJ6⟩
          case measure => simp only [intOf]; omega
        · obtain ⟨j, rfl⟩ := Int.eq_ofNat_of_zero_le (show 0 ≤ F by omega)
          have hjo : j < mo := by
            rcases fndI_lt o x with h | h
            · rw [HFI.out, HMO.out] at h; omega
            · rw [HFI.out] at h; omega
          obtain ⟨bo, oo, hp, _, q1, q2⟩ := HR5.out.at (i := j) (by rw [HMO.out]; exact hjo)
          subst hp
          have hpm : putM o (x, z) = if (o.getD j gd0).2 = z then some o else none := by
            unfold putM
            simp only
            rw [HFI.out, if_neg (by omega), Int.toNat_natCast]
          have HPM := hide hpm
          generalize (o.getD j gd0).2 = zo at *
          have j0' : (0 : Int) ≤ (j : Int) := by omega
          have j1' : (j : Int) < (mo : Int) := by omega
          clear q1 hpm HR5 g50
          by_cases hz : zo = z
          · have HT' : Hid (takeM ga (gb.take (k + 1)) = some o) := hide (by rw [HST.out, HPM.out, if_pos hz])
            subst hz
            have hne : (zo != zo) = false := by simp
            clear HST HSP HPM PG5
            go_wp2_with fail
            go_quiet (fail)
            go_wp2_with fail
            go_round
            case rel => exact ⟨k + 1, u, u', o, rfl, by go_num, by omega, HT', by rw [HMO.out]; omega, hide (HJ5.out.turn (below_drewN (Below.refl _ _) _))⟩
            case measure => simp only [intOf]; omega
          · have HNO : Hid (r = none) := hide (by rw [HE.out, HSP.out (by rw [HPM.out, if_neg hz])]; rfl)
            have hne : (zo != z) = true := by simpa using hz
            have HK := hide fun nq => HK3.out _ (HJ5.out.turn (below_drewN (Below.refl _ _) nq)).below
            clear HST HSP HPM PG5 hz
            go_wp2_with fail
            go_quiet (fail)
            obtain ⟨rr0, rr1, _⟩ := (HK.out nq).r
            have ff0 := (HK.out nq).f 0
            have ff1 := (HK.out nq).f 1
            have HF := hide (((HK.out nq).below.setCell (p := ⟨w.heap.size + 2, 0, none⟩) (by show w.heap.size ≤ w.heap.size + 2; omega) (.slice none 0 0)).setCell (p := ⟨w.heap.size + 2, 1, none⟩) (by show w.heap.size ≤ w.heap.size + 2; omega) (.slice none 0 0))
            go_wp2_with fail
            rw [HNO.out]
            exact bodyPost_ret (v := .tuple #[.agg #[.slice none 0 0, .slice none 0 0], .bool false]) (by simp [results, Try.results20, go_sem, rr0, rr1]) rfl (JA.none HF.out)
      · have hke : k = m := by omega
        have HTT : Hid (takeM ga gb = some o) := hide (by have := HT.out; rwa [List.take_of_length_le (by rw [HM.out]; omega)] at this)
        have HE2 : Hid (r = if sheetB o (la ++ lb.map (newM o gb)) = true then some (o, la ++ lb.map (newM o gb)) else none) := hide (by rw [HE.out, HTT.out]; rfl)
        obtain ⟨oka, _, _, _⟩ := sheet_parts HG1.out
        obtain ⟨oko, hasO, _⟩ := takeM_has gb ga o oka (goodL_of HOKB.out) HTT.out
        have HSO := hide (ok_short oko)
        have hkm : ¬ (k : Int) < (m : Int) := by omega
        obtain ⟨b0, b1, _⟩ := (HK3.out _ HJ.out.below).b
        have ho24 : o.length ≤ 24 := by omega
        clear HT HTT HE oka oko ho
        go_wp2_with fail
        go_loopw [11, 12, 65] (fun _ _ s wr => ∃ (i : Nat) (t t' : Value), s = .int .i64 i ∧ i ≤ m' ∧ Hid (JM w2 wr FB t t' o (la ++ (lb.take i).map (newM o gb)))) (fun _ _ s _ => m' - (intOf s).toNat)
        case atStart => exact ⟨0, u, u', rfl, Nat.zero_le _, hide (by simpa using HJ.out)⟩
        case round =>
          obtain ⟨i, t, t', rfl, hi, HJ2⟩ := hrel
          clear b0 b1 HJ
          by_cases hlt2 : i < m'
          · have hilen : i < lb.length := by rw [HM'.out]; exact hlt2
            obtain ⟨bl, ol, rfl, _, r1, r2⟩ := (HBX'.out _ HJ2.out.below).at (i := i) hilen
            obtain ⟨l0, l1, l2⟩ := line_parts (HLB.out i hilen)
            have HNX : Hid (la ++ (lb.take (i + 1)).map (newM o gb) = la ++ (lb.take i).map (newM o gb) ++ [newM o gb (lb.getD i (0, 0))]) := hide (by rw [take_at (0, 0) lb hilen, List.map_append, List.append_assoc]; rfl)
            have HLEN : Hid ((la ++ (lb.take i).map (newM o gb)).length ≤ 200) := hide (by rw [List.length_append, List.length_map, List.length_take, HN'.out]; omega)
            generalize hLL : la ++ (lb.take i).map (newM o gb) = LL at *
            clear hLL
            unfold newM at HNX
            generalize lb.getD i (0, 0) = y at *
            obtain ⟨gi, mm⟩ := y
            obtain ⟨j, rfl⟩ := Int.eq_ofNat_of_zero_le l0
            simp only [Int.toNat_natCast] at l1 HNX
            have hjlen : j < gb.length := l1
            have hjm : j < m := by rw [← HM.out]; exact l1
            have i0 : (0 : Int) ≤ (i : Int) := by omega
            have i1 : (i : Int) < (m' : Int) := by omega
            have j0 : (0 : Int) ≤ (j : Int) := by omega
            have j1 : (j : Int) < (m : Int) := by omega
            obtain ⟨bg, og, rfl, _, _, _⟩ := (HBX.out _ HJ2.out.below).at (i := j) hjlen
            have HNM : Hid (∀ X, Below w2.heap.size w2 X → X.cell? ⟨bg, og + j * 2, none⟩ = some (.string (gb.getD j gd0).1)) := hide fun X hX => by
              obtain ⟨b2, o2, e2, _, q1, _⟩ := (HBX.out X hX).at (i := j) hjlen
              cases e2
              exact q1
            generalize (gb.getD j gd0).1 = x at *
            obtain ⟨F, hF⟩ : ∃ F, fndI o x = F := ⟨_, rfl⟩
            rw [hF] at HNX
            have HFI := hide hF
            have bG := below_new wr (.cells #[.int .i64 (j : Int), .int .i64 mm] 52)
            have PG := hide (PBox.new wr (.int .i64 (j : Int)) (.int .i64 mm) 52)
            have HJ3 := hide (HJ2.out.turn bG)
            clear hF bG l0 l1 l2 hjlen hilen
            go_upto_region 16 with fail
            obtain ⟨W, hW⟩ : ∃ W, W = wr.alloc (.cells #[.int .i64 (j : Int), .int .i64 mm] 52) := ⟨_, rfl⟩
            simp only [← hW]
            rw [← hW] at PG HJ3
            obtain ⟨G, hG⟩ : ∃ b, b = wr.heap.size := ⟨_, rfl⟩
            rw [← hG] at PG
            simp only [← hG]
            clear hW hG HJ2 r1 r2
            have hbd : Below W.heap.size W W.drew := (Below.refl _ _).drew
            have HJd := hide (HJ3.out.turn hbd)
            have PGd := hide (PG.out.below hbd)
            obtain ⟨p, q, hu, hq, rowo⟩ := own_gd rfl HJd.out.o1
            have HR := hide rowo
            have HU := hide hu
            have HSO2 := hide fun (X : World) (hX : Below W.drew.heap.size W.drew X) => (⟨(HK3.out _ (HJd.out.turn hX).below).b.1, by rw [← HU.out]; exact (HJd.out.turn hX).c0, (PGd.out.below hX).1, HNM.out _ (HJd.out.turn hX).below⟩ : X.cell? ⟨w.heap.size + 1, 0, none⟩ = some (.slice (some ⟨bg, og, none⟩) m d) ∧ X.cell? ⟨FB, 0, none⟩ = some (.slice p o.length q) ∧ X.cell? ⟨G, 0, none⟩ = some (.int .i64 (j : Int)) ∧ X.cell? ⟨bg, og + j * 2, none⟩ = some (.string x))
            have hSd := HSO2.out _ (Below.refl _ _)
            clear hbd rowo hu PG HJ3
            generalize hol : o.length = mo at *
            have HMO := hide hol
            clear hol
            go_region_held3 (fun X => X.cell? ⟨w.heap.size + 1, 0, none⟩ = some (.slice (some ⟨bg, og, none⟩) m d) ∧ X.cell? ⟨FB, 0, none⟩ = some (.slice p mo q) ∧ X.cell? ⟨G, 0, none⟩ = some (.int .i64 (j : Int)) ∧ X.cell? ⟨bg, og + j * 2, none⟩ = some (.string x))
              (first | exact hSd | assumption | fail)
              (first
              | (go_at_call 33; refine (sfd_hid HFI HMO (by omega) hq HR).mono ?_; rintro e w5 ⟨rfl, hb5⟩; have HJ5 := hide (HJd.out.turn hb5); have PG5 := hide (PGd.out.below hb5); have hS5 := HSO2.out _ hb5; clear hb5)
              | fail)
            obtain ⟨_, g51, _⟩ := PG5.out
            have c5 := HJ5.out.c1
            obtain ⟨gg, cap, w6, hr, c6, f6, hj6⟩ := push_lm (x := F) (z := mm) HJ5.out (by have := HLEN.out; omega)
            obtain ⟨p2, q2, hu2, _, _⟩ := own_ln rfl HJ5.out.o2
            rw [← HNX.out] at hj6
            rw [hu2] at hr c5
            have HJ6 := hide hj6
            clear hj6 hSd hS5 HSO2 HJd PGd HR HU hu2
            generalize LL.length = ml at *
            go_wp2_with (first | (at_builtin; refine Lib.wpList_append_run _ rfl _ _ _ _ rfl _ _ rfl rfl _ _ (hr _) ?_))
            go_roundw
            case rel => exact ⟨i + 1, t, _, by go_num, by omega, HJ6⟩
            case measure => simp only [intOf]; omega
          · have hie : i = m' := by omega
            have HJ4 : Hid (JM w2 wr FB t t' o (la ++ lb.map (newM o gb))) := hide (by have := HJ2.out; rwa [List.take_of_length_le (by rw [HM'.out]; omega)] at this)
            have HLEN : Hid ((la ++ lb.map (newM o gb)).length ≤ 200) := hide (by rw [List.length_append, List.length_map, HN'.out, HM'.out]; omega)
            have him : ¬ (i : Int) < (m' : Int) := by omega
            generalize la ++ lb.map (newM o gb) = LL at *
            clear HJ2
            obtain ⟨p, q, hu, hq, rowo⟩ := own_gd rfl HJ4.out.o1
            obtain ⟨p2, q2, hu2, hq2, rowl⟩ := own_ln rfl HJ4.out.o2
            subst hu hu2
            obtain ⟨c0, c1⟩ := And.intro HJ4.out.c0 HJ4.out.c1
            have HR := hide rowo
            have HR2 := hide rowl
            clear rowo rowl
            obtain ⟨gd, hgd⟩ : ∃ x, sheetB o LL = x := ⟨_, rfl⟩
            have HGD := hide hgd
            clear hgd
            have hL200 := HLEN.out
            go_wp2_with fail
            refine (sgsh_hid HGD (hide rfl) (by omega) hq HSO HR (hide rfl) (by omega) hq2 HR2).mono ?_
            rintro e w7 ⟨rfl, hb7⟩
            have HJ7 := hide (HJ4.out.turn hb7)
            clear hb7 c0 c1
            have HK7 := hide (HK3.out _ HJ7.out.below)
            obtain ⟨rr0, rr1, _⟩ := HK7.out.r
            have ff0 := HK7.out.f 0
            have ff1 := HK7.out.f 1
            cases gd with
            | false =>
              have HNO : Hid (r = none) := hide (by rw [HE2.out, HGD.out]; rfl)
              have HF := hide ((HK7.out.below.setCell (p := ⟨w.heap.size + 2, 0, none⟩) (by show w.heap.size ≤ w.heap.size + 2; omega) (.slice none 0 0)).setCell (p := ⟨w.heap.size + 2, 1, none⟩) (by show w.heap.size ≤ w.heap.size + 2; omega) (.slice none 0 0))
              clear HE2
              go_wp2_with fail
              rw [HNO.out]
              exact bodyPost_ret (v := .tuple #[.agg #[.slice none 0 0, .slice none 0 0], .bool false]) (by simp [results, Try.results20, go_sem, rr0, rr1]) rfl (JA.none HF.out)
            | true =>
              have HYES : Hid (r = some (o, LL)) := hide (by rw [HE2.out, HGD.out]; rfl)
              have hR1 : ∀ b, w2.heap.size ≤ b → b ≠ w.heap.size + 2 := fun b hb => by omega
              have hbase : w.heap.size ≤ w2.heap.size := by omega
              have O1 := hide (own_low15 (own_setne15 (own_setne15 (J := w.heap.size + 2) (o := 0) (u := .slice p o.length q) HJ7.out.o1 (fun e => hR1 _ (HJ7.out.own1 _ e).1 rfl)) (J := w.heap.size + 2) (o := 1) (u := .slice p2 LL.length q2) (fun e => hR1 _ (HJ7.out.own1 _ e).1 rfl)) hbase)
              have O2 := hide (own_low15 (own_setne15 (own_setne15 (J := w.heap.size + 2) (o := 0) (u := .slice p o.length q) HJ7.out.o2 (fun e => hR1 _ (HJ7.out.own2 _ e).1 rfl)) (J := w.heap.size + 2) (o := 1) (u := .slice p2 LL.length q2) (fun e => hR1 _ (HJ7.out.own2 _ e).1 rfl)) hbase)
              have HNE := hide HJ7.out.ne
              have HF := hide ((HK7.out.below.setCell (p := ⟨w.heap.size + 2, 0, none⟩) (by show w.heap.size ≤ w.heap.size + 2; omega) (.slice p o.length q)).setCell (p := ⟨w.heap.size + 2, 1, none⟩) (by show w.heap.size ≤ w.heap.size + 2; omega) (.slice p2 LL.length q2))
              obtain ⟨c0, c1⟩ := And.intro HJ7.out.c0 HJ7.out.c1
              clear HE2 HJ7 HJ4
              go_wp2_with fail
              rw [HYES.out]
              exact bodyPost_ret (v := .tuple #[.agg #[.slice p o.length q, .slice p2 LL.length q2], .bool true]) (by simp [results, Try.results20, go_sem, rr0, rr1]) rfl (JA.some HF.out O1.out O2.out HNE.out)
end Go.Proofs.Ytogkbidphdpjaaa
