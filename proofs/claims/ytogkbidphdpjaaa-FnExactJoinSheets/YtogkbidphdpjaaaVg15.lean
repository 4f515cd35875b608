/-
  What takeSheet of the program does to a sheet that is made, where the other is good.
-/
import Derived.Test.YtogkbidphdpjaaaVf15
namespace Go.Proofs.Ytogkbidphdpjaaa
open Go.RowKit

set_option maxRecDepth 100000 in
set_option maxHeartbeats 16000000 in
theorem ts_yes {J : Nat} {v v' : Value} {gs0 gs : List Gd} {ls0 ls : List (Int × Int)} {a a' : Option Addr} {n c n' c' : Nat} {w : World} (h : Hid (JS w J v v' gs0 ls0)) (h12 : gs0.length ≤ 12) (h80 : ls0.length ≤ 80) (HN : Hid (gs.length = n)) (hc : n ≤ c) (HS : Hid (Short gs)) (HL : Hid (ls.length = n'))
    (HA : Hid (∀ W, Below J w W → GRow W a gs)) (HA' : Hid (∀ W, Below J w W → LRow W a' ls)) (hg : Hid (sheetB gs ls = true)) :
    Calls Try.prog 43 #[.pointer (some ⟨J, 0, none⟩), .agg #[.slice a n c, .slice a' n' c']] w fun e w' => TSE w J (sheetI (gs0, ls0) gs ls) e w' := by
  have HEQ : Hid (sheetI (gs0, ls0) gs ls = (takeI gs0 gs).bind fun o => (picksI o gs ls0 ls).bind fun l => some (o, l)) := hide (by unfold sheetI; rw [if_pos hg.out])
  obtain ⟨hOK, hn12, hn80, hLN⟩ := sheet_parts hg.out
  have HLN := hide hLN
  rw [HN.out] at hn12 HLN
  rw [HL.out] at hn80
  have b1 := below_new w (.cells #[.slice a n c, .slice a' n' c'] 31)
  have hJ := h.out.lt
  have HR := hide (HA.out _ (b1.mono (by omega)))
  have HR' := hide (HA'.out _ (b1.mono (by omega)))
  have HB := hide b1
  have HJ1 := hide (h.out.below b1)
  have PB := hide (PBox.new w (.slice a n c) (.slice a' n' c') 31)
  have V1 : Hid (∀ g, v.ownBlock = some g → g < w.heap.size) := hide fun g hg => (h.out.own1 g hg).2
  have V2 : Hid (∀ g, v'.ownBlock = some g → g < w.heap.size) := hide fun g hg => (h.out.own2 g hg).2
  clear b1 hLN hOK
  go_enter Try.func43, Try.ntmps43
  go_upto_region 3 with ((go_at_call 10; refine (gsh_hid hg HN hc HS HR HL HR').mono ?_; rintro e w1 ⟨rfl, hb1⟩))
  have HB1 := hide (HB.out.trans (hb1.mono HB.out.size))
  have HJ2 := hide (HJ1.out.below hb1)
  have PB2 := hide (PB.out.below hb1)
  have HBJ := hide (HB1.out.mono (show J ≤ w.heap.size by omega))
  obtain ⟨p0, _, hVl⟩ := PB2.out
  have HVJ : Hid (J < w.heap.size) := hide hJ
  have N1 : Hid (v.ownBlock ≠ some w.heap.size) := hide fun e => by have := V1.out _ e; omega
  have N2 : Hid (v'.ownBlock ≠ some w.heap.size) := hide fun e => by have := V2.out _ e; omega
  clear hb1 HB HJ1 PB HR HR' V1 V2
  obtain ⟨V, hV⟩ : ∃ b, b = w.heap.size := ⟨_, rfl⟩
  rw [← hV] at p0 hVl PB2 HVJ N1 N2 ⊢
  have HV := hide hV
  clear hV hJ h
  go_wp2_with fail
  go_loopw [4, 6, 15] (fun s4 _ s wr => ∃ (k : Nat) (u u' : Value) (o : List Gd), s4 = .bool false ∧ s = .int .i64 k ∧ k ≤ n ∧ Hid (takeI gs0 (gs.take k) = some o) ∧ o.length ≤ 12 ∧ Hid (JS wr J u u' o ls0) ∧ Hid (PBox wr V (.slice a n c) (.slice a' n' c')) ∧ Hid (u.ownBlock ≠ some V) ∧ Hid (u'.ownBlock ≠ some V) ∧ Hid (Below J w wr)) (fun _ _ s _ => n - (intOf s).toNat)
  case atStart => exact ⟨0, v, v', gs0, rfl, rfl, Nat.zero_le _, hide rfl, h12, HJ2, PB2, N1, N2, HBJ⟩
  case round =>
    obtain ⟨k, u, u', o, rfl, rfl, hk, HT, ho, HJ, HP, M1, M2, HBl⟩ := hrel
    clear p0 hVl HJ2 PB2 HBJ
    by_cases hlt : k < n
    · obtain ⟨b, off, rfl, hb, r1, r2⟩ := (HA.out _ HBl.out).at (i := k) (by rw [HN.out]; exact hlt)
      have hsz := HS.out k
      have i0 : (0 : Int) ≤ (k : Int) := by omega
      have i1 : (k : Int) < (n : Int) := by omega
      have hklen : k < gs.length := by rw [HN.out]; exact hlt
      have HST := hide (takeI_step hklen HT.out)
      have HSP := hide (takeI_stop hklen HT.out)
      generalize hgx : gs.getD k gd0 = g at *
      obtain ⟨x, z⟩ := g
      have bG := below_new wr (.cells #[.string x, .int .i64 z] 68)
      have PG := hide (PBox.new wr (.string x) (.int .i64 z) 68)
      have HJ1 := hide (HJ.out.below bG)
      have HP1 := hide (HP.out.below bG)
      have hJw := HJ.out.lt
      have HB1 := hide (HBl.out.trans (bG.mono (by omega)))
      have hVw := HP.out.2.2
      clear hgx hklen HT bG
      go_upto_region 6 with fail
      obtain ⟨W, hW⟩ : ∃ W, W = wr.alloc (.cells #[.string x, .int .i64 z] 68) := ⟨_, rfl⟩
      have HSW : Hid (W.heap.size = wr.heap.size + 1) := hide (by rw [hW]; exact World.size_alloc _ _)
      simp only [← hW]
      rw [← hW] at PG HJ1 HP1 HB1
      obtain ⟨G, hG⟩ : ∃ b, b = wr.heap.size := ⟨_, rfl⟩
      rw [← hG] at PG HSW hJw hVw
      simp only [← hG]
      clear hW hG HJ HP HBl
      have hbd : Below W.heap.size W W.drew := (Below.refl _ _).drew
      have HJd := hide (HJ1.out.below hbd)
      have PGd := hide (PG.out.below hbd)
      have HPd := hide (HP1.out.below hbd)
      have HBd := hide (HB1.out.trans (hbd.mono (by have := HJ1.out.lt; omega)))
      obtain ⟨aj, cj, hu, _, rowj⟩ := own_gd rfl HJd.out.o1
      have HRJ := hide rowj
      have HU := hide hu
      have j0 : W.cell? ⟨J, 0, none⟩ = some (.slice aj o.length cj) := by rw [← hu]; exact HJd.out.c0
      have g0 : W.cell? ⟨G, 0, none⟩ = some (.string x) := PG.out.1
      have g1 : W.cell? ⟨G, 1, none⟩ = some (.int .i64 z) := PG.out.2.1
      clear hbd rowj hu PG HJ1 HP1 HB1
      generalize hol : o.length = m at *
      have HM := hide hol
      clear hol
      have hVG : V ≠ G := by have := HVJ.out; omega
      cases hp : putI o (x, z) with
      | none =>
        have HNO : Hid (sheetI (gs0, ls0) gs ls = none) := hide (by rw [HEQ.out, HSP.out hp]; rfl)
        obtain ⟨hc1, hc2⟩ := putI_none hp
        have HC1 := hide hc1
        rcases hc2 with hc2 | ⟨hc2, hc3⟩
        · have HC2 := hide hc2
          clear hp hc1 hc2 HST HSP HEQ
          go_region_with (first
            | (go_at_call 59; refine (cont_any HC1 HM.out (by omega) HRJ.out).mono ?_; rintro e w2 ⟨rfl, hb2⟩; have HJ2 := hide (HJd.out.below hb2); have PG2 := hide (PGd.out.below hb2); have HB2 := hide (HBd.out.trans (hb2.mono (Nat.le_of_lt HJd.out.lt))); have g02 := PG2.out.1; have g12 := PG2.out.2.1; clear hb2)
            | (go_at_call 60; refine (tg_has HJ2 (by rw [HM.out]; omega) HC2).mono ?_; rintro e w3 ⟨rfl, hb3⟩; have HB3 := hide (HB2.out.trans (hb3.mono (Nat.le_of_lt HJ2.out.lt))); clear hb3))
          all_goals
            go_wp2_with fail
            go_ret
            exact ⟨false, rfl, HB3.out, Or.inl ⟨rfl, HNO.out⟩⟩
        · have HC2 := hide hc2
          clear hp hc1 hc2 HST HSP HEQ
          have hm12 : o.length = 12 := hc3
          clear hc3
          go_region_with (first
            | (go_at_call 59; refine (cont_any HC1 HM.out (by omega) HRJ.out).mono ?_; rintro e w2 ⟨rfl, hb2⟩; have HJ2 := hide (HJd.out.below hb2); have PG2 := hide (PGd.out.below hb2); have HB2 := hide (HBd.out.trans (hb2.mono (Nat.le_of_lt HJd.out.lt))); have g02 := PG2.out.1; have g12 := PG2.out.2.1; clear hb2)
            | (go_at_call 60; refine (tg_many HJ2 hm12 HC2).mono ?_; rintro e w3 ⟨rfl, hb3⟩; have HB3 := hide (HB2.out.trans (hb3.mono (Nat.le_of_lt HJ2.out.lt))); clear hb3))
          all_goals
            go_wp2_with fail
            go_ret
            exact ⟨false, rfl, HB3.out, Or.inl ⟨rfl, HNO.out⟩⟩
      | some o' =>
        have HT' := hide (HST.out.trans hp)
        rcases putI_some hp (by rw [HM.out]; omega) with ⟨hc1, rfl⟩ | ⟨hc1, hc2, hc3, rfl⟩
        · have HC1 := hide hc1
          have HCC : Hid (CC15 W J G (.slice aj m cj) x z W.drew) := hide ⟨j0, g0, g1, (Below.refl _ _).drew⟩
          have KC : Hid (∀ X, CC15 W J G (.slice aj m cj) x z X → Calls Try.prog 59 #[.slice aj m cj, .agg #[.string x, .int .i64 z]] X fun e w' => e = .returned (.bool true) ∧ CC15 W J G (.slice aj m cj) x z w') := hide fun X hX => (cont_any HC1 HM.out (by omega) (HRJ.out.keep (w' := X) hX.2.2.2.size fun b hb => hX.2.2.2.block b hb)).mono fun e w' h => ⟨h.1, hX.below h.2⟩
          have EC : Hid (∀ args w, (callFunc 59 args).run Try.prog w = .ok (.enter 59 args) w) := hide (enters_of Try.func59 (by kernel_rfl) rfl)
          clear hp hc1 HST HSP
          refine wp_region_quiet (C := CC15 W J G (.slice aj m cj) x z) (by kernel_rfl) (by kernel_rfl) HCC.out ?_
          rw [List.toList_toArray]
          repeat (first
            | go_big_quiet_skip
            | (go_big_quiet_want; first
              | (go_big_quiet_op; go_big_quiet_on)
              | (go_big_quiet_op; refine ⟨_, fun _ _ => rfl, ?_⟩; go_big_quiet_on)
              | (refine q_callC15 (args := #[.slice aj m cj, .agg #[.string x, .int .i64 z]]) rfl ?_ EC.out KC.out ?_; simp [go_sem]; simp [go_sem]; go_big_quiet_on)
              | (refine q_good15 (b := G) (x := x) (y := z) rfl ?_ (fun V hV => ⟨hV.2.1, hV.2.2.1⟩) ?_; simp [go_sem]; simp [go_sem]; go_big_quiet_on)
              | (refine q_goods15 (b := J) (v := .slice aj m cj) rfl ?_ (fun V hV => hV.1) ?_; simp [go_sem]; simp [go_sem]; go_big_quiet_on)))
          refine wpQuiet_nil ?_
          intro w2 hC2
          have hb2 : Below W.drew.heap.size W.drew w2 := ⟨hC2.2.2.2.os, hC2.2.2.2.tape, hC2.2.2.2.output, hC2.2.2.2.size, hC2.2.2.2.block⟩
          have HJ2 := hide (HJd.out.below hb2)
          have HP2 := hide (HPd.out.below hb2)
          have HB2 := hide (HBd.out.trans (hb2.mono (Nat.le_of_lt HJd.out.lt)))
          clear hb2 hC2 KC EC HCC j0 g0 g1
          go_wp2_with fail
          go_roundw
          case rel => exact ⟨k + 1, u, u', o', rfl, by go_num, by omega, HT', by rw [HM.out]; exact ho, HJ2, HP2, M1, M2, HB2⟩
          case measure => simp only [intOf]; omega
        · have HC1 := hide hc1
          have HC2 := hide hc2
          have hm12 : m < 12 := by rw [← HM.out]; exact hc3
          clear hp hc1 hc2 HST HSP hc3
          go_region_with (first
            | (go_at_call 59; refine (cont_any HC1 HM.out (by omega) HRJ.out).mono ?_; rintro e w2 ⟨rfl, hb2⟩; have HJ2 := hide (HJd.out.below hb2); have PG2 := hide (PGd.out.below hb2); have HP2 := hide (HPd.out.below hb2); have HB2 := hide (HBd.out.trans (hb2.mono (Nat.le_of_lt HJd.out.lt))); have g02 := PG2.out.1; have g12 := PG2.out.2.1; clear hb2)
            | (go_at_call 60; refine (tg_yes HJ2 (by rw [HM.out]; exact hm12) hsz HC2).mono ?_; rintro e w3 ⟨rfl, u2, hj3, hg3, hu3⟩; have HJ3 := hide hj3; have HP3 := hide (hg3.pbox HP2.out (Nat.ne_of_gt HVJ.out) M1.out); have HB3 := hide (HB2.out.trans (hg3.under (Nat.le_refl _) HJ2.out.lt fun g hg => (HJ2.out.own1 g hg).1)); have M3 : Hid (u2.ownBlock ≠ some V) := hide (fun e => by
                rcases hu3 _ e with h1 | h1
                · exact M1.out h1
                · have := HP2.out.2.2; omega); clear hj3 hg3 hu3))
          all_goals
            go_wp2_with fail
            go_roundw
            case rel => exact ⟨k + 1, u2, u', o ++ [(x, z)], rfl, by go_num, by omega, HT', by rw [List.length_append, HM.out]; simp; omega, HJ3, HP3, M3, M2, HB3⟩
            case measure => simp only [intOf]; omega
    · have hke : k = n := by omega
      have HO : Hid (takeI gs0 gs = some o) := hide (by have := HT.out; rwa [List.take_of_length_le (by rw [HN.out]; omega)] at this)
      have HEQ2 : Hid (sheetI (gs0, ls0) gs ls = (picksI o gs ls0 ls).bind fun l => some (o, l)) := hide (by rw [HEQ.out, HO.out]; rfl)
      have hkn : ¬ (k : Int) < (n : Int) := by omega
      obtain ⟨p0, p1, _⟩ := HP.out
      clear HT HO HEQ
      go_wp2_with fail
      go_loopw [4, 8, 36] (fun s4 _ s wq => ∃ (i : Nat) (t t' : Value) (l : List (Int × Int)), s4 = .bool false ∧ s = .int .i64 i ∧ i ≤ n' ∧ Hid (picksI o gs ls0 (ls.take i) = some l) ∧ l.length ≤ 80 ∧ Hid (JS wq J t t' o l) ∧ Hid (PBox wq V (.slice a n c) (.slice a' n' c')) ∧ Hid (t.ownBlock ≠ some V) ∧ Hid (t'.ownBlock ≠ some V) ∧ Hid (Below J w wq)) (fun _ _ s _ => n' - (intOf s).toNat)
      case atStart => exact ⟨0, u, u', ls0, rfl, rfl, Nat.zero_le _, hide rfl, h80, HJ, HP, M1, M2, HBl⟩
      case round =>
        obtain ⟨i, t, t', l, rfl, rfl, hi, HT2, hl, HJ2, HP2, Q1, Q2, HBq⟩ := hrel
        clear p0 p1 HJ HP M1 M2 HBl
        by_cases hlt2 : i < n'
        · have hilen : i < ls.length := by rw [HL.out]; exact hlt2
          obtain ⟨b, off, rfl, hb, r1, r2⟩ := (HA'.out _ HBq.out).at (i := i) hilen
          have hln := HLN.out i hilen
          obtain ⟨l0, l1, l2⟩ := line_parts hln
          have HST2 := hide (picksI_step (gb := gs) hilen HT2.out)
          have HSP2 := hide (picksI_stop (gb := gs) hilen HT2.out)
          generalize ls.getD i (0, 0) = y at *
          obtain ⟨gi, mm⟩ := y
          obtain ⟨j, rfl⟩ := Int.eq_ofNat_of_zero_le l0
          simp only [Int.toNat_natCast] at l1 HST2 HSP2
          have hjlen : j < gs.length := by rw [HN.out]; exact l1
          have i0 : (0 : Int) ≤ (i : Int) := by omega
          have i1 : (i : Int) < (n' : Int) := by omega
          have j0 : (0 : Int) ≤ (j : Int) := by omega
          have j1 : (j : Int) < (n : Int) := by omega
          obtain ⟨bg, og, rfl, _, _, _⟩ := (HA.out _ HBq.out).at (i := j) hjlen
          have HNM : Hid (∀ X, Below J w X → X.cell? ⟨bg, og + j * 2, none⟩ = some (.string (gs.getD j gd0).1)) := hide fun X hX => by
            obtain ⟨b2, o2, e2, _, q1, _⟩ := (HA.out X hX).at (i := j) hjlen
            cases e2
            exact q1
          generalize (gs.getD j gd0).1 = x at *
          have bG := below_new wr (.cells #[.int .i64 (j : Int), .int .i64 mm] 52)
          have PG := hide (PBox.new wr (.int .i64 (j : Int)) (.int .i64 mm) 52)
          have HJ3 := hide (HJ2.out.below bG)
          have HP3 := hide (HP2.out.below bG)
          have hJw := HJ2.out.lt
          have HB3 := hide (HBq.out.trans (bG.mono (by omega)))
          have hVw := HP2.out.2.2
          have HT2own : Hid (t'.ownBlock ≠ some wr.heap.size) := hide fun e => by have := (HJ2.out.own2 _ e).2; omega
          have HT1own : Hid (t.ownBlock ≠ some wr.heap.size) := hide fun e => by have := (HJ2.out.own1 _ e).2; omega
          clear HT2 bG hln l0 hb
          go_upto_region 12 with fail
          obtain ⟨W, hW⟩ : ∃ W, W = wr.alloc (.cells #[.int .i64 (j : Int), .int .i64 mm] 52) := ⟨_, rfl⟩
          have HSW : Hid (W.heap.size = wr.heap.size + 1) := hide (by rw [hW]; exact World.size_alloc _ _)
          simp only [← hW]
          rw [← hW] at PG HJ3 HP3 HB3
          obtain ⟨G, hG⟩ : ∃ b, b = wr.heap.size := ⟨_, rfl⟩
          rw [← hG] at PG HSW hJw hVw HT2own HT1own
          simp only [← hG]
          clear hW hG HJ2 HP2 HBq r1 r2
          have hbd : Below W.heap.size W W.drew := (Below.refl _ _).drew
          have HJd := hide (HJ3.out.below hbd)
          have PGd := hide (PG.out.below hbd)
          have HPd := hide (HP3.out.below hbd)
          have HBd := hide (HB3.out.trans (hbd.mono (by have := HJ3.out.lt; omega)))
          have hSd := (⟨HPd.out.1, PGd.out.1, PGd.out.2.1, HNM.out _ HBd.out⟩ : W.drew.cell? ⟨V, 0, none⟩ = some (.slice (some ⟨bg, og, none⟩) n c) ∧ W.drew.cell? ⟨G, 0, none⟩ = some (.int .i64 (j : Int)) ∧ W.drew.cell? ⟨G, 1, none⟩ = some (.int .i64 mm) ∧ W.drew.cell? ⟨bg, og + j * 2, none⟩ = some (.string x))
          clear hbd PG HJ3 HP3 HB3
          cases hp : pickI o l x mm with
          | none =>
            have HNO : Hid (sheetI (gs0, ls0) gs ls = none) := hide (by rw [HEQ2.out, HSP2.out hp]; rfl)
            rcases pickI_none hp with hc1 | ⟨hc1, hc2⟩
            · have HC1 := hide hc1
              clear hp hc1 HST2 HSP2 HEQ2
              go_region_held3 (fun w' => w'.cell? ⟨V, 0, none⟩ = some (.slice (some ⟨bg, og, none⟩) n c) ∧ w'.cell? ⟨G, 0, none⟩ = some (.int .i64 (j : Int)) ∧ w'.cell? ⟨G, 1, none⟩ = some (.int .i64 mm) ∧ w'.cell? ⟨bg, og + j * 2, none⟩ = some (.string x))
                (first | exact hSd | assumption | fail)
                (first
                | (go_at_call 61; refine (tp_none HJd ho HC1).mono ?_; rintro e w3 ⟨rfl, hb3⟩; have HB4 := hide (HBd.out.trans (hb3.mono (Nat.le_of_lt HJd.out.lt))); have hS3 := (⟨(HPd.out.below hb3).1, (PGd.out.below hb3).1, (PGd.out.below hb3).2.1, HNM.out _ HB4.out⟩ : w3.cell? ⟨V, 0, none⟩ = some (.slice (some ⟨bg, og, none⟩) n c) ∧ w3.cell? ⟨G, 0, none⟩ = some (.int .i64 (j : Int)) ∧ w3.cell? ⟨G, 1, none⟩ = some (.int .i64 mm) ∧ w3.cell? ⟨bg, og + j * 2, none⟩ = some (.string x)); clear hb3)
                | fail)
              go_wp2_with fail
              go_ret
              exact ⟨false, rfl, HB4.out, Or.inl ⟨rfl, HNO.out⟩⟩
            · have HC1 := hide hc1
              have HC2 := hide hc2
              clear hp hc1 hc2 HST2 HSP2 HEQ2
              go_region_held3 (fun w' => w'.cell? ⟨V, 0, none⟩ = some (.slice (some ⟨bg, og, none⟩) n c) ∧ w'.cell? ⟨G, 0, none⟩ = some (.int .i64 (j : Int)) ∧ w'.cell? ⟨G, 1, none⟩ = some (.int .i64 mm) ∧ w'.cell? ⟨bg, og + j * 2, none⟩ = some (.string x))
                (first | exact hSd | assumption | fail)
                (first
                | (go_at_call 61; refine (tp_many HJd ho HC2.out HC1).mono ?_; rintro e w3 ⟨rfl, hb3⟩; have HB4 := hide (HBd.out.trans (hb3.mono (Nat.le_of_lt HJd.out.lt))); have hS3 := (⟨(HPd.out.below hb3).1, (PGd.out.below hb3).1, (PGd.out.below hb3).2.1, HNM.out _ HB4.out⟩ : w3.cell? ⟨V, 0, none⟩ = some (.slice (some ⟨bg, og, none⟩) n c) ∧ w3.cell? ⟨G, 0, none⟩ = some (.int .i64 (j : Int)) ∧ w3.cell? ⟨G, 1, none⟩ = some (.int .i64 mm) ∧ w3.cell? ⟨bg, og + j * 2, none⟩ = some (.string x)); clear hb3)
                | fail)
              go_wp2_with fail
              go_ret
              exact ⟨false, rfl, HB4.out, Or.inl ⟨rfl, HNO.out⟩⟩
          | some l' =>
            have HT3 := hide (HST2.out.trans hp)
            obtain ⟨hc1, hc2, rfl⟩ := pickI_some hp hl
            have HC1 := hide hc1
            have hGJ : G ≠ J := by omega
            have hVJ : V ≠ J := Nat.ne_of_gt HVJ.out
            clear hp hc1 HST2 HSP2
            go_region_held3 (fun w' => w'.cell? ⟨V, 0, none⟩ = some (.slice (some ⟨bg, og, none⟩) n c) ∧ w'.cell? ⟨G, 0, none⟩ = some (.int .i64 (j : Int)) ∧ w'.cell? ⟨G, 1, none⟩ = some (.int .i64 mm) ∧ w'.cell? ⟨bg, og + j * 2, none⟩ = some (.string x))
              (first | exact hSd | assumption | fail)
              (first
              | (go_at_call 61; refine (tp_yes HJd ho hc2 HC1).mono ?_; rintro e w3 ⟨rfl, t2, hj3, hg3, hu3⟩; have HJ4 := hide hj3; have HB4 := hide (HBd.out.trans (hg3.under (Nat.le_refl _) HJd.out.lt fun g hg => (HJd.out.own2 g hg).1)); have HP4 := hide (hg3.pbox HPd.out hVJ Q2.out); have PG4 := hide (hg3.pbox PGd.out hGJ HT2own.out); have Q3 : Hid (t2.ownBlock ≠ some V) := hide (fun e => by
                  rcases hu3 _ e with h1 | h1
                  · exact Q2.out h1
                  · have := HPd.out.2.2; omega); have hS3 := (⟨HP4.out.1, PG4.out.1, PG4.out.2.1, HNM.out _ HB4.out⟩ : w3.cell? ⟨V, 0, none⟩ = some (.slice (some ⟨bg, og, none⟩) n c) ∧ w3.cell? ⟨G, 0, none⟩ = some (.int .i64 (j : Int)) ∧ w3.cell? ⟨G, 1, none⟩ = some (.int .i64 mm) ∧ w3.cell? ⟨bg, og + j * 2, none⟩ = some (.string x)); clear hj3 hg3 hu3)
              | fail)
            clear hSd hS3
            go_wp2_with fail
            go_roundw
            case rel => exact ⟨i + 1, t, t2, l ++ [(fndI o x, mm)], rfl, by go_num, by omega, HT3, by rw [List.length_append]; simp; omega, HJ4, HP4, Q1, Q3, HB4⟩
            case measure => simp only [intOf]; omega
        · have hie : i = n' := by omega
          have HYES : Hid (sheetI (gs0, ls0) gs ls = some (o, l)) := hide (by
            have := HT2.out
            rw [List.take_of_length_le (by rw [HL.out]; omega)] at this
            rw [HEQ2.out, this]; rfl)
          have hin : ¬ (i : Int) < (n' : Int) := by omega
          clear HT2 HEQ2
          go_wp2_with fail
          go_ret
          exact ⟨true, rfl, HBq.out, Or.inr ⟨rfl, (o, l), t, t', HYES.out, ho, hl, HJ2.out⟩⟩
end Go.Proofs.Ytogkbidphdpjaaa
