/-
  FnChoice: the law's own walk.
-/
import Derived.Test.YtdlpbemjbmgbeaaTc
namespace Go.Proofs.Ytdlpbemjbmgbeaa
open Go.RowKit

theorem World.heap_alloc_size7 (w : World) (o : Obj) : (w.alloc o).heap.size = w.heap.size + 1 := by simp
theorem or_new {W : World} {a : Option Addr} {xs : List Int} {c : Nat} {T : TypeId} (h : ARow W a xs) : ORow (W.alloc (.cells #[.slice a xs.length c] T)) (some ⟨W.heap.size, 0, none⟩) [xs] := by
  refine Or.inr ⟨W.heap.size, 0, rfl, by simp, fun i hi => ?_⟩
  have : i = 0 := by simpa using hi
  subst this
  exact ⟨a, c, by simp, h.alloc _⟩
set_option maxRecDepth 100000 in
set_option maxHeartbeats 1000000 in
theorem lCh_long {a1 a2 : Option Addr} {len1 cap1 len2 cap2 : Nat} {w : World} (h1 : (1048576 : Int) < wrap64 ((len1 : Int) + (len2 : Int))) :
    Calls Try.prog 3 #[.slice a1 len1 cap1, .slice a2 len2 cap2] w fun e w' => e = .returned (.bool true) ∧ Below w.heap.size w w' := by
  go_enter Try.func3, Try.ntmps3
  go_wp2_with fail
  go_ret
  exact ⟨rfl, Below.refl _ _⟩
set_option maxRecDepth 100000 in
set_option maxHeartbeats 8000000 in
theorem lCh_main {a1 a2 : Option Addr} {len1 cap1 len2 cap2 : Nat} {w : World} (hs1 : Hid (Src w a1 len1)) (hs2 : Hid (Src w a2 len2)) (h1 : ¬ (1048576 : Int) < wrap64 ((len1 : Int) + (len2 : Int))) (hl2 : len2 ≤ 1048576) :
    Calls Try.prog 3 #[.slice a1 len1 cap1, .slice a2 len2 cap2] w fun e w' => e = .returned (.bool true) ∧ Below w.heap.size w w' := by
  go_enter Try.func3, Try.ntmps3
  go_wp2_with fail
  refine (drawBC_any hs1).mono ?_
  rintro e w1 ⟨ao, C, L, p, rfl, hl, hC, hsm, hr1, hb1⟩
  have R1 := hide hr1
  have B1 := hide hb1
  have HSM := hide hsm
  have HI := hide (fun (w' : World) (h : ORow w' ao L) => bc_w (c := C) (p := p) rfl h)
  have HS := hide (fun (w' : World) (h : ORow w' ao L) => sbc_w (c := C) (p := p) rfl (by omega) h)
  have HB := hide (fun (w' : World) (h : ORow w' ao L) => bo_w (c := C) (p := p) rfl h)
  have HSB := hide (fun (w' : World) (h : ORow w' ao L) => sbo_w (c := C) (p := p) rfl (by omega) h)
  have HG := hide (fun (w' : World) (h : ORow w' ao L) => gof_any (c := C) rfl h)
  have HSG := hide (fun (w' : World) (h : ORow w' ao L) => sgof_any (c := C) rfl (by omega) h)
  have HF := hide (@bc_facts L p)
  have hcl : (bcL L p).length ≤ 13 := by
    cases h : chB L p
    · rw [bcL_no h]; simp
    · rw [(bc_facts h).choose_spec.2.2.2.1]; exact hl
  clear hr1 hb1 hsm
  generalize chB L p = ok at *
  generalize bcL L p = cs at *
  generalize bcI L p = N at *
  generalize boI L p = Bo at *
  generalize Of.offersB L = og at *
  have hob : (ok != ok) = false := by simp
  have hoc : (og != og) = false := by simp
  have hod : (N != N) = false := by simp
  have hoe : (Bo != Bo) = false := by simp
  go_wp2_with fail
  refine (HI.out _ R1.out).mono ?_
  rintro e w2 ⟨v2, rfl, own2, hb2⟩
  obtain ⟨ac, cc, rfl, r2⟩ := ob_slice rfl own2
  have R2 := hide (R1.out.below hb2)
  have B2 := hide (B1.out.trans (hb2.mono B1.out.size))
  have T2 := hide r2
  clear hb2 r2 own2 R1 B1 HI
  go_wp2_with fail
  refine (HS.out _ R2.out).mono ?_
  rintro e w3 ⟨ad, cd, rfl, r3, hb3⟩
  have R3 := hide (R2.out.below hb3)
  have B3 := hide (B2.out.trans (hb3.mono B2.out.size))
  have T3 := hide (T2.out.below hb3)
  have W3 := hide r3
  clear hb3 r3 R2 B2 T2 HS
  go_wp2_with fail
  refine (HB.out _ R3.out).mono ?_
  rintro e w4 ⟨rfl, hb4⟩
  have R4 := hide (R3.out.below hb4)
  have B4 := hide (B3.out.trans (hb4.mono B3.out.size))
  have T4 := hide (T3.out.below hb4)
  have W4 := hide (W3.out.below hb4)
  clear hb4 R3 B3 T3 W3 HB
  go_wp2_with fail
  refine (HSB.out _ R4.out).mono ?_
  rintro e w5 ⟨rfl, hb5⟩
  have R5 := hide (R4.out.below hb5)
  have B5 := hide (B4.out.trans (hb5.mono B4.out.size))
  have T5 := hide (T4.out.below hb5)
  have W5 := hide (W4.out.below hb5)
  clear hb5 R4 B4 T4 W4 HSB
  go_wp2_with fail
  refine (sameI_b rfl (by omega) T5.out W5.out).mono ?_
  rintro e w6 ⟨rfl, hb6⟩
  have R6 := hide (R5.out.below hb6)
  have B6 := hide (B5.out.trans (hb6.mono B5.out.size))
  have T6 := hide (T5.out.below hb6)
  clear hb6 R5 B5 T5 W5
  go_wp2_with fail
  refine (HG.out _ R6.out).mono ?_
  rintro e w7 ⟨rfl, hb7⟩
  have R7 := hide (R6.out.below hb7)
  have B7 := hide (B6.out.trans (hb7.mono B6.out.size))
  have T7 := hide (T6.out.below hb7)
  clear hb7 R6 B6 T6 HG
  go_wp2_with fail
  refine (HSG.out _ R7.out).mono ?_
  rintro e w8 ⟨rfl, hb8⟩
  have R8 := hide (R7.out.below hb8)
  have B8 := hide (B7.out.trans (hb8.mono B7.out.size))
  have T8 := hide (T7.out.below hb8)
  clear hb8 R7 B7 T7 HSG
  go_upto_if 108 with fail
  clear hob hoc hod hoe
  go_cut [4, 17, 18, 19, 20, 21, 22, 23, 24, 25] (fun s4 _ _ _ _ _ _ _ _ _ wd => s4 = .bool false ∧ Hid (Below w.heap.size w wd))
  case first =>
    cases ok
    · go_wp2_with fail
      go_meet
      case rel => exact ⟨rfl, hide B8.out⟩
    · obtain ⟨P, rfl, hP, _, hcl2, hvb, hva, hsum, hN0, hNB, hall⟩ := HF.out rfl
      have HALL := hide hall
      have HVB := hide hvb
      have HLS := hide (fun (w' : World) (h : ARow w' ac cs) => lsum_any (c := cc) h (by omega) (Pf.allB_of fun i hi => by
        have := (Of.valB_yes hvb).2.2 i (by omega)
        have := HSM.out i
        exact Pf.inB_of (by omega) (by omega)))
      have HVA := hide (fun (w' : World) (h : ORow w' ao L) (h2 : ARow w' ac cs) => va_w (c := C) (d := cc) rfl rfl h h2)
      rw [hvb, hva] at HVA
      have HVO := hide (fun (a : Option Addr) (d : Nat) (xs : List Int) (w' : World) (hx : xs.length = L.length) (h : ORow w' ao L) (h2 : ARow w' a xs) => va_w (c := C) (d := d) rfl hx h h2)
      have hNN : (N != N) = false := by simp
      have hsP : ¬ (P : Int) < cs.sum := by omega
      have hN0' : ¬ N < 0 := by omega
      have hNB' : ¬ Bo < N := by omega
      clear HF hall hva hvb hcl2
      go_wp2_with fail
      refine (HVA.out _ R8.out T8.out).mono ?_
      rintro e w9 ⟨rfl, hb9⟩
      have R9 := hide (R8.out.below hb9)
      have B9 := hide (B8.out.trans (hb9.mono B8.out.size))
      have T9 := hide (T8.out.below hb9)
      clear hb9 R8 B8 T8 HVA
      go_wp2_with fail
      refine (HLS.out _ T9.out).mono ?_
      rintro e w9' ⟨rfl, hw9⟩
      obtain rfl : w9 = w9' := hw9.symm
      have hmk := makeI_run L.length (by omega)
      have HM := hide (made_own w9 L.length (by omega))
      have HVN := hide (val_none (Of.valB_yes HVB.out).1)
      clear HLS HVB T9 hN0 hNB hsum hcl
      go_wp2_with fail
      clear hsP hN0' hNB' hNN
      go_loopw [20, 21, 22, 23, 147] (fun s20 _ _ _ s wr => ∃ (i lf : Nat) (ys : List Int), s = .int .i64 i ∧ s20 = .int .i64 lf ∧ i ≤ len2 ∧ lf ≤ P ∧ ys.length = L.length ∧ Hid (Of.valB L ys = true ∧ ys.sum + (lf : Int) = P) ∧ wr.ownsRow w9.heap.size 3 1 (.slice (some ⟨w9.heap.size, 0, none⟩) L.length L.length) L.length (ints ys) ∧ Below w9.heap.size w9 wr) (fun _ _ _ _ s _ => len2 - (intOf s).toNat)
      case atStart => exact ⟨0, P, List.replicate L.length 0, rfl, rfl, Nat.zero_le _, Nat.le_refl _, by simp, hide ⟨HVN.out, by simp⟩, HM.out, (Below.refl _ _).alloc (Nat.le_refl _) _⟩
      case round =>
        obtain ⟨i, lf, ys, rfl, rfl, hi, hlf, hy, HFA, hown, hB⟩ := hrel
        clear hmk HM HVN
        by_cases hlt : i < len2
        · obtain ⟨b2, off2, rfl, hc2⟩ : ∃ b off, a2 = some ⟨b, off, none⟩ ∧ ∀ i, i < len2 → ∃ z : Int, wr.cell? ⟨b, off + i, none⟩ = some (.int .u8 z) ∧ 0 ≤ z ∧ z ≤ 255 := by
            rcases (hs2.out.below (B9.out.trans (hB.mono B9.out.size))).1 with h | h
            · omega
            · exact h
          obtain ⟨z, cz, z0, z1⟩ := hc2 i hlt
          obtain ⟨zn, rfl⟩ : ∃ zn : Nat, z = (zn : Int) := ⟨z.toNat, by omega⟩
          have i0 : (0 : Int) ≤ (i : Int) := by omega
          have i1 : (i : Int) < (len2 : Int) := by omega
          clear hc2
          by_cases hL : L.length = 0
          · have hL0 : ((L.length : Int) == 0) = true := by simp [hL]
            clear hL
            have HV2 := hide (HVO.out (some ⟨w9.heap.size, 0, none⟩) L.length ys wr hy (R9.out.below hB) (arow_owns hy.symm hown))
            rw [HFA.out.1] at HV2
            have hle := HALL.out ys HFA.out.1 (by have := HFA.out.2; omega)
            generalize vaI L ys = V at HV2 hle
            have hnv : ¬ N < V := by omega
            have BF := hide (B9.out.trans (hB.mono B9.out.size))
            clear hown HFA HVO HALL
            go_wp2_with fail
            refine HV2.out.mono ?_
            rintro e w10 ⟨rfl, hb10⟩
            have BG := hide (BF.out.trans (hb10.mono BF.out.size))
            go_wp2_with fail
            go_meet
            case rel => exact ⟨rfl, BG⟩
          · have hL0 : ((L.length : Int) == 0) = false := beq_eq_false_iff_ne.2 (by omega)
            obtain ⟨kk, hkk⟩ : ∃ kk, kk = (zn + i) % L.length := ⟨_, rfl⟩
            have hkm : kk < L.length := by rw [hkk]; exact Nat.mod_lt _ (by omega)
            have hmod : (((zn : Int) + (i : Int)).tmod (L.length : Int)) = (kk : Int) := by
              rw [Int.tmod_eq_emod_of_nonneg (by omega), hkk, Int.natCast_emod, Int.natCast_add]
            obtain ⟨yv, hyv⟩ : ∃ yv, yv = ys.getD kk 0 := ⟨_, rfl⟩
            obtain ⟨gl, hgv⟩ : ∃ gl, gl = (L.getD kk []).length := ⟨_, rfl⟩
            obtain ⟨bo, oo, ai, ci, e, hbl, r1, _⟩ := (R9.out.below hB).at hkm
            subst e
            rw [← hgv] at r1
            have c0 : wr.cell? ⟨w9.heap.size, kk, none⟩ = some (.int .i64 yv) := by rw [hown.cellAt _ (by omega), ints_get ys _ (by omega), hyv]
            have f0 := hown.frozenAt kk
            have HMORE : Hid (yv < gl → Of.valB L (ys.set kk (yv + 1)) = true ∧ (ys.set kk (yv + 1)).sum = ys.sum + 1) := hide fun h => by
              have := val_more HFA.out.1 hkm (by rw [← hyv, ← hgv]; exact h)
              rw [← hyv] at this
              exact this
            have hyb := (Of.valB_yes HFA.out.1).2.2 _ hkm
            rw [← hyv, ← hgv] at hyb
            obtain ⟨st1, st2⟩ := hown.stored kk (.int .i64 (yv + 1))
            rw [ints_set] at st1
            have HST := hide st1
            have HB2 := hide (hB.setCell (p := ⟨w9.heap.size, kk, none⟩) (Nat.le_refl _) (.int .i64 (yv + 1)))
            have hgl : gl ≤ 1000 := by have := HSM.out kk; omega
            have k0 : (0 : Int) ≤ (kk : Int) := by omega
            have k1 : (kk : Int) < (L.length : Int) := by omega
            have hz1 : (L.length : Int) ≠ 0 := by omega
            clear hkk hyv hgv st1 st2 hbl
            by_cases hl1 : 0 < lf
            · have l1 : (0 : Int) < (lf : Int) := by omega
              by_cases hyg : yv < gl
              · have HM2 := hide (HMORE.out hyg)
                have t1 : decide (yv < (gl : Int)) = true := by simpa using hyg
                have HY2 : Hid ((ys.set kk (yv + 1)).length = L.length) := hide (by simpa using hy)
                have HS2 : Hid (Of.valB L (ys.set kk (yv + 1)) = true ∧ (ys.set kk (yv + 1)).sum + ((lf - 1 : Nat) : Int) = P) := hide ⟨HM2.out.1, by have h1 := HM2.out.2; have h2 := HFA.out.2; omega⟩
                obtain ⟨y0, y1⟩ : 0 ≤ yv ∧ yv ≤ 1000 := by have := HSM.out kk; omega
                clear HM2 HFA hown HMORE hyb
                go_wp2_with fail
                go_quiet (fail)
                have y2 : wrap64 (yv + 1) = yv + 1 := by unfold wrap64; omega
                go_wp2_with fail
                go_roundw
                case rel => exact ⟨i + 1, lf - 1, ys.set kk (yv + 1), by go_num, by congr 1; omega, by omega, by omega, HY2.out, HS2, HST.out, below_drewN HB2.out nq⟩
                case measure => simp only [intOf]; omega
              · have t1 : decide (yv < (gl : Int)) = false := by simpa using hyg
                clear HMORE HST HB2
                go_wp2_with fail
                go_quiet (fail)
                go_wp2_with fail
                go_roundw
                case rel => exact ⟨i + 1, lf, ys, by go_num, rfl, by omega, hlf, hy, HFA, hown, below_drewN hB _⟩
                case measure => simp only [intOf]; omega
            · have l1 : ¬ (0 : Int) < (lf : Int) := by omega
              clear HMORE HST HB2
              go_wp2_with fail
              go_quiet (fail)
              go_wp2_with fail
              go_roundw
              case rel => exact ⟨i + 1, lf, ys, by go_num, rfl, by omega, hlf, hy, HFA, hown, below_drewN hB _⟩
              case measure => simp only [intOf]; omega
        · have hie : i = len2 := by omega
          subst hie
          have HV2 := hide (HVO.out (some ⟨w9.heap.size, 0, none⟩) L.length ys wr hy (R9.out.below hB) (arow_owns hy.symm hown))
          rw [HFA.out.1] at HV2
          have hle := HALL.out ys HFA.out.1 (by have := HFA.out.2; omega)
          generalize vaI L ys = V at HV2 hle
          have hnv : ¬ N < V := by omega
          have BF := hide (B9.out.trans (hB.mono B9.out.size))
          clear hown HFA HVO HALL
          go_wp2_with fail
          refine HV2.out.mono ?_
          rintro e w10 ⟨rfl, hb10⟩
          have BG := hide (BF.out.trans (hb10.mono BF.out.size))
          go_wp2_with fail
          go_meet
          case rel => exact ⟨rfl, BG⟩
  case rest =>
    obtain ⟨rfl, HB9⟩ := hcut
    clear R8 B8 T8 HF HSM
    have S9 := hide (hs2.out.below HB9.out)
    go_wp2_with fail
    refine (drawVa_any S9).mono ?_
    rintro e w10 ⟨am, cm, M, ak, ck, ks, rfl, hml, hkl, hrm, hrk, hb10⟩
    have R10 := hide hrm
    have K10 := hide hrk
    have B10 := hide (HB9.out.trans (hb10.mono HB9.out.size))
    have S10 := hide (S9.out.below hb10)
    have HD := hide (fun (w' : World) (h : ORow w' am M) (h2 : ARow w' ak ks) => va_w (c := cm) (d := ck) rfl rfl h h2)
    have HE := hide (fun (w' : World) (h : ORow w' am M) (h2 : ARow w' ak ks) => sva_w (c := cm) (d := ck) rfl rfl (by omega) h h2)
    clear hrm hrk hb10 HB9 S9 hkl
    generalize Of.valB M ks = ok2 at *
    generalize vaI M ks = D at *
    go_wp2_with fail
    refine (HD.out _ R10.out K10.out).mono ?_
    rintro e w11 ⟨rfl, hb11⟩
    have R11 := hide (R10.out.below hb11)
    have K11 := hide (K10.out.below hb11)
    have B11 := hide (B10.out.trans (hb11.mono B10.out.size))
    have S11 := hide (S10.out.below hb11)
    clear hb11 R10 K10 B10 S10 HD
    go_wp2_with fail
    refine (HE.out _ R11.out K11.out).mono ?_
    rintro e w12 ⟨rfl, hb12⟩
    have B12 := hide (B11.out.trans (hb12.mono B11.out.size))
    have S12 := hide (S11.out.below hb12)
    clear hb12 R11 K11 B11 S11 HE
    go_wp2_with fail
    refine (drawGa_any S12).mono ?_
    rintro e w13 ⟨gp, gf, gs, gk, rfl, hb13⟩
    have B13 := hide (B12.out.trans (hb13.mono B12.out.size))
    clear hb13 B12 S12
    go_wp2_with fail
    refine ga_w.mono ?_
    rintro e w14 ⟨v14, rfl, own14, hb14⟩
    obtain ⟨ag, cg, rfl, r14⟩ := ob_slice rfl own14
    have A14 := hide r14
    have B14 := hide (B13.out.trans (hb14.mono B13.out.size))
    have HGS := hide (fun (w' : World) => sga_w (p := gp) (f := gf) (s := gs) (c := gk) (w := w'))
    have hgl : (gaL gp gf gs gk).length ≤ 1000 := by
      unfold gaL; split
      · simp [Of.gainsL]
      · simp
    clear own14 hb14 r14 B13
    generalize Of.gainsB gp gf gs gk = ok3 at *
    generalize gaL gp gf gs gk = G at *
    have C15 : Hid ((w14.alloc (.cells #[.slice ag G.length cg] 36)).cell? ⟨w14.heap.size, 0, none⟩ = some (.slice ag G.length cg) ∧ w14.heap.size < (w14.alloc (.cells #[.slice ag G.length cg] 36)).heap.size) := hide (by simp)
    have A15 := hide (A14.out.alloc (.cells #[.slice ag G.length cg] 36))
    have B15 := hide (B14.out.alloc B14.out.size (.cells #[.slice ag G.length cg] 36))
    have hq2 : (ok2 == ok2) = true := by simp
    have hq3 : (ok3 == ok3) = true := by simp
    have hqD : (D == D) = true := by simp
    clear A14 B14
    go_wp2_with fail
    generalize w14.alloc (.cells #[.slice ag G.length cg] 36) = W15 at *
    generalize w14.heap.size = X15 at *
    refine (HGS.out W15).mono ?_
    rintro e w16 ⟨ah, ch, rfl, r16, hb16⟩
    have c16 := (hb16.cell (p := ⟨X15, 0, none⟩) C15.out.2).trans C15.out.1
    have x16 : X15 < w16.heap.size := Nat.lt_of_lt_of_le C15.out.2 hb16.size
    have A16 := hide (A15.out.below hb16)
    have R16 := hide r16
    have B16 := hide (B15.out.trans (hb16.mono B15.out.size))
    clear hb16 r16 C15 A15 B15 HGS
    have HF1 := hide (A16.out.alloc (.cells #[.slice ah G.length ch] 36))
    have HF2 := hide (R16.out.alloc (.cells #[.slice ah G.length ch] 36))
    have HO1 := hide ((or_new (c := cg) (T := 36) HF1.out).below ((Below.refl _ _).alloc (Nat.le_refl _) (.cells #[.slice ah G.length ch] 36)))
    have HO2 := hide (or_new (c := ch) (T := 36) (HF2.out.alloc (.cells #[.slice ag G.length cg] 36)))
    have HBF := hide (((B16.out.alloc B16.out.size (.cells #[.slice ah G.length ch] 36)).alloc (by simp; have := B16.out.size; omega) (.cells #[.slice ag G.length cg] 36)).alloc (by simp; have := B16.out.size; omega) (.cells #[.slice ah G.length ch] 36))
    simp only [World.heap_alloc_size7] at HO1 HO2
    go_wp2_with fail
    refine (so_one hgl HO1.out HO2.out).mono ?_
    rintro e w17 ⟨rfl, hb17⟩
    have BZ := hide (HBF.out.trans (hb17.mono HBF.out.size))
    go_wp2_with fail
    go_ret
    exact ⟨rfl, BZ.out⟩
theorem lCh_walk {a1 a2 : Option Addr} {len1 cap1 len2 cap2 : Nat} {w : World} (hs1 : Src w a1 len1) (hs2 : Src w a2 len2) (m1 : len1 ≤ 140737488351232) (m2 : len2 ≤ 140737488351232) :
    Calls Try.prog 3 #[.slice a1 len1 cap1, .slice a2 len2 cap2] w fun e w' => e = .returned (.bool true) ∧ Below w.heap.size w w' := by
  by_cases h1 : (1048576 : Int) < wrap64 ((len1 : Int) + (len2 : Int))
  · exact lCh_long h1
  · refine lCh_main (hide hs1) (hide hs2) h1 ?_
    rw [wrap_id _ (by omega) (by omega)] at h1
    omega
end Go.Proofs.Ytdlpbemjbmgbeaa
