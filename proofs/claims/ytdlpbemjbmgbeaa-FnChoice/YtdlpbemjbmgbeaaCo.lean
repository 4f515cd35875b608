/-
  What BestChoice of the model answers.
-/
import Derived.Test.YtdlpbemjbmgbeaaCn
namespace Go.Proofs.Ytdlpbemjbmgbeaa
open Go.RowKit

theorem five_call {w w1 w2 : World} {b1 b2 b3 b4 b5 o1 o2 o3 o4 o5 : Nat} {v1 v2 v3 v4 v5 : Value} (h1 : b1 < w.heap.size) (h2 : b2 < w.heap.size) (h3 : b3 < w.heap.size) (h4 : b4 < w.heap.size) (h5 : b5 < w.heap.size)
    (s : w1.cell? ⟨b1, o1, none⟩ = some v1 ∧ w1.cell? ⟨b2, o2, none⟩ = some v2 ∧ w1.cell? ⟨b3, o3, none⟩ = some v3 ∧ w1.cell? ⟨b4, o4, none⟩ = some v4 ∧ w1.cell? ⟨b5, o5, none⟩ = some v5 ∧ Below w.heap.size w w1 ∧ w.heap.size ≤ w1.heap.size) (hb2 : Below w1.heap.size w1 w2) :
    w2.cell? ⟨b1, o1, none⟩ = some v1 ∧ w2.cell? ⟨b2, o2, none⟩ = some v2 ∧ w2.cell? ⟨b3, o3, none⟩ = some v3 ∧ w2.cell? ⟨b4, o4, none⟩ = some v4 ∧ w2.cell? ⟨b5, o5, none⟩ = some v5 ∧ Below w.heap.size w w2 ∧ w.heap.size ≤ w2.heap.size := by
  obtain ⟨s1, s2, s3, s4, s5, s6, s7⟩ := s
  obtain ⟨h, _⟩ := bcell hb2
  exact ⟨(h _ _ (by omega)).trans s1, (h _ _ (by omega)).trans s2, (h _ _ (by omega)).trans s3, (h _ _ (by omega)).trans s4, (h _ _ (by omega)).trans s5, s6.trans (hb2.mono s7), Nat.le_trans s7 hb2.size⟩
/-- One cell of a list, where it lies. -/
theorem arow_at {w : World} {a : Option Addr} {xs : List Int} {i : Nat} (h : ARow w a xs) (hi : i < xs.length) : ∃ b off, a = some ⟨b, off, none⟩ ∧ b < w.heap.size ∧ w.cell? ⟨b, off + i, none⟩ = some (.int .i64 (xs.getD i 0)) := by
  rcases h with h | ⟨b, off, e, hb, hc⟩
  · rw [h] at hi; simp at hi
  · exact ⟨b, off, e, hb, hc i hi⟩

set_option maxRecDepth 100000 in
set_option maxHeartbeats 1000000 in
theorem sbc_no {a : Option Addr} {n c : Nat} {L : List (List Int)} {p : Int} {w : World} (hn : L.length = n) (hm : n ≤ 1048576) (h : ORow w a L) (hg : chB L p = false) :
    Calls Try.prog 7 #[.slice a n c, .int .i64 p] w fun e w' => e = .returned (.tuple #[.slice none 0 0, .int .i64 0, .bool false]) ∧ Below w.heap.size w w' := by
  have HC := hide (sgof_any (c := c) hn hm h)
  unfold chB at hg
  clear h hn
  cases ho : Of.offersB L
  · rw [ho] at HC
    clear ho hg
    go_enter Try.func7, Try.ntmps7
    go_wp2_with ((go_at_call 12; refine HC.out.mono ?_; rintro e w1 ⟨rfl, hb1⟩))
    refine bodyPost_ret (v := .tuple #[.slice none 0 0, .int .i64 0, .bool false]) (by simp [results, Try.results7, go_sem]) rfl ⟨rfl, hb1⟩
  · rw [ho] at HC hg
    have hp : Pf.inB p 0 40 = false := hg
    clear ho hg
    go_enter Try.func7, Try.ntmps7
    go_wp2_with (first | (go_at_call 12; refine HC.out.mono ?_; rintro e w1 ⟨rfl, hb1⟩) | (go_at_call 32; refine (pl_eq hp).mono ?_; rintro e w2 ⟨rfl, rfl⟩))
    refine bodyPost_ret (v := .tuple #[.slice none 0 0, .int .i64 0, .bool false]) (by simp [results, Try.results7, go_sem]) rfl ⟨rfl, hb1⟩
set_option maxRecDepth 100000 in
set_option maxHeartbeats 8000000 in
theorem sbc_yes {a : Option Addr} {n c P M : Nat} {L : List (List Int)} {w : World} (hn : L.length = n) (hM : P + 1 = M) (hM' : M ≤ 1000) (h : ORow w a L) (hg : chB L (P : Int) = true) :
    Calls Try.prog 7 #[.slice a n c, .int .i64 P] w fun e w' => ∃ K, e = .returned (.tuple #[.slice (some ⟨K, 0, none⟩) n n, .int .i64 ((Of.tab L P).getD P 0), .bool true]) ∧ ARow w' (some ⟨K, 0, none⟩) (Of.choice L P) ∧ Below w.heap.size w w' := by
  have HG := hide (chB_yes hg).1
  have h12 := Of.offersB_len HG.out
  rw [hn] at h12
  have HC := hide (sgof_any (c := c) hn (by omega) h)
  rw [HG.out] at HC
  have hp : Pf.inB (P : Int) 0 40 = true := Pf.inB_of (chB_yes hg).2.1 (chB_yes hg).2.2
  have H := hide h
  have HN := hide hn
  have HM := hide hM
  have hmi := makeI_run n (by omega)
  have HTL : Hid (∀ k, (Of.tab (L.take k) P).length = M) := hide fun k => by rw [Of.tab_len, hM]
  have hP : P ≤ 1000 := by omega
  clear h hn hg hM
  go_enter Try.func7, Try.ntmps7
  go_wp2_with (first | (go_at_call 12; refine HC.out.mono ?_; rintro e w1 ⟨rfl, hb1⟩) | (go_at_call 32; refine (pl_eq hp).mono ?_; rintro e w2 ⟨rfl, rfl⟩))
  refine (rows_any (d := c) HN.out HM.out hM' HG.out (H.out.below hb1)).mono ?_
  rintro e w2 ⟨G, C, gs, rfl, hb2, Q2⟩
  have HB2 := hide (hb1.trans (hb2.mono hb1.size))
  have HT2 := hide Q2.orow
  have HL2 := hide (H.out.below HB2.out)
  obtain ⟨N1, hN1⟩ : ∃ N1, n + 1 = N1 := ⟨_, rfl⟩
  have HN1 := hide hN1
  have HTN := hide (tl_len L P n)
  clear Q2 HC hb1 hb2
  have HK0 : Hid ((w2.alloc (.cells (madeCells #[.int .i64 0] n) 3)).ownsRow w2.heap.size 3 1 (.slice (some ⟨w2.heap.size, 0, none⟩) n n) n (ints (List.replicate n 0))) := hide (made_own w2 n (by omega))
  have HB0 : Hid (Below w2.heap.size w2 (w2.alloc (.cells (madeCells #[.int .i64 0] n) 3))) := hide (o_below_new _ _)
  rw [hN1]
  clear hN1
  go_wp2_with fail
  go_loopw [9, 10, 11] (fun s9 s10 _ wr => ∃ (k l : Nat) (z : Int) (cs : List Int), s9 = .int .i64 l ∧ s10 = .int .i64 z ∧ Hid (z = (k : Int) - 1) ∧ k ≤ n ∧ l ≤ P ∧ Hid (l = Of.lf L P (n - k)) ∧ Hid (cs.length = n) ∧ Hid (∀ t, k ≤ t → t < n → cs.getD t 0 = (Of.cn L P t : Int)) ∧ Hid (wr.ownsRow w2.heap.size 3 1 (.slice (some ⟨w2.heap.size, 0, none⟩) n n) n (ints cs)) ∧ Hid (Below w2.heap.size w2 wr)) (fun _ s _ _ => (intOf s + 1).toNat)
  case atStart => exact ⟨n, P, (n : Int) - 1, List.replicate n 0, rfl, rfl, hide rfl, Nat.le_refl _, Nat.le_refl _, hide (by rw [Nat.sub_self]; rfl), hide (by simp), hide fun t h1 h2 => by omega, HK0, HB0⟩
  case round =>
    obtain ⟨k, l, z, cs, rfl, rfl, HZ, hk, hl, HLF, HCL, HCN, HK, HB⟩ := hrel
    clear HK0 HB0
    cases k with
    | succ i =>
      obtain rfl : z = (i : Int) := by have := HZ.out; omega
      obtain ⟨b, off, ai, ci, rfl, hb, r1, R1⟩ := (HL2.out.below HB.out).at (i := i) (by rw [HN.out]; omega)
      obtain ⟨b', off', a2, c2, e2, hb', r2, R2⟩ := (HT2.out.below HB.out).at (i := i) (by rw [HTN.out]; omega)
      cases e2
      obtain ⟨b'', off'', a3, c3, e3, hb'', r3, R3⟩ := (HT2.out.below HB.out).at (i := i + 1) (by rw [HTN.out]; omega)
      cases e3
      rw [tl_at L P (by omega)] at r2 R2 r3 R3
      rw [HTL.out i, Nat.zero_add] at r2
      rw [HTL.out (i + 1), Nat.zero_add] at r3
      have hlM : l < M := by have := HM.out; omega
      have i0' : (0 : Int) ≤ (i : Int) := by omega
      have i1' : (i : Int) < (n : Int) := by omega
      have i2' : (i : Int) < (N1 : Int) := by have := HN1.out; omega
      have i3' : (i : Int) + 1 < (N1 : Int) := by have := HN1.out; omega
      have i4' : (0 : Int) ≤ (i : Int) + 1 := by omega
      have HO := hide (Of.offersB_at HG.out i)
      have hm6 := (Of.offB_yes HO.out).1
      have e3 : n - (i + 1) = n - 1 - i := by omega
      have e4 := Of.lf_cn L P (k := i) (by rw [HN.out]; omega)
      rw [HN.out] at e4
      have HCE : Hid (Of.cnt (L.getD i []) (Of.tab (L.take i) P) l = Of.cn L P i) := hide (by unfold Of.cn; rw [HN.out, ← e3, ← HLF.out])
      have HLE : Hid (Of.lf L P (n - i) = l - Of.cn L P i ∧ Of.cn L P i ≤ l) := hide (by rw [← e3, ← HLF.out] at e4; exact e4)
      have HNE : Hid (∀ j, j < Of.cn L P i → (Of.tab (L.take i) P).getD (l - j) 0 + Of.gain (L.getD i []) j ≠ Of.best (L.getD i []) (Of.tab (L.take i) P) l) := hide fun j hj => by
        rw [Int.add_comm]; rw [← HCE.out] at hj; exact Of.cnt_first _ _ _ hj
      have HEQ : Hid ((Of.tab (L.take i) P).getD (l - Of.cn L P i) 0 + Of.gain (L.getD i []) (Of.cn L P i) = Of.best (L.getD i []) (Of.tab (L.take i) P) l) := hide (by
        rw [Int.add_comm, ← HCE.out]; exact Of.cnt_hit _ _ _)
      have hcm : Of.cn L P i ≤ (L.getD i []).length := by
        have := Of.cnt_le (L.getD i []) (Of.tab (L.take i) P) l
        rw [HCE.out] at this; omega
      have HST : Hid ((Of.tab (L.take (i + 1)) P).getD l 0 = Of.best (L.getD i []) (Of.tab (L.take i) P) l) := hide (by
        rw [Of.tab_take L P (by rw [HN.out]; omega), Of.step_at _ _ (by rw [HTL.out]; exact hlM)])
      obtain ⟨b3, o3, rfl, hb3, q3⟩ := arow_at R3 (i := l) (by rw [HTL.out]; exact hlM)
      rw [HST.out] at q3
      have HR2 := hide R2
      have HRB := hide (Of.tab_bd12 HG.out P i)
      have HBD := hide fun j => Of.gain_bd HO.out j
      have HRL := hide (HTL.out i)
      have HGN := hide fun (j : Nat) (hj : j ≤ (L.getD i []).length) (w' : World) (hb : Below wr.heap.size wr w') => gn_any (c := ci) (k := j) rfl hj (by omega) (R1.below hb)
      generalize hgo : L.getD i [] = o at *
      generalize o.length = m at *
      generalize Of.tab (L.take i) P = rr at *
      generalize Of.best o rr l = bb at *
      generalize hcn : Of.cn L P i = cv at *
      have HCV := hide hcn
      obtain ⟨hle1, hle2⟩ := HLE.out
      have HLE1 := hide hle1
      obtain ⟨V, hV⟩ : ∃ V, wr.heap.size = V := ⟨_, rfl⟩
      have HV := hide hV
      clear R1 R2 e3 e4 hcn HCE R3 hgo hle1
      go_wp2_with fail
      clear hV
      go_loopw [11] (fun s11 wi => ∃ (q : Nat), s11 = .int .i64 q ∧ q ≤ cv ∧ Hid (Below V wr wi) ∧ V ≤ wi.heap.size) (fun s _ => cv - (intOf s).toNat)
      case atStart => exact ⟨0, rfl, Nat.zero_le _, hide (Below.refl _ _), by rw [HV.out]; exact Nat.le_refl _⟩
      case round =>
        obtain ⟨q, rfl, hq, HBi, hzi⟩ := hrel
        rw [HV.out] at HGN hb hb' hb'' hb3
        obtain ⟨b2, o2, rfl, hb2, q2⟩ := arow_at HR2.out (i := l - q) (by rw [HRL.out]; omega)
        rw [HV.out] at hb2
        have d1 := (HBi.out.cell (p := ⟨b, off + i, none⟩) hb).trans r1
        have d2 := (HBi.out.cell (p := ⟨G, i, none⟩) hb').trans r2
        have d3 := (HBi.out.cell (p := ⟨G, i + 1, none⟩) hb').trans r3
        have d4 := (HBi.out.cell (p := ⟨b3, o3 + l, none⟩) hb3).trans q3
        have d5 := (HBi.out.cell (p := ⟨b2, o2 + (l - q), none⟩) hb2).trans q2
        have hcall := hide fun (w' : World) (hb : Below wr.heap.size wr w') => HGN.out q (by omega) w' (HBi.out.trans (hb.mono hzi))
        have hbz := HRB.out (l - q)
        have hbx := HBD.out q
        have hne := HNE.out q
        have heq := HEQ.out
        have j0 : (0 : Int) ≤ (l : Int) - (q : Int) := by omega
        have j1 : (l : Int) - (q : Int) < (M : Int) := by omega
        have j2 : (0 : Int) ≤ (l : Int) := by omega
        have j3 : (l : Int) < (M : Int) := by omega
        have hql : q ≤ l := by omega
        have hql' : (q : Int) ≤ (l : Int) := by omega
        have u1 : b < wr.heap.size := by omega
        have u2 : G < wr.heap.size := by omega
        have u3 : b3 < wr.heap.size := by omega
        have u4 : b2 < wr.heap.size := by omega
        have e2 : IntKind.i64.wrap ((l : Int) - (q : Int)) = (l : Int) - (q : Int) := by rw [IntKind.wrap_i64]; omega
        have e3 : IntKind.i64.wrap ((i : Int) + 1) = (i : Int) + 1 := by rw [IntKind.wrap_i64]; omega
        by_cases hqc : q < cv
        · have hn1 := hne hqc
          generalize rr.getD (l - q) 0 = zz at *
          generalize Of.gain o q = x at *
          obtain ⟨z0, z1⟩ := hbz
          obtain ⟨x0, x1⟩ := hbx
          have e1 : IntKind.i64.wrap (zz + x) = zz + x := by rw [IntKind.wrap_i64]; omega
          have hnb : (zz + x != bb) = true := by simpa using hn1
          clear hne heq hn1 HEQ HNE
          go_wp2_with fail
          go_region_held3 (fun w' => w'.cell? ⟨b, off + i, none⟩ = some (.slice ai m ci) ∧ w'.cell? ⟨G, i, none⟩ = some (.slice (some ⟨b2, o2, none⟩) M c2) ∧ w'.cell? ⟨G, i + 1, none⟩ = some (.slice (some ⟨b3, o3, none⟩) M c3) ∧ w'.cell? ⟨b3, o3 + l, none⟩ = some (.int .i64 bb) ∧ w'.cell? ⟨b2, o2 + (l - q), none⟩ = some (.int .i64 zz) ∧ Below wr.heap.size wr w' ∧ wr.heap.size ≤ w'.heap.size)
            (first | exact ⟨d1, d2, d3, d4, d5, (Below.refl _ _).drew, Nat.le_refl _⟩ | assumption | exact five_call u1 u2 u2 u3 u4 ‹_› (by assumption) | fail)
            (first | (go_at_call 34; obtain ⟨_, _, _, _, _, hbS, _⟩ := ‹_ ∧ _ ∧ _ ∧ _ ∧ _ ∧ _ ∧ _›; refine (hcall.out _ hbS).mono ?_; rintro e w3 ⟨rfl, hb3'⟩) | fail)
          obtain ⟨_, _, _, _, _, hbE, _⟩ := ‹_ ∧ _ ∧ _ ∧ _ ∧ _ ∧ _ ∧ _›
          have HBE := hide (HBi.out.trans (hbE.mono hzi))
          have hzE := Nat.le_trans hzi hbE.size
          go_wp2_with fail
          go_roundw
          case rel => exact ⟨q + 1, by go_num, by omega, HBE, hzE⟩
          case measure => simp only [intOf]; omega
        · have hqe : q = cv := by omega
          subst hqe
          generalize rr.getD (l - q) 0 = zz at *
          generalize Of.gain o q = x at *
          obtain ⟨z0, z1⟩ := hbz
          obtain ⟨x0, x1⟩ := hbx
          have e1 : IntKind.i64.wrap (zz + x) = zz + x := by rw [IntKind.wrap_i64]; omega
          have hnb : (zz + x != bb) = false := by simpa using heq
          clear hne heq HEQ HNE
          go_wp2_with fail
          go_region_held3 (fun w' => w'.cell? ⟨b, off + i, none⟩ = some (.slice ai m ci) ∧ w'.cell? ⟨G, i, none⟩ = some (.slice (some ⟨b2, o2, none⟩) M c2) ∧ w'.cell? ⟨G, i + 1, none⟩ = some (.slice (some ⟨b3, o3, none⟩) M c3) ∧ w'.cell? ⟨b3, o3 + l, none⟩ = some (.int .i64 bb) ∧ w'.cell? ⟨b2, o2 + (l - q), none⟩ = some (.int .i64 zz) ∧ Below wr.heap.size wr w' ∧ wr.heap.size ≤ w'.heap.size)
            (first | exact ⟨d1, d2, d3, d4, d5, (Below.refl _ _).drew, Nat.le_refl _⟩ | assumption | exact five_call u1 u2 u2 u3 u4 ‹_› (by assumption) | fail)
            (first | (go_at_call 34; obtain ⟨_, _, _, _, _, hbS, _⟩ := ‹_ ∧ _ ∧ _ ∧ _ ∧ _ ∧ _ ∧ _›; refine (hcall.out _ hbS).mono ?_; rintro e w3 ⟨rfl, hb3'⟩) | fail)
          obtain ⟨_, _, _, _, _, hbE, _⟩ := ‹_ ∧ _ ∧ _ ∧ _ ∧ _ ∧ _ ∧ _›
          have HBE := hide (HBi.out.trans (hbE.mono hzi))
          have hzE := Nat.le_trans hzi hbE.size
          have HKV := hide (o_own HK.out (by rw [HV.out]; exact HBE.out))
          have c0 : w3.cell? ⟨w2.heap.size, i, none⟩ = some (.int .i64 (cs.getD i 0)) := by
            rw [HKV.out.cellAt i (by omega), ints_get cs i (by rw [HCL.out]; omega)]
          have f0 := HKV.out.frozenAt i
          obtain ⟨st1, _⟩ := HKV.out.stored i (.int .i64 (q : Int))
          rw [ints_set] at st1
          have HST' := hide st1
          have HB3 := hide (HB.out.trans ((show Below _ _ w3 by rw [← HV.out] at HBE; exact HBE.out).mono HB.out.size))
          have HCN2 : Hid (∀ t, i ≤ t → t < n → (cs.set i (q : Int)).getD t 0 = (Of.cn L P t : Int)) := hide fun t h1 h2 => by
            by_cases e : t = i
            · subst e
              have := HCL.out
              simp [show t < cs.length by omega, HCV.out]
            · have := HCN.out t (by omega) h2
              rw [← this, List.getD_eq_getElem?_getD, List.getD_eq_getElem?_getD, List.getElem?_set_ne (by omega)]
          generalize cs.getD i 0 = x00 at *
          clear st1 HCN
          go_wp2_with fail
          go_roundw
          case rel => exact ⟨i, l - q, (i : Int) - 1, cs.set i (q : Int), by go_num, by go_num, hide rfl, by omega, by omega, hide HLE1.out.symm, hide (by rw [List.length_set]; exact HCL.out), HCN2, HST', hide (HB3.out.setCell (Nat.le_refl _) _)⟩
          case measure => simp only [intOf]; omega
    | zero =>
      obtain rfl : z = -1 := by have := HZ.out; omega
      have HE := hide (choice_of HN.out HCL.out HCN.out)
      obtain ⟨b', off', a2, c2, e2, hb', r2, R2⟩ := (HT2.out.below HB.out).at (i := n) (by rw [HTN.out]; omega)
      cases e2
      rw [tl_at L P (Nat.le_refl n)] at r2 R2
      rw [HTL.out n, Nat.zero_add] at r2
      rw [List.take_of_length_le (by rw [HN.out]; exact Nat.le_refl _)] at R2
      obtain ⟨b2, o2, rfl, hb2, q2⟩ := arow_at R2 (i := P) (by rw [Of.tab_len]; omega)
      have j0 : (0 : Int) ≤ (P : Int) := by omega
      have j1 : (P : Int) < (M : Int) := by have := HM.out; omega
      have j2 : (0 : Int) ≤ (n : Int) := by omega
      have j3 : (n : Int) < (N1 : Int) := by have := HN1.out; omega
      have HKE := HK.out
      rw [HE.out] at HKE
      have HKF := hide (arow_owns (by rw [Of.choice_len, HN.out]) HKE)
      have HBF := hide (HB2.out.trans (HB.out.mono HB2.out.size))
      generalize hy : (Of.tab L P).getD P 0 = y at *
      have HY := hide hy
      clear HKE hmi hy R2
      go_wp2_with fail
      go_region
      go_wp2_with fail
      refine bodyPost_ret (v := .tuple #[.slice (some ⟨w2.heap.size, 0, none⟩) n n, .int .i64 y, .bool true]) (by simp [results, Try.results7, go_sem]) rfl ⟨w2.heap.size, by rw [HY.out], HKF.out, ?_⟩
      exact HBF.out.drew
theorem sbc_w {a : Option Addr} {n c : Nat} {L : List (List Int)} {p : Int} {w : World} (hn : L.length = n) (hm : n ≤ 1048576) (h : ORow w a L) :
    Calls Try.prog 7 #[.slice a n c, .int .i64 p] w fun e w' => ∃ a0 c0, e = .returned (.tuple #[.slice a0 (bcL L p).length c0, .int .i64 (bcI L p), .bool (chB L p)]) ∧ ARow w' a0 (bcL L p) ∧ Below w.heap.size w w' := by
  cases hg : chB L p
  · refine (sbc_no hn hm h hg).mono ?_
    rintro e w' ⟨rfl, hb⟩
    exact ⟨none, 0, by rw [bcL_no hg, bcI_no hg]; rfl, by rw [bcL_no hg]; exact Or.inl rfl, hb⟩
  · obtain ⟨P, rfl⟩ : ∃ P : Nat, p = (P : Int) := ⟨p.toNat, by have := chB_yes hg; omega⟩
    have := chB_yes hg
    refine (sbc_yes (M := P + 1) hn rfl (by omega) h hg).mono ?_
    rintro e w' ⟨K, rfl, r, hb⟩
    exact ⟨some ⟨K, 0, none⟩, n, by rw [bcL_yes hg, bcI_yes hg, Of.choice_len, hn], by rw [bcL_yes hg]; exact r, hb⟩
end Go.Proofs.Ytdlpbemjbmgbeaa
