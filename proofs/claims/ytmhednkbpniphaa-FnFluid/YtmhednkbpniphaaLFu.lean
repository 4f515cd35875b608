/-
  FnFluid: the law's own walk.
-/
import Derived.Test.YtmhednkbpniphaaDp
import Derived.Test.YtmhednkbpniphaaLh
import Derived.Test.YtmhednkbpniphaaFq
import Derived.Test.YtmhednkbpniphaaFs
import Derived.Test.YtmhednkbpniphaaSk
import Derived.Deep.DeepCutAuto
import Derived.Deep.QuietTactic
import Derived.BigQuiet
namespace Go.Proofs.Ytmhednkbpniphaa
open Go.RowKit

theorem numUp_bd {zs : List Int} {n : Nat} : 0 ≤ numUp zs n ∧ numUp zs n < 1000003 := by
  cases n with
  | zero => exact ⟨by unfold numUp; omega, by unfold numUp; omega⟩
  | succ k => unfold numUp; omega
theorem src_row {w : World} {a : Option Addr} {len : Nat} (h : Src w a len) : ∃ zs : List Int, zs.length = len ∧ BRow w a zs := by
  obtain ⟨hb, hl⟩ := h
  rcases hb with h0 | ⟨b, off, rfl, hc⟩
  · subst h0; exact ⟨[], rfl, Or.inl rfl⟩
  · by_cases h0 : len = 0
    · subst h0; exact ⟨[], rfl, Or.inl rfl⟩
    · refine ⟨(List.range len).map fun i => if hi : i < len then (hc i hi).choose else 0, by simp, Or.inr ⟨b, off, rfl, hl b off rfl (by omega), ?_⟩⟩
      intro i hi
      have hi' : i < len := by simpa using hi
      have e : ((List.range len).map fun i => if hi : i < len then (hc i hi).choose else 0).getD i 0 = (hc i hi').choose := by
        simp [List.getD_eq_getElem?_getD, hi']
      rw [e]
      exact (hc i hi').choose_spec
theorem num_src {a : Option Addr} {len cap : Nat} {w : World} (h : Src w a len) (hl : len ≤ 1048576) :
    Calls Try.prog 10 #[.slice a len cap] w fun e w' => ∃ N : Int, e = .returned (.int .i64 N) ∧ 0 ≤ N ∧ N < 1000003 ∧ w' = w := by
  obtain ⟨zs, hz, hr⟩ := src_row h
  exact (num_of hz hr hl).mono fun e w' ⟨h1, h2⟩ => ⟨_, h1, numUp_bd.1, numUp_bd.2, h2⟩
theorem flu_parts {fs ps : List Int} (h : fluB fs ps = true) : ps.length ≤ 8 ∧ Pf.allB ps (-10000000) 10000000 = true := by
  unfold fluB at h
  simp only [Bool.and_eq_true] at h
  obtain ⟨h1, h2, h3⟩ := Fd.fluidB_yes h.1
  have := (Sh.flowB_yes h1).2.1
  exact ⟨by omega, Fd.allB_wide h3 (by omega) (by omega)⟩
theorem bd_lo {n d p q : Int} (h : goodBd n d p q = true) : Fr.goodB n d = true := by
  unfold goodBd at h
  simp only [Bool.and_eq_true] at h
  exact h.1.1.1
theorem flu_no (fs ps : List Int) (f : Int) (h : fluB fs ps = true) (h2 : leastB fs ps.sum f = true) (w : World) :
    Calls Try.prog 11 #[.agg #[.int .i64 (fluF fs ps).1, .int .i64 (fluF fs ps).2], .agg #[.int .i64 (leastLo fs ps.sum f).1, .int .i64 (leastLo fs ps.sum f).2]] w fun e w' => e = .returned (.tuple #[.bool false, .bool true]) ∧ Below w.heap.size w w' := by
  obtain ⟨g, l⟩ := flu_least h h2
  have := less_yes (fluF fs ps).1 (fluF fs ps).2 (leastLo fs ps.sum f).1 (leastLo fs ps.sum f).2 w g (bd_lo (least_bd h2))
  rw [l] at this
  exact this

/-- Lists that lie in memory while a law goes on. -/
def Rws (w0 w : World) (L : List (Option Addr × List Int)) : Prop := (∀ a xs, (a, xs) ∈ L → ARow w a xs) ∧ Below w0.heap.size w0 w
theorem Rws.step {w0 w w' : World} {L : List (Option Addr × List Int)} (h : Rws w0 w L) (hb : Below w.heap.size w w') : Rws w0 w' L := ⟨fun a xs hm => (h.1 a xs hm).below hb, h.2.trans (hb.mono h.2.size)⟩
theorem Rws.add {w0 w : World} {L : List (Option Addr × List Int)} {a : Option Addr} {xs : List Int} (h : Rws w0 w L) (r : ARow w a xs) : Rws w0 w ((a, xs) :: L) := ⟨fun b ys hm => by
  rcases List.mem_cons.1 hm with e | e
  · cases e; exact r
  · exact h.1 b ys e, h.2⟩
theorem arow_some {w : World} {a : Option Addr} {xs : List Int} (h : ARow w a xs) (hl : 0 < xs.length) : ∃ b o, a = some ⟨b, o, none⟩ := by
  rcases h with rfl | ⟨b, o, e, _⟩
  · simp at hl
  · exact ⟨b, o, e⟩
theorem arow_cell {w : World} {b o i : Nat} {xs : List Int} (h : ARow w (some ⟨b, o, none⟩) xs) (hi : i < xs.length) : w.cell? ⟨b, o + i, none⟩ = some (.int .i64 (xs.getD i 0)) := by
  rcases h with rfl | ⟨b', o', e, _, hc⟩
  · simp at hi
  · cases e; exact hc i hi
theorem parts_all (gs : List Int) (r : Int) : (roX gs r).length ≤ gs.length ∧ (eqX gs r).length ≤ gs.length ∧ (tiX gs r).length ≤ gs.length ∧ (Fd.roomB gs r = true → 0 < gs.length ∧ (roX gs r).length = gs.length ∧ (eqX gs r).length = gs.length ∧ (tiX gs r).length = gs.length ∧ (eqX gs r).sum ≤ r ∧ Pf.allB (eqX gs r) (-10000000) 10000000 = true ∧
    ∀ i k, i < gs.length → k < gs.length → (gs.getD i 0 < gs.getD k 0 → (roX gs r).getD i 0 ≤ (roX gs r).getD k 0 ∧ (tiX gs r).getD i 0 ≤ (tiX gs r).getD k 0) ∧ (eqX gs r).getD i 0 = (eqX gs r).getD k 0 ∧ 1 ≤ (roX gs r).getD i 0 ∧ 1 ≤ (tiX gs r).getD i 0) := by
  unfold roX eqX tiX
  cases h : Fd.roomB gs r
  · simp
  · simp only [if_true, roL_len, eqL_len, tiL_len]
    refine ⟨Nat.le_refl _, Nat.le_refl _, Nat.le_refl _, fun _ => ⟨?_, trivial, trivial, trivial, eqL_sum h, eqL_all h, fun i k hi hk => parts_law (hide rfl) (hide h) hi hk⟩⟩
    have := (Sh.flowB_yes (Fd.roomB_yes h).1).1
    omega

set_option maxRecDepth 100000 in
set_option maxHeartbeats 1000000 in
theorem lFu_long {a1 a2 : Option Addr} {len1 cap1 len2 cap2 : Nat} {w : World} (h1 : (1048576 : Int) < wrap64 ((len1 : Int) + (len2 : Int))) :
    Calls Try.prog 3 #[.slice a1 len1 cap1, .slice a2 len2 cap2] w fun e w' => e = .returned (.bool true) ∧ Below w.heap.size w w' := by
  go_enter Try.func3, Try.ntmps3
  go_wp2_with fail
  go_ret
  exact ⟨rfl, Below.refl _ _⟩
set_option maxRecDepth 100000 in
set_option maxHeartbeats 8000000 in
theorem lFu_main {a1 a2 : Option Addr} {len1 cap1 len2 cap2 : Nat} {w : World} (hs1 : Hid (Src w a1 len1)) (hs2 : Hid (Src w a2 len2)) (h1 : ¬ (1048576 : Int) < wrap64 ((len1 : Int) + (len2 : Int))) (hl2 : len2 ≤ 1048576) :
    Calls Try.prog 3 #[.slice a1 len1 cap1, .slice a2 len2 cap2] w fun e w' => e = .returned (.bool true) ∧ Below w.heap.size w w' := by
  go_enter Try.func3, Try.ntmps3
  go_wp2_with fail
  refine (drawFC_any hs1).mono ?_
  rintro e w1 ⟨b1, e1, fs, b2, e2, ps, rfl, hf9, hp9, r1, r2, hb1⟩
  have C1 : Hid (Car w w1 b1 b2 fs ps) := hide ⟨r1, r2, hb1⟩
  have HI := hide (fun (w' : World) (ha : ARow w' b1 fs) (hb : ARow w' b2 ps) => fc_any (c := e1) (d := e2) (hide ha) (hide rfl) (hide hb) (hide rfl))
  have HS := hide (fun (w' : World) (ha : ARow w' b1 fs) (hb : ARow w' b2 ps) => sfc_any (c := e1) (d := e2) (hide ha) (hide rfl) (hide hb) (hide rfl))
  have HLC := hide (fun (r f : Int) (w' : World) (ha : ARow w' b1 fs) => lc_any (c := e1) (r := r) (f := f) (hide ha) (hide rfl))
  have HNO := hide (flu_no fs ps)
  have HPA := hide (@flu_parts fs ps)
  simp only [fb_eq, bv_eq] at HI HS HLC
  generalize fluB fs ps = ok at *
  generalize fluF fs ps = p at *
  obtain ⟨p1, p2⟩ := p
  dsimp only at HI HS HNO
  have hob : (ok != ok) = false := by simp
  have tq : ∀ w, (binOp .neq 27 (.agg #[.int .i64 p1, .int .i64 p2]) (.agg #[.int .i64 p1, .int .i64 p2])).run Try.prog w = .ok (.bool false) w := fun w => by rw [frac_neq]; simp
  have vq := fun x y => frac_neqg x y p1 p2 p1 p2
  clear r1 r2 hb1
  go_wp2_with fail
  refine (HI.out _ C1.out.1 C1.out.2.1).mono ?_
  rintro e w2 ⟨rfl, hb2⟩
  have C2 := hide ((C1.out.step hb2).alloc (.cells #[.int .i64 p1, .int .i64 p2] 27))
  have P2 := hide (PBox.new w2 (.int .i64 p1) (.int .i64 p2) 27)
  clear C1 hb2 HI
  go_wp2_with fail
  generalize w2.alloc (.cells #[.int .i64 p1, .int .i64 p2] 27) = W2 at *
  generalize w2.heap.size = B2 at *
  refine (HS.out _ C2.out.1 C2.out.2.1).mono ?_
  rintro e w3 ⟨rfl, hb3⟩
  have C3 := hide ((C2.out.step hb3).alloc (.cells #[.int .i64 p1, .int .i64 p2] 27))
  have P3 := hide ((P2.out.below hb3).below (below_alloc w3 (.cells #[.int .i64 p1, .int .i64 p2] 27)))
  obtain ⟨pa, pb, pl⟩ := P2.out.below hb3
  clear C2 hb3 P2 HS
  go_upto_if 63 with fail
  clear pa pb pl tq vq hob
  generalize w3.alloc (.cells #[.int .i64 p1, .int .i64 p2] 27) = W3 at *
  generalize w3.heap.size = B3 at *
  go_cut [4, 11, 12, 13, 14, 15] (fun s4 _ _ _ _ _ wd => s4 = .bool false ∧ Hid (Below w.heap.size w wd))
  case first =>
    cases ok
    · go_wp2_with fail
      go_meet
      case rel => exact ⟨rfl, hide C3.out.2.2⟩
    · obtain ⟨hp8, hpa⟩ := HPA.out rfl
      have HSU := hide (fun (w' : World) (ha : ARow w' b2 ps) => lsum_any (c := e2) ha (by omega) hpa)
      clear hpa HPA
      go_wp2_with fail
      refine (HSU.out _ C3.out.2.1).mono ?_
      rintro e w4 ⟨rfl, hw4⟩
      obtain rfl : W3 = w4 := hw4.symm
      clear hw4
      go_wp2_with fail
      refine (num_src (hs2.out.below C3.out.2.2) hl2).mono ?_
      rintro e w5 ⟨N, rfl, N0, N1, hw5⟩
      obtain rfl : W3 = w5 := hw5.symm
      clear hw5
      have m1 : N.tmod 10 = N % 10 := Int.tmod_eq_emod_of_nonneg N0
      have m2 := Int.emod_nonneg N (show (10 : Int) ≠ 0 by omega)
      have m3 := Int.emod_lt_of_pos N (show (0 : Int) < 10 by omega)
      have m4 : wrap64 (1 + N % 10) = 1 + N % 10 := wrap_id _ (by omega) (by omega)
      have L1 := hide (HLC.out ps.sum (1 + N % 10))
      have HN := hide (HNO.out (1 + N % 10) (by simp))
      clear HLC HNO
      generalize N % 10 = M at *
      generalize leastLo fs ps.sum (1 + M) = q at *
      generalize leastHi fs ps.sum (1 + M) = r at *
      generalize leastB fs ps.sum (1 + M) = ok2 at *
      generalize ps.sum = PS at *
      obtain ⟨q1, q2⟩ := q
      obtain ⟨r1, r2⟩ := r
      dsimp only at L1 HN
      go_wp2_with fail
      refine (L1.out _ C3.out.1).mono ?_
      rintro e w6 ⟨rfl, hb6⟩
      have C6 := hide ((C3.out.step hb6).alloc (.cells #[.int .i64 q1, .int .i64 q2, .int .i64 r1, .int .i64 r2] 32))
      have P6 := hide ((P3.out.below hb6).below (below_alloc w6 (.cells #[.int .i64 q1, .int .i64 q2, .int .i64 r1, .int .i64 r2] 32)))
      have V6 := hide (Four.new w6 q1 q2 r1 r2 32)
      obtain ⟨pa, pb, pl⟩ := P3.out.below hb6
      clear C3 P3 hb6 L1
      cases ok2
      · go_wp2_with fail
        go_meet
        case rel => exact ⟨rfl, hide C6.out.2.2⟩
      · have HN' := hide (HN.out (by simp))
        clear HN
        go_wp2_with fail
        generalize w6.alloc (.cells #[.int .i64 q1, .int .i64 q2, .int .i64 r1, .int .i64 r2] 32) = W6 at *
        refine (HN'.out _).mono ?_
        rintro e w7 ⟨rfl, hb7⟩
        have C7 := hide (C6.out.step hb7)
        clear C6 P6 V6 hb7 pa pb pl
        go_wp2_with fail
        go_meet
        case rel => exact ⟨rfl, hide C7.out.2.2⟩
  case rest =>
    obtain ⟨rfl, HB⟩ := hcut
    clear C3 P3 HLC HNO HPA
    go_wp2_with fail
    refine (drawRP_any (hide (hs2.out.below HB.out))).mono ?_
    rintro e x1 ⟨b3, e3, gs, rr, rfl, hg9, q1, hbx⟩
    have K1 : Hid (Rws w x1 [(b3, gs)]) := hide ⟨fun a xs hm => by simp at hm; obtain ⟨rfl, rfl⟩ := hm; exact q1, HB.out.trans (hbx.mono HB.out.size)⟩
    have A1 := hide (fun (w' : World) (ha : ARow w' b3 gs) => rop_w (c := e3) (p := rr) (hide ha) (hide rfl))
    have A2 := hide (fun (w' : World) (ha : ARow w' b3 gs) => srop_w (c := e3) (p := rr) (hide ha) (hide rfl))
    have A3 := hide (fun (w' : World) (ha : ARow w' b3 gs) => eqp_w (c := e3) (p := rr) (hide ha) (hide rfl))
    have A4 := hide (fun (w' : World) (ha : ARow w' b3 gs) => seqp_w (c := e3) (p := rr) (hide ha) (hide rfl))
    have A5 := hide (fun (w' : World) (ha : ARow w' b3 gs) => tip_w (c := e3) (p := rr) (hide ha) (hide rfl))
    have A6 := hide (fun (w' : World) (ha : ARow w' b3 gs) => stip_w (c := e3) (p := rr) (hide ha) (hide rfl))
    obtain ⟨n1, n2, n3, hall⟩ := parts_all gs rr
    have HX := hide hall
    generalize Fd.roomB gs rr = okk at *
    generalize roX gs rr = X1 at *
    generalize eqX gs rr = X2 at *
    generalize tiX gs rr = X3 at *
    have hob : (okk != okk) = false := by simp
    clear q1 hbx HB hall
    go_wp2_with fail
    refine (A1.out _ (K1.out.1 b3 gs (by simp))).mono ?_
    rintro e x2 ⟨ra1, rc1, rfl, hb, own⟩
    have K2 := hide ((K1.out.step hb).add (own_arow rfl own))
    clear hb own K1 A1
    go_wp2_with fail
    refine (A2.out _ (K2.out.1 b3 gs (by simp))).mono ?_
    rintro e x3 ⟨ra2, rc2, rfl, hb, own⟩
    have K3 := hide ((K2.out.step hb).add (own_arow rfl own))
    clear hb own K2 A2
    go_wp2_with fail
    refine (A3.out _ (K3.out.1 b3 gs (by simp))).mono ?_
    rintro e x4 ⟨ra3, rc3, rfl, hb, own⟩
    have K4 := hide ((K3.out.step hb).add (own_arow rfl own))
    clear hb own K3 A3
    go_wp2_with fail
    refine (A4.out _ (K4.out.1 b3 gs (by simp))).mono ?_
    rintro e x5 ⟨ra4, rc4, rfl, hb, own⟩
    have K5 := hide ((K4.out.step hb).add (own_arow rfl own))
    clear hb own K4 A4
    go_wp2_with fail
    refine (A5.out _ (K5.out.1 b3 gs (by simp))).mono ?_
    rintro e x6 ⟨ra5, rc5, rfl, hb, own⟩
    have K6 := hide ((K5.out.step hb).add (own_arow rfl own))
    clear hb own K5 A5
    go_wp2_with fail
    refine (A6.out _ (K6.out.1 b3 gs (by simp))).mono ?_
    rintro e x7 ⟨ra6, rc6, rfl, hb, own⟩
    have K7 := hide ((K6.out.step hb).add (own_arow rfl own))
    clear hb own K6 A6
    go_wp2_with fail
    refine (sameI_b rfl (by omega) (K7.out.1 ra1 X1 (by simp)) (K7.out.1 ra2 X1 (by simp))).mono ?_
    rintro e x8 ⟨rfl, hb⟩
    have K8 := hide (K7.out.step hb)
    clear hb K7
    go_wp2_with fail
    refine (sameI_b rfl (by omega) (K8.out.1 ra3 X2 (by simp)) (K8.out.1 ra4 X2 (by simp))).mono ?_
    rintro e x9 ⟨rfl, hb⟩
    have K9 := hide (K8.out.step hb)
    clear hb K8
    go_wp2_with fail
    refine (sameI_b rfl (by omega) (K9.out.1 ra5 X3 (by simp)) (K9.out.1 ra6 X3 (by simp))).mono ?_
    rintro e x10 ⟨rfl, hb⟩
    have K10 := hide (K9.out.step hb)
    clear hb K9
    cases okk
    · go_wp2_with fail
      go_ret
      exact ⟨rfl, K10.out.2⟩
    · obtain ⟨g0, l1, l2, l3, hsum, hall, hlaw⟩ := HX.out rfl
      have HSU := hide (fun (w' : World) (ha : ARow w' ra3 X2) => lsum_any (c := rc3) ha (by omega) hall)
      have HLW := hide hlaw
      have LL1 := hide l1
      have LL2 := hide l2
      have LL3 := hide l3
      clear hall hlaw HX l1 l2 l3 n1 n2 n3
      obtain ⟨bg, og, rfl⟩ := arow_some (K10.out.1 b3 gs (by simp)) g0
      obtain ⟨br, or, rfl⟩ := arow_some (K10.out.1 ra1 X1 (by simp)) (by rw [LL1.out]; exact g0)
      obtain ⟨be, oe, rfl⟩ := arow_some (K10.out.1 ra3 X2 (by simp)) (by rw [LL2.out]; exact g0)
      obtain ⟨bt, ot, rfl⟩ := arow_some (K10.out.1 ra5 X3 (by simp)) (by rw [LL3.out]; exact g0)
      go_wp2_with fail
      go_loopw [4, 30, 31, 164] (fun s4 _ _ s wr => ∃ i : Nat, s4 = .bool false ∧ s = .int .i64 i ∧ i ≤ gs.length ∧ Hid (Below x10.heap.size x10 wr)) (fun _ _ _ s _ => gs.length - (intOf s).toNat)
      case atStart => exact ⟨0, rfl, rfl, Nat.zero_le _, hide (Below.refl _ _)⟩
      case round =>
        obtain ⟨i, rfl, rfl, hi, HBi⟩ := hrel
        by_cases hlt : i < gs.length
        · have i0 : (0 : Int) ≤ (i : Int) := by omega
          have i1 : (i : Int) < (gs.length : Int) := by omega
          have i2 : (i : Int) < (X1.length : Int) := by rw [LL1.out]; omega
          have i3 : (i : Int) < (X2.length : Int) := by rw [LL2.out]; omega
          have i4 : (i : Int) < (X3.length : Int) := by rw [LL3.out]; omega
          go_wp2_with fail
          go_loopw [4, 31, 169] (fun s4 _ s wr => ∃ k : Nat, s4 = .bool false ∧ s = .int .i64 k ∧ k ≤ gs.length ∧ Hid (Below x10.heap.size x10 wr)) (fun _ _ s _ => gs.length - (intOf s).toNat)
          case atStart => exact ⟨0, rfl, rfl, Nat.zero_le _, HBi⟩
          case round =>
            obtain ⟨k, rfl, rfl, hk, HBk⟩ := hrel
            by_cases hlk : k < gs.length
            · have k0 : (0 : Int) ≤ (k : Int) := by omega
              have k1 : (k : Int) < (gs.length : Int) := by omega
              have k2 : (k : Int) < (X1.length : Int) := by rw [LL1.out]; omega
              have k3 : (k : Int) < (X2.length : Int) := by rw [LL2.out]; omega
              have k4 : (k : Int) < (X3.length : Int) := by rw [LL3.out]; omega
              have KK := (K10.out.step HBk.out).1
              have c1 := arow_cell (KK (some ⟨bg, og, none⟩) gs (by simp)) hlt
              have c2 := arow_cell (KK (some ⟨bg, og, none⟩) gs (by simp)) hlk
              have c3 := arow_cell (KK (some ⟨br, or, none⟩) X1 (by simp)) (i := i) (by rw [LL1.out]; exact hlt)
              have c4 := arow_cell (KK (some ⟨br, or, none⟩) X1 (by simp)) (i := k) (by rw [LL1.out]; exact hlk)
              have c5 := arow_cell (KK (some ⟨be, oe, none⟩) X2 (by simp)) (i := i) (by rw [LL2.out]; exact hlt)
              have c6 := arow_cell (KK (some ⟨be, oe, none⟩) X2 (by simp)) (i := k) (by rw [LL2.out]; exact hlk)
              have c7 := arow_cell (KK (some ⟨bt, ot, none⟩) X3 (by simp)) (i := i) (by rw [LL3.out]; exact hlt)
              have c8 := arow_cell (KK (some ⟨bt, ot, none⟩) X3 (by simp)) (i := k) (by rw [LL3.out]; exact hlk)
              obtain ⟨hm, heq, h1r, h1t⟩ := HLW.out i k hlt hlk
              rw [← heq] at c6
              clear KK heq
              generalize gs.getD i 0 = x at *
              generalize gs.getD k 0 = y at *
              generalize X1.getD i 0 = R1 at *
              generalize X1.getD k 0 = R2 at *
              generalize X2.getD i 0 = E1 at *
              generalize X3.getD i 0 = T1 at *
              generalize X3.getD k 0 = T2 at *
              have hE : (E1 != E1) = false := by simp
              have d4 : decide (R1 < 1) = false := by simp; omega
              have d5 : decide (T1 < 1) = false := by simp; omega
              clear h1r h1t
              by_cases hxy : x < y
              · obtain ⟨hr, ht⟩ := hm hxy
                have d2 : decide (R2 < R1) = false := by simp; omega
                have d3 : decide (T2 < T1) = false := by simp; omega
                clear hm hr ht
                go_wp2_with fail
                go_quiet (fail)
                go_wp2_with fail
                go_roundw
                case rel => exact ⟨k + 1, rfl, by go_num, by omega, hide (below_drewN HBk.out _)⟩
                case measure => simp only [intOf]; omega
              · have d1 : decide (x < y) = false := by simpa using hxy
                clear hm hxy
                go_wp2_with fail
                go_quiet (fail)
                go_wp2_with fail
                go_roundw
                case rel => exact ⟨k + 1, rfl, by go_num, by omega, hide (below_drewN HBk.out _)⟩
                case measure => simp only [intOf]; omega
            · go_wp2_with fail
              go_roundw
              case rel => exact ⟨i + 1, rfl, by go_num, by omega, HBk⟩
              case measure => simp only [intOf]; omega
        · have hne : ((X1.length : Int) != (gs.length : Int)) = false := by rw [LL1.out]; simp
          have hsm : decide (rr < X2.sum) = false := by simpa using hsum
          go_wp2_with fail
          refine (HSU.out _ ((K10.out.step HBi.out).1 _ _ (by simp))).mono ?_
          rintro e y1 ⟨rfl, hw⟩
          have HF := hide (show Below w.heap.size w y1 from hw ▸ (K10.out.step HBi.out).2)
          clear hw
          generalize X2.sum = SS at *
          go_wp2_with fail
          go_ret
          exact ⟨rfl, HF.out⟩
theorem lFu_walk {a1 a2 : Option Addr} {len1 cap1 len2 cap2 : Nat} {w : World} (hs1 : Src w a1 len1) (hs2 : Src w a2 len2) (m1 : len1 ≤ 140737488351232) (m2 : len2 ≤ 140737488351232) :
    Calls Try.prog 3 #[.slice a1 len1 cap1, .slice a2 len2 cap2] w fun e w' => e = .returned (.bool true) ∧ Below w.heap.size w w' := by
  by_cases h1 : (1048576 : Int) < wrap64 ((len1 : Int) + (len2 : Int))
  · exact lFu_long h1
  · refine lFu_main (hide hs1) (hide hs2) h1 ?_
    rw [wrap_id _ (by omega) (by omega)] at h1
    omega
end Go.Proofs.Ytmhednkbpniphaa
