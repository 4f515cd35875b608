/-
  Draws of chapter 5: DrawFluidCost hands out two lists.
-/
import Derived.Test.YtmhednkbpniphaaDo
namespace Go.Proofs.Ytmhednkbpniphaa
open Go.RowKit

theorem own_arow {w : World} {base n c : Nat} {a : Option Addr} {xs : List Int} (hx : xs.length = n) (h : w.ownsRow base 3 1 (.slice a n c) n (ints xs)) : ARow w a xs := by
  obtain ⟨a', c', e, r⟩ := own_slice hx h
  cases e
  exact r
set_option maxRecDepth 100000 in
set_option maxHeartbeats 4000000 in
theorem drawFC_any {a : Option Addr} {len cap : Nat} {w : World} (hs : Hid (Src w a len)) :
    Calls Try.prog 5 #[.slice a len cap] w fun e w' => ∃ a1 c1 xs a2 c2 ls, e = .returned (.tuple #[.slice a1 xs.length c1, .slice a2 ls.length c2]) ∧ xs.length ≤ 9 ∧ ls.length ≤ 9 ∧ ARow w' a1 xs ∧ ARow w' a2 ls ∧ Below w.heap.size w w' := by
  have HC := hide (cur_new (cap := cap) hs.out)
  go_enter Try.func5, Try.ntmps5
  go_wp2_with fail
  refine (flow_any HC.out (by omega)).mono ?_
  rintro e w1 ⟨v1, xs, rfl, hx, own1, hc1, hk1⟩
  rw [asize] at own1
  obtain ⟨a1, c1, rfl, _⟩ := own_slice rfl own1
  have HO1 := hide own1
  have HC1 := hide hc1
  have HK1 := hide hk1
  clear own1 hc1 hk1 HC
  go_wp2_with fail
  refine (croom_any HC1.out (by omega)).mono ?_
  rintro e w2 ⟨p, rfl, hc2, hk2⟩
  have own2 := own_kp HO1.out hk2 (Nat.lt_succ_self _)
  obtain ⟨a1', c1', e1, r2⟩ := own_slice rfl own2
  cases e1
  have HO2 := hide own2
  have HC2 := hide hc2
  have HK2 := hide (HK1.out.trans hk2)
  have hcw : w.heap.size < w2.heap.size := by have := HK2.out.size; rw [asize] at this; omega
  have HR2 := hide r2
  clear hc2 hk2 own2 r2 HO1 HC1 HK1
  have hl3 : (roX xs p).length ≤ 9 := Nat.le_trans roX_len hx
  have hl4 : (eqX xs 100).length ≤ 9 := Nat.le_trans eqX_len hx
  have HSE := hide (fun (w' : World) (ha : ARow w' a1 xs) => seqp_w (c := c1) (p := 100) (hide ha) (hide rfl))
  go_wp2_with fail
  refine (srop_w HR2 (hide rfl)).mono ?_
  rintro e w3 ⟨a3, c3, rfl, hb3, own3⟩
  have HC3 := hide (HC2.out.below hb3)
  have HKt := hide (Kp.of_below (c := w.heap.size) hb3)
  have HL := hide own3
  have HR3 := hide (HR2.out.below hb3)
  clear hb3 own3 HC2 HR2
  generalize Fd.roomB xs p = ok at *
  generalize roX xs p = l3 at *
  generalize Fd.roomB xs 100 = ok4 at *
  generalize eqX xs 100 = l4 at *
  cases ok
  · go_wp2_with fail
    refine (HSE.out _ HR3.out).mono ?_
    rintro e w4 ⟨aL, cL, rfl, hb4, own4⟩
    have HCL := hide ((HC3.out.below hb4).le (show _ ≤ 60 by omega))
    have HKL := hide (HKt.out.trans (Kp.of_below hb4))
    have HLL := hide (own_base own4 HKt.out.size)
    have hll := hl4
    clear hb4 own4 HC3 HKt HL HR3 hl3 HSE hl4
    generalize l4 = ls at *
    by_cases h0 : 0 < ls.length
    · have l0 : (0 : Int) < (ls.length : Int) := by omega
      obtain ⟨g, cg, eg, hg0, hgl⟩ := own_some HLL.out (by omega)
      cases eg
      go_wp2_with fail
      refine (one_any 6 (by omega) HCL.out (by omega)).mono ?_
      rintro e w6 ⟨r6, rfl, hc6, hk6⟩
      have HC6 := hide hc6
      have HL6 := hide (own_kp HLL.out hk6 hcw)
      have HK6 := hide (HKL.out.trans hk6)
      clear hc6 hk6 HCL HLL HKL hgl
      cases r6
      · go_wp2_with fail
        refine bodyPost_ret (v := .tuple #[.slice a1 xs.length c1, .slice (some ⟨g, 0, none⟩) ls.length cL]) (by simp [results, Try.results5, go_sem]) rfl ?_
        exact ⟨a1, c1, xs, _, cL, ls, rfl, hx, hll, own_arow rfl (own_kp HO2.out HK6.out (Nat.lt_succ_self _)), own_arow rfl HL6.out, kp_new (HK2.out.trans HK6.out)⟩
      · go_wp2_with fail
        refine (pick_any ls.length (by omega) HC6.out (by omega)).mono ?_
        rintro e w7 ⟨z, rfl, z0, z1, hc7, hk7⟩
        obtain ⟨k, rfl⟩ := Int.eq_ofNat_of_zero_le z0
        have hk : k < ls.length := by omega
        have k1 : (k : Int) < (ls.length : Int) := by omega
        have HC7 := hide hc7
        have HL7 := hide (own_kp HL6.out hk7 hcw)
        have HK7 := hide (HK6.out.trans hk7)
        clear hc7 hk7 HC6 HL6 HK6 z1
        go_wp2_with fail
        refine (among_any (HC7.out.below (below_alloc w7 _)) (by omega) (by omega) (by omega) (by simp) (by have := HC7.out.1; omega) (four_cells w7 _ _ _ _ _)).mono ?_
        rintro e w8 ⟨y, rfl, hc8, hk8⟩
        have hk8' : Kp w.heap.size w7 w8 := ((Kp.refl _ w7).alloc _).trans hk8
        have own8 := own_kp HL7.out hk8' hcw
        have c0 : w8.cell? ⟨g, k, none⟩ = some (.int .i64 (ls.getD k 0)) := by rw [own8.cellAt k (by omega), ints_get ls k hk]
        have f0 := own8.frozenAt k
        obtain ⟨st1, st2⟩ := own8.stored k (.int .i64 y)
        rw [ints_set] at st1
        have HST := hide st1
        have HK8 := hide (kp_set (o := k) (v := .int .i64 y) (HK7.out.trans hk8') hg0)
        clear hc8 hk8 hk8' own8 st1 st2 HC7 HL7 HK7
        generalize ls.getD k 0 = y0 at *
        go_wp2_with fail
        refine bodyPost_ret (v := .tuple #[.slice a1 xs.length c1, .slice (some ⟨g, 0, none⟩) ls.length cL]) (by simp [results, Try.results5, go_sem]) rfl ?_
        exact ⟨a1, c1, xs, _, cL, ls.set k y, by simp, hx, by simpa using hll, own_arow rfl (own_kp HO2.out HK8.out (Nat.lt_succ_self _)), own_arow (by simp) HST.out, kp_new (HK2.out.trans HK8.out)⟩
    · go_wp2_with fail
      refine bodyPost_ret (v := .tuple #[.slice a1 xs.length c1, .slice aL ls.length cL]) (by simp [results, Try.results5, go_sem]) rfl ?_
      exact ⟨a1, c1, xs, _, cL, ls, rfl, hx, hll, own_arow rfl (own_kp HO2.out HKL.out (Nat.lt_succ_self _)), own_arow rfl HLL.out, kp_new (HK2.out.trans HKL.out)⟩
  · go_wp2_with fail
    refine (one_any 3 (by omega) HC3.out (by omega)).mono ?_
    rintro e w4 ⟨r4, rfl, hc4, hk4⟩
    have HC4 := hide hc4
    have HL4 := hide (own_kp HL.out hk4 hcw)
    have HKt4 := hide (HKt.out.trans hk4)
    have HR4 := hide (own_slice rfl (own_kp HO2.out HKt4.out (Nat.lt_succ_self _)))
    clear hc4 hk4 HC3 HKt HL HR3
    cases r4
    · have HCL := hide (HC4.out.le (show _ ≤ 60 by omega))
      have HKL := HKt4
      have HLL := HL4
      have hll := hl3
      clear HC4 HL4 HKt4 HR4 hl3 HSE hl4
      generalize l3 = ls at *
      generalize a3 = aL at *
      generalize c3 = cL at *
      by_cases h0 : 0 < ls.length
      · have l0 : (0 : Int) < (ls.length : Int) := by omega
        obtain ⟨g, cg, eg, hg0, hgl⟩ := own_some HLL.out (by omega)
        cases eg
        go_wp2_with fail
        refine (one_any 6 (by omega) HCL.out (by omega)).mono ?_
        rintro e w6 ⟨r6, rfl, hc6, hk6⟩
        have HC6 := hide hc6
        have HL6 := hide (own_kp HLL.out hk6 hcw)
        have HK6 := hide (HKL.out.trans hk6)
        clear hc6 hk6 HCL HLL HKL hgl
        cases r6
        · go_wp2_with fail
          refine bodyPost_ret (v := .tuple #[.slice a1 xs.length c1, .slice (some ⟨g, 0, none⟩) ls.length cL]) (by simp [results, Try.results5, go_sem]) rfl ?_
          exact ⟨a1, c1, xs, _, cL, ls, rfl, hx, hll, own_arow rfl (own_kp HO2.out HK6.out (Nat.lt_succ_self _)), own_arow rfl HL6.out, kp_new (HK2.out.trans HK6.out)⟩
        · go_wp2_with fail
          refine (pick_any ls.length (by omega) HC6.out (by omega)).mono ?_
          rintro e w7 ⟨z, rfl, z0, z1, hc7, hk7⟩
          obtain ⟨k, rfl⟩ := Int.eq_ofNat_of_zero_le z0
          have hk : k < ls.length := by omega
          have k1 : (k : Int) < (ls.length : Int) := by omega
          have HC7 := hide hc7
          have HL7 := hide (own_kp HL6.out hk7 hcw)
          have HK7 := hide (HK6.out.trans hk7)
          clear hc7 hk7 HC6 HL6 HK6 z1
          go_wp2_with fail
          refine (among_any (HC7.out.below (below_alloc w7 _)) (by omega) (by omega) (by omega) (by simp) (by have := HC7.out.1; omega) (four_cells w7 _ _ _ _ _)).mono ?_
          rintro e w8 ⟨y, rfl, hc8, hk8⟩
          have hk8' : Kp w.heap.size w7 w8 := ((Kp.refl _ w7).alloc _).trans hk8
          have own8 := own_kp HL7.out hk8' hcw
          have c0 : w8.cell? ⟨g, k, none⟩ = some (.int .i64 (ls.getD k 0)) := by rw [own8.cellAt k (by omega), ints_get ls k hk]
          have f0 := own8.frozenAt k
          obtain ⟨st1, st2⟩ := own8.stored k (.int .i64 y)
          rw [ints_set] at st1
          have HST := hide st1
          have HK8 := hide (kp_set (o := k) (v := .int .i64 y) (HK7.out.trans hk8') hg0)
          clear hc8 hk8 hk8' own8 st1 st2 HC7 HL7 HK7
          generalize ls.getD k 0 = y0 at *
          go_wp2_with fail
          refine bodyPost_ret (v := .tuple #[.slice a1 xs.length c1, .slice (some ⟨g, 0, none⟩) ls.length cL]) (by simp [results, Try.results5, go_sem]) rfl ?_
          exact ⟨a1, c1, xs, _, cL, ls.set k y, by simp, hx, by simpa using hll, own_arow rfl (own_kp HO2.out HK8.out (Nat.lt_succ_self _)), own_arow (by simp) HST.out, kp_new (HK2.out.trans HK8.out)⟩
      · go_wp2_with fail
        refine bodyPost_ret (v := .tuple #[.slice a1 xs.length c1, .slice aL ls.length cL]) (by simp [results, Try.results5, go_sem]) rfl ?_
        exact ⟨a1, c1, xs, _, cL, ls, rfl, hx, hll, own_arow rfl (own_kp HO2.out HKL.out (Nat.lt_succ_self _)), own_arow rfl HLL.out, kp_new (HK2.out.trans HKL.out)⟩
    · obtain ⟨a1', c1', e1, r4⟩ := HR4.out
      cases e1
      go_wp2_with fail
      refine (HSE.out _ r4).mono ?_
      rintro e w5 ⟨aL, cL, rfl, hb5, own5⟩
      have HCL := hide ((HC4.out.below hb5).le (show _ ≤ 60 by omega))
      have HKL := hide (HKt4.out.trans (Kp.of_below hb5))
      have HLL := hide (own_base own5 HKt4.out.size)
      have hll := hl4
      clear hb5 own5 HC4 HKt4 HL4 HR4 hl3 HSE hl4 r4
      generalize l4 = ls at *
      by_cases h0 : 0 < ls.length
      · have l0 : (0 : Int) < (ls.length : Int) := by omega
        obtain ⟨g, cg, eg, hg0, hgl⟩ := own_some HLL.out (by omega)
        cases eg
        go_wp2_with fail
        refine (one_any 6 (by omega) HCL.out (by omega)).mono ?_
        rintro e w6 ⟨r6, rfl, hc6, hk6⟩
        have HC6 := hide hc6
        have HL6 := hide (own_kp HLL.out hk6 hcw)
        have HK6 := hide (HKL.out.trans hk6)
        clear hc6 hk6 HCL HLL HKL hgl
        cases r6
        · go_wp2_with fail
          refine bodyPost_ret (v := .tuple #[.slice a1 xs.length c1, .slice (some ⟨g, 0, none⟩) ls.length cL]) (by simp [results, Try.results5, go_sem]) rfl ?_
          exact ⟨a1, c1, xs, _, cL, ls, rfl, hx, hll, own_arow rfl (own_kp HO2.out HK6.out (Nat.lt_succ_self _)), own_arow rfl HL6.out, kp_new (HK2.out.trans HK6.out)⟩
        · go_wp2_with fail
          refine (pick_any ls.length (by omega) HC6.out (by omega)).mono ?_
          rintro e w7 ⟨z, rfl, z0, z1, hc7, hk7⟩
          obtain ⟨k, rfl⟩ := Int.eq_ofNat_of_zero_le z0
          have hk : k < ls.length := by omega
          have k1 : (k : Int) < (ls.length : Int) := by omega
          have HC7 := hide hc7
          have HL7 := hide (own_kp HL6.out hk7 hcw)
          have HK7 := hide (HK6.out.trans hk7)
          clear hc7 hk7 HC6 HL6 HK6 z1
          go_wp2_with fail
          refine (among_any (HC7.out.below (below_alloc w7 _)) (by omega) (by omega) (by omega) (by simp) (by have := HC7.out.1; omega) (four_cells w7 _ _ _ _ _)).mono ?_
          rintro e w8 ⟨y, rfl, hc8, hk8⟩
          have hk8' : Kp w.heap.size w7 w8 := ((Kp.refl _ w7).alloc _).trans hk8
          have own8 := own_kp HL7.out hk8' hcw
          have c0 : w8.cell? ⟨g, k, none⟩ = some (.int .i64 (ls.getD k 0)) := by rw [own8.cellAt k (by omega), ints_get ls k hk]
          have f0 := own8.frozenAt k
          obtain ⟨st1, st2⟩ := own8.stored k (.int .i64 y)
          rw [ints_set] at st1
          have HST := hide st1
          have HK8 := hide (kp_set (o := k) (v := .int .i64 y) (HK7.out.trans hk8') hg0)
          clear hc8 hk8 hk8' own8 st1 st2 HC7 HL7 HK7
          generalize ls.getD k 0 = y0 at *
          go_wp2_with fail
          refine bodyPost_ret (v := .tuple #[.slice a1 xs.length c1, .slice (some ⟨g, 0, none⟩) ls.length cL]) (by simp [results, Try.results5, go_sem]) rfl ?_
          exact ⟨a1, c1, xs, _, cL, ls.set k y, by simp, hx, by simpa using hll, own_arow rfl (own_kp HO2.out HK8.out (Nat.lt_succ_self _)), own_arow (by simp) HST.out, kp_new (HK2.out.trans HK8.out)⟩
      · go_wp2_with fail
        refine bodyPost_ret (v := .tuple #[.slice a1 xs.length c1, .slice aL ls.length cL]) (by simp [results, Try.results5, go_sem]) rfl ?_
        exact ⟨a1, c1, xs, _, cL, ls, rfl, hx, hll, own_arow rfl (own_kp HO2.out HKL.out (Nat.lt_succ_self _)), own_arow rfl HLL.out, kp_new (HK2.out.trans HKL.out)⟩
end Go.Proofs.Ytmhednkbpniphaa
