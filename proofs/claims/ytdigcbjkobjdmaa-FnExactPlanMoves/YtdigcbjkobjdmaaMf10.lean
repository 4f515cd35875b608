/-
  What DoMoves answers, the program's and the model's.
-/
import Derived.Test.YtdigcbjkobjdmaaMe10
namespace Go.Proofs.Ytdigcbjkobjdmaa
open Go.RowKit

theorem av_nil (w : World) (lo : Nat) : AV w lo w.heap.size (.slice none 0 0) 0 [] := ⟨World.ownsRow_nil _ _ _ _, fun g hg => by simp [Value.ownBlock] at hg, Nat.le_refl _⟩
theorem own_some10 {w : World} {base e s n : Nat} {v : Value} {xs : List Value} (h : w.ownsRow base e s v n xs) (hn : n ≠ 0) : ∃ g cap, v = .slice (some ⟨g, 0, none⟩) n cap ∧ base ≤ g ∧ g < w.heap.size := by
  rcases h.2 with ⟨rfl, h0⟩ | ⟨g, cap, cur, rfl, hb, hg, _⟩
  · exact absurd h0 hn
  · exact ⟨g, cap, rfl, hb, (Array.getElem?_eq_some_iff.1 hg).1⟩
set_option maxHeartbeats 400000 in
theorem dm_no1 {a b : Option Addr} {n c m d : Nat} {xs : List Int} {w : World} (HX : Hid (xs.length = n)) (hc : n ≤ c) (HA : Hid (ARow w a xs)) (HG : Hid (Mx.goodB xs = false)) :
    Calls Try.prog 21 #[.slice a n c, .slice b m d] w fun e w' => e = .returned (.tuple #[.slice none 0 0, .bool false]) ∧ w' = w := by
  go_enter Try.func21, Try.ntmps21
  go_wp2_with fail
  refine (gs_eq HX hc HA HG).mono ?_
  rintro e w1 ⟨rfl, rfl⟩
  go_wp2_with fail
  go_ret2
  exact ⟨rfl, rfl⟩
set_option maxHeartbeats 400000 in
theorem dm_no2 {a b : Option Addr} {n c m d : Nat} {xs : List Int} {w : World} (HX : Hid (xs.length = n)) (hc : n ≤ c) (HA : Hid (ARow w a xs)) (HG : Hid (Mx.goodB xs = true)) (hm : 20 < m) :
    Calls Try.prog 21 #[.slice a n c, .slice b m d] w fun e w' => e = .returned (.tuple #[.slice none 0 0, .bool false]) ∧ w' = w := by
  have m0 : (20 : Int) < (m : Int) := by omega
  go_enter Try.func21, Try.ntmps21
  go_wp2_with fail
  refine (gs_eq HX hc HA HG).mono ?_
  rintro e w1 ⟨rfl, rfl⟩
  go_wp2_with fail
  go_ret2
  exact ⟨rfl, rfl⟩
set_option maxHeartbeats 4000000 in
theorem dm_yes {a b : Option Addr} {n c m d : Nat} {xs : List Int} {L : List (Int × Int)} {w : World} (HX : Hid (xs.length = n)) (hc : n ≤ c) (HA : Hid (ARow w a xs)) (HG : Hid (Mx.goodB xs = true)) (HL : Hid (L.length = m)) (hm : m ≤ 20) (HF : Hid (FRow w b L)) :
    Calls Try.prog 21 #[.slice a n c, .slice b m d] w fun e w' => ∃ v, e = .returned (.tuple #[v, .bool (Mx.dmB xs L)]) ∧ Below w.heap.size w w' ∧ AV w' w.heap.size w'.heap.size v (Mx.dmL xs L).length (Mx.dmL xs L) := by
  have m0 : ¬ (20 : Int) < (m : Int) := by omega
  have hn := Mx.good_len HG.out
  rw [HX.out] at hn
  obtain ⟨n2, n9⟩ := hn
  have HNO := hide fun (h : Mx.run xs L = none) => Mx.dm_no (Or.inr (Or.inr h))
  have HYES := hide fun (ys : List Int) (h : Mx.run xs L = some ys) => Mx.dm_yes HG.out (by rw [HL.out]; exact hm) h
  have HR0 : Hid (Mx.run xs (L.take 0) = some xs) := hide rfl
  have HRS := hide fun (i : Nat) (ys : List Int) (hi : i < L.length) (h : Mx.run xs (L.take i) = some ys) (hc : Mx.canB ys (L.getD i (0, 0)) = true) => show Mx.run xs (L.take (i + 1)) = some (Mx.mv ys (L.getD i (0, 0))) by rw [Mx.run_step hi h, hc]; rfl
  have HRF := hide fun (i : Nat) (ys : List Int) (hi : i < L.length) (h : Mx.run xs (L.take i) = some ys) (hc : Mx.canB ys (L.getD i (0, 0)) = false) => HNO.out (Mx.run_stop hi h hc)
  have HLT : Hid (L.take m = L) := hide (by rw [← HL.out, List.take_length])
  generalize Mx.dmB xs L = G at *
  generalize Mx.dmL xs L = R at *
  obtain ⟨b0, o0, rfl, hb0, hcell⟩ := HA.out.resolve_left (fun e => by have := HX.out; rw [e] at this; simp at this; omega)
  have HCL := hide (clone_any (c := c) HX.out (by omega) hcell)
  clear hcell
  go_enter Try.func21, Try.ntmps21
  go_wp2_with fail
  refine (gs_eq HX hc HA HG).mono ?_
  rintro e w1 ⟨rfl, hw1⟩
  obtain rfl : w = w1 := hw1.symm
  go_wp2_with fail
  refine HCL.out.mono ?_
  rintro e w0 ⟨v, rfl, hb, own⟩
  have HB0 := hide hb
  have HO0 := hide own
  obtain ⟨g, cap, rfl, hg0, _⟩ := own_some10 own (by omega)
  clear hb own HCL
  go_wp2_with fail
  go_loopw [4, 5, 8, 21] (fun s4 s5 _ s wr => ∃ (i : Nat) (ys : List Int), s4 = .slice none 0 0 ∧ s5 = .bool false ∧ s = .int .i64 i ∧ i ≤ m ∧ ys.length = n ∧ Hid (wr.ownsRow w.heap.size 3 1 (.slice (some ⟨g, 0, none⟩) n cap) n (ints ys)) ∧ Hid (Below w.heap.size w wr) ∧ Hid (Mx.run xs (L.take i) = some ys)) (fun _ _ _ s _ => m - (intOf s).toNat)
  case atStart => exact ⟨0, xs, rfl, rfl, rfl, Nat.zero_le _, HX.out, HO0, HB0, HR0⟩
  case round =>
    obtain ⟨i, ys, rfl, rfl, rfl, hi, hy, HO, HB, HR⟩ := hrel
    by_cases hlt : i < m
    · obtain ⟨b1, o1, rfl, hb1, r0, r1⟩ := HF.out.at (i := i) (by rw [HL.out]; exact hlt)
      have r0' := (HB.out.cell (p := ⟨b1, o1 + i * 2, none⟩) hb1).trans r0
      have r1' := (HB.out.cell (p := ⟨b1, o1 + i * 2 + 1, none⟩) hb1).trans r1
      have HS1 := hide (HRS.out i ys (by rw [HL.out]; exact hlt) HR.out)
      have HS2 := hide (HRF.out i ys (by rw [HL.out]; exact hlt) HR.out)
      generalize hmm : L.getD i (0, 0) = mm at *
      obtain ⟨F, T⟩ := mm
      simp only at r0' r1'
      clear r0 r1 hmm
      have i0 : (0 : Int) ≤ (i : Int) := by omega
      have i1 : (i : Int) < (m : Int) := by omega
      have bW1 := below_new wr (.cells #[.int .i64 F, .int .i64 T] 30)
      have own1 := HO.out.alloc (.cells #[.int .i64 F, .int .i64 T] 30)
      have cm0 : (wr.alloc (.cells #[.int .i64 F, .int .i64 T] 30)).cell? ⟨wr.heap.size, 0, none⟩ = some (.int .i64 F) := by simp
      have cm1 : (wr.alloc (.cells #[.int .i64 F, .int .i64 T] 30)).cell? ⟨wr.heap.size, 1, none⟩ = some (.int .i64 T) := by simp
      have hz1 : wr.heap.size < (wr.alloc (.cells #[.int .i64 F, .int .i64 T] 30)).heap.size := by simp
      obtain ⟨W1, hW1⟩ : ∃ W, W = wr.alloc (.cells #[.int .i64 F, .int .i64 T] 30) := ⟨_, rfl⟩
      rw [← hW1] at bW1 own1 cm0 cm1 hz1
      have HB1 := hide (HB.out.trans (bW1.mono HB.out.size))
      have HO1 := hide own1
      have HW1 := hide hW1.symm
      obtain ⟨BV, hBV⟩ : ∃ b, b = wr.heap.size := ⟨_, rfl⟩
      rw [← hBV] at cm0 cm1 hz1
      have HBV := hide hBV.symm
      clear bW1 own1 hW1 hBV HO HB
      go_upto_region 7 with fail
      rw [HW1.out, HBV.out]
      clear HW1 HBV
      have HCM := hide (cm_any (c := cap) (F := F) (T := T) hy (by omega) (by omega) (arow_owns hy.symm HO1.out))
      have HIN := hide fun (h : Mx.canB ys (F, T) = true) => Mx.can_in h
      generalize Mx.canB ys (F, T) = K at *
      go_wp2_with fail
      refine HCM.out.mono ?_
      rintro e w2 ⟨rfl, hb2⟩
      have own2 := g_own HO1.out hb2
      have cm0 := (hb2.cell (p := ⟨BV, 0, none⟩) hz1).trans cm0
      have cm1 := (hb2.cell (p := ⟨BV, 1, none⟩) hz1).trans cm1
      have HB2 := hide (HB1.out.trans (hb2.mono HB1.out.size))
      clear HCM hb2
      cases K
      · obtain ⟨rfl, rfl⟩ := HS2.out rfl
        have HNIL := hide (av_nil w2 w.heap.size)
        go_wp2_with fail
        go_ret2
        exact ⟨.slice none 0 0, rfl, HB2.out, HNIL.out⟩
      · obtain ⟨⟨q1, q2⟩, ⟨q3, q4⟩, _, _⟩ := HIN.out rfl
        obtain ⟨f, rfl⟩ := Int.eq_ofNat_of_zero_le q1
        obtain ⟨t, rfl⟩ := Int.eq_ofNat_of_zero_le q3
        have HMG := hide (mg_any (f := f) (t := t) hy (by omega) (by omega) own2)
        have HRN := hide (HS1.out rfl)
        clear own2 HS1 HS2 HIN q1 q2 q3 q4
        go_wp2_with fail
        refine HMG.out.mono ?_
        rintro e w3 ⟨rfl, own3, hg3⟩
        have HO3 := hide own3
        have HB3 := hide (HB2.out.trans (grown_under10 hg3 (fun b e => by cases e; exact hg0) HB2.out.size))
        clear own3 hg3 HMG
        go_wp2_with fail
        go_roundw
        case rel => exact ⟨i + 1, _, rfl, rfl, by go_num, by omega, by rw [Mx.mv_len]; exact hy, HO3, HB3, HRN⟩
        case measure => simp only [intOf]; omega
    · have hie : i = m := by omega
      subst hie
      rw [HLT.out] at HR
      obtain ⟨rfl, rfl⟩ := HYES.out ys HR.out
      have HFIN := hide (AV.new HO.out)
      go_wp2_with fail
      go_ret2
      exact ⟨.slice (some ⟨g, 0, none⟩) n cap, rfl, HB.out, HFIN.out⟩
theorem dm_w {a b : Option Addr} {n c m d : Nat} {xs : List Int} {L : List (Int × Int)} {w : World} (hx : xs.length = n) (hc : n ≤ c) (ha : ARow w a xs) (hl : L.length = m) (hf : FRow w b L) :
    Calls Try.prog 21 #[.slice a n c, .slice b m d] w fun e w' => ∃ v, e = .returned (.tuple #[v, .bool (Mx.dmB xs L)]) ∧ Below w.heap.size w w' ∧ AV w' w.heap.size w'.heap.size v (Mx.dmL xs L).length (Mx.dmL xs L) := by
  cases hg : Mx.goodB xs
  · obtain ⟨e1, e2⟩ := Mx.dm_no (L := L) (Or.inl hg)
    rw [e1, e2]
    exact (dm_no1 (hide hx) hc (hide ha) (hide hg)).mono fun e w' ⟨he, hw⟩ => ⟨_, he, hw ▸ Below.refl _ _, hw ▸ av_nil w _⟩
  · by_cases hm : m ≤ 20
    · exact dm_yes (hide hx) hc (hide ha) (hide hg) (hide hl) hm (hide hf)
    · obtain ⟨e1, e2⟩ := Mx.dm_no (xs := xs) (L := L) (Or.inr (Or.inl (by omega)))
      rw [e1, e2]
      exact (dm_no2 (hide hx) hc (hide ha) (hide hg) (by omega)).mono fun e w' ⟨he, hw⟩ => ⟨_, he, hw ▸ Below.refl _ _, hw ▸ av_nil w _⟩
set_option maxHeartbeats 400000 in
theorem sdm_no1 {a b : Option Addr} {n c m d : Nat} {xs : List Int} {w : World} (HX : Hid (xs.length = n)) (hc : n ≤ c) (HA : Hid (ARow w a xs)) (HG : Hid (Mx.goodB xs = false)) :
    Calls Try.prog 19 #[.slice a n c, .slice b m d] w fun e w' => e = .returned (.tuple #[.slice none 0 0, .bool false]) ∧ w' = w := by
  go_enter Try.func19, Try.ntmps19
  go_wp2_with fail
  refine (sgs_eq HX hc HA HG).mono ?_
  rintro e w1 ⟨rfl, rfl⟩
  go_wp2_with fail
  go_ret2
  exact ⟨rfl, rfl⟩
set_option maxHeartbeats 400000 in
theorem sdm_no2 {a b : Option Addr} {n c m d : Nat} {xs : List Int} {w : World} (HX : Hid (xs.length = n)) (hc : n ≤ c) (HA : Hid (ARow w a xs)) (HG : Hid (Mx.goodB xs = true)) (hm : 20 < m) :
    Calls Try.prog 19 #[.slice a n c, .slice b m d] w fun e w' => e = .returned (.tuple #[.slice none 0 0, .bool false]) ∧ w' = w := by
  have m0 : (20 : Int) < (m : Int) := by omega
  go_enter Try.func19, Try.ntmps19
  go_wp2_with fail
  refine (sgs_eq HX hc HA HG).mono ?_
  rintro e w1 ⟨rfl, rfl⟩
  go_wp2_with fail
  go_ret2
  exact ⟨rfl, rfl⟩
set_option maxHeartbeats 4000000 in
theorem sdm_yes {a b : Option Addr} {n c m d : Nat} {xs : List Int} {L : List (Int × Int)} {w : World} (HX : Hid (xs.length = n)) (hc : n ≤ c) (HA : Hid (ARow w a xs)) (HG : Hid (Mx.goodB xs = true)) (HL : Hid (L.length = m)) (hm : m ≤ 20) (HF : Hid (FRow w b L)) :
    Calls Try.prog 19 #[.slice a n c, .slice b m d] w fun e w' => ∃ v, e = .returned (.tuple #[v, .bool (Mx.dmB xs L)]) ∧ Below w.heap.size w w' ∧ AV w' w.heap.size w'.heap.size v (Mx.dmL xs L).length (Mx.dmL xs L) := by
  have m0 : ¬ (20 : Int) < (m : Int) := by omega
  have hn := Mx.good_len HG.out
  rw [HX.out] at hn
  obtain ⟨n2, n9⟩ := hn
  have HNO := hide fun (h : Mx.run xs L = none) => Mx.dm_no (Or.inr (Or.inr h))
  have HYES := hide fun (ys : List Int) (h : Mx.run xs L = some ys) => Mx.dm_yes HG.out (by rw [HL.out]; exact hm) h
  have HR0 : Hid (Mx.run xs (L.take 0) = some xs) := hide rfl
  have HRS := hide fun (i : Nat) (ys : List Int) (hi : i < L.length) (h : Mx.run xs (L.take i) = some ys) (hc : Mx.canB ys (L.getD i (0, 0)) = true) => show Mx.run xs (L.take (i + 1)) = some (Mx.mv ys (L.getD i (0, 0))) by rw [Mx.run_step hi h, hc]; rfl
  have HRF := hide fun (i : Nat) (ys : List Int) (hi : i < L.length) (h : Mx.run xs (L.take i) = some ys) (hc : Mx.canB ys (L.getD i (0, 0)) = false) => HNO.out (Mx.run_stop hi h hc)
  have HLT : Hid (L.take m = L) := hide (by rw [← HL.out, List.take_length])
  generalize Mx.dmB xs L = G at *
  generalize Mx.dmL xs L = R at *
  obtain ⟨v, w0, hr0, own, hb⟩ := cl_run (c := c) HX.out (by omega) HA.out
  have HB0 := hide hb
  have HO0 := hide own
  obtain ⟨g, cap, rfl, hg0, _⟩ := own_some10 own (by omega)
  clear hb own
  go_enter Try.func19, Try.ntmps19
  go_wp2_with fail
  refine (sgs_eq HX hc HA HG).mono ?_
  rintro e w1 ⟨rfl, hw1⟩
  obtain rfl : w = w1 := hw1.symm
  go_wp2_with (first | (at_builtin; refine Lib.wpList_append_run _ rfl _ _ _ _ rfl _ _ rfl rfl _ _ (hr0 _) ?_))
  clear hr0
  go_loopw [4, 5, 8, 22] (fun s4 s5 _ s wr => ∃ (i : Nat) (ys : List Int), s4 = .slice none 0 0 ∧ s5 = .bool false ∧ s = .int .i64 i ∧ i ≤ m ∧ ys.length = n ∧ Hid (wr.ownsRow w.heap.size 3 1 (.slice (some ⟨g, 0, none⟩) n cap) n (ints ys)) ∧ Hid (Below w.heap.size w wr) ∧ Hid (Mx.run xs (L.take i) = some ys)) (fun _ _ _ s _ => m - (intOf s).toNat)
  case atStart => exact ⟨0, xs, rfl, rfl, rfl, Nat.zero_le _, HX.out, HO0, HB0, HR0⟩
  case round =>
    obtain ⟨i, ys, rfl, rfl, rfl, hi, hy, HO, HB, HR⟩ := hrel
    by_cases hlt : i < m
    · obtain ⟨b1, o1, rfl, hb1, r0, r1⟩ := HF.out.at (i := i) (by rw [HL.out]; exact hlt)
      have r0' := (HB.out.cell (p := ⟨b1, o1 + i * 2, none⟩) hb1).trans r0
      have r1' := (HB.out.cell (p := ⟨b1, o1 + i * 2 + 1, none⟩) hb1).trans r1
      have HS1 := hide (HRS.out i ys (by rw [HL.out]; exact hlt) HR.out)
      have HS2 := hide (HRF.out i ys (by rw [HL.out]; exact hlt) HR.out)
      generalize hmm : L.getD i (0, 0) = mm at *
      obtain ⟨F, T⟩ := mm
      simp only at r0' r1'
      clear r0 r1 hmm
      have i0 : (0 : Int) ≤ (i : Int) := by omega
      have i1 : (i : Int) < (m : Int) := by omega
      have bW1 := below_new wr (.cells #[.int .i64 F, .int .i64 T] 30)
      have own1 := HO.out.alloc (.cells #[.int .i64 F, .int .i64 T] 30)
      have cm0 : (wr.alloc (.cells #[.int .i64 F, .int .i64 T] 30)).cell? ⟨wr.heap.size, 0, none⟩ = some (.int .i64 F) := by simp
      have cm1 : (wr.alloc (.cells #[.int .i64 F, .int .i64 T] 30)).cell? ⟨wr.heap.size, 1, none⟩ = some (.int .i64 T) := by simp
      have hz1 : wr.heap.size < (wr.alloc (.cells #[.int .i64 F, .int .i64 T] 30)).heap.size := by simp
      obtain ⟨W1, hW1⟩ : ∃ W, W = wr.alloc (.cells #[.int .i64 F, .int .i64 T] 30) := ⟨_, rfl⟩
      rw [← hW1] at bW1 own1 cm0 cm1 hz1
      have HB1 := hide (HB.out.trans (bW1.mono HB.out.size))
      have HO1 := hide own1
      have HW1 := hide hW1.symm
      obtain ⟨BV, hBV⟩ : ∃ b, b = wr.heap.size := ⟨_, rfl⟩
      rw [← hBV] at cm0 cm1 hz1
      have HBV := hide hBV.symm
      clear bW1 own1 hW1 hBV HO HB
      go_upto_region 7 with fail
      rw [HW1.out, HBV.out]
      clear HW1 HBV
      have HLD := hide (ld_any (F := F) (T := T) hy HO1.out)
      have HAF : Hid (Mx.canB ys (F, T) = true → aft ys (F, T) = Mx.mv ys (F, T)) := hide fun h => by unfold aft; rw [h]; rfl
      generalize Mx.canB ys (F, T) = K at *
      go_wp2_with fail
      refine HLD.out.mono ?_
      rintro e w2 ⟨rfl, own2, hg2⟩
      have HB2 := hide (HB1.out.trans (grown_under10 hg2 (fun b e => by cases e; exact hg0) HB1.out.size))
      have HO2 := hide own2
      clear HLD own2 hg2
      cases K
      · obtain ⟨rfl, rfl⟩ := HS2.out rfl
        have HNIL := hide (av_nil w2 w.heap.size)
        go_wp2_with fail
        go_ret2
        exact ⟨.slice none 0 0, rfl, HB2.out, HNIL.out⟩
      · have HRN := hide (HS1.out rfl)
        rw [HAF.out rfl] at HO2
        clear HS1 HS2 HAF
        go_wp2_with fail
        go_roundw
        case rel => exact ⟨i + 1, _, rfl, rfl, by go_num, by omega, by rw [Mx.mv_len]; exact hy, HO2, HB2, HRN⟩
        case measure => simp only [intOf]; omega
    · have hie : i = m := by omega
      subst hie
      rw [HLT.out] at HR
      obtain ⟨rfl, rfl⟩ := HYES.out ys HR.out
      have HFIN := hide (AV.new HO.out)
      go_wp2_with fail
      go_ret2
      exact ⟨.slice (some ⟨g, 0, none⟩) n cap, rfl, HB.out, HFIN.out⟩
theorem sdm_w {a b : Option Addr} {n c m d : Nat} {xs : List Int} {L : List (Int × Int)} {w : World} (hx : xs.length = n) (hc : n ≤ c) (ha : ARow w a xs) (hl : L.length = m) (hf : FRow w b L) :
    Calls Try.prog 19 #[.slice a n c, .slice b m d] w fun e w' => ∃ v, e = .returned (.tuple #[v, .bool (Mx.dmB xs L)]) ∧ Below w.heap.size w w' ∧ AV w' w.heap.size w'.heap.size v (Mx.dmL xs L).length (Mx.dmL xs L) := by
  cases hg : Mx.goodB xs
  · obtain ⟨e1, e2⟩ := Mx.dm_no (L := L) (Or.inl hg)
    rw [e1, e2]
    exact (sdm_no1 (hide hx) hc (hide ha) (hide hg)).mono fun e w' ⟨he, hw⟩ => ⟨_, he, hw ▸ Below.refl _ _, hw ▸ av_nil w _⟩
  · by_cases hm : m ≤ 20
    · exact sdm_yes (hide hx) hc (hide ha) (hide hg) (hide hl) hm (hide hf)
    · obtain ⟨e1, e2⟩ := Mx.dm_no (xs := xs) (L := L) (Or.inr (Or.inl (by omega)))
      rw [e1, e2]
      exact (sdm_no2 (hide hx) hc (hide ha) (hide hg) (by omega)).mono fun e w' ⟨he, hw⟩ => ⟨_, he, hw ▸ Below.refl _ _, hw ▸ av_nil w _⟩
end Go.Proofs.Ytdigcbjkobjdmaa
