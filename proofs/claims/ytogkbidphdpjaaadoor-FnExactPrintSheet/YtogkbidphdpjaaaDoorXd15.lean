/-
  PrintSheet of the model.
-/
import Derived.Test.YtogkbidphdpjaaaDoorXc15
namespace Go.Proofs.YtogkbidphdpjaaaDoor
open Go.RowKit

theorem line_facts (P x : ByteArray) (z : Int) (hp : P.size ≤ 5) (hx : x.size ≤ 8) (h0 : 0 ≤ z) (h1 : z ≤ 1000) :
    ∃ A1 A2 Z A3 : ByteArray, (∀ w, (Op.stringOp .add P x).run Tryd.prog w = .ok (.string A1) w) ∧ (∀ w, (Op.stringOp .add A1 ⟨#[32]⟩).run Tryd.prog w = .ok (.string A2) w) ∧ (∀ w, (Op.stringOp .add A2 Z).run Tryd.prog w = .ok (.string A3) w)
      ∧ (∀ w, (Op.stringOp .add A3 ⟨#[10]⟩).run Tryd.prog w = .ok (.string (lineX P x z)) w) ∧ Hid (∀ W, Calls Tryd.prog 35 #[.int .i64 z] W fun e w' => e = .returned (.string Z) ∧ Below W.heap.size W w') := by
  have hz := numB_size z h0 h1
  have e1 : (P ++ x).size ≤ 13 := by rw [ByteArray.size_append]; omega
  have e2 : (P ++ x ++ ⟨#[32]⟩).size ≤ 14 := by rw [ByteArray.size_append]; show (P ++ x).size + 1 ≤ 14; omega
  have e3 : (P ++ x ++ ⟨#[32]⟩ ++ numB z).size ≤ 35 := by rw [ByteArray.size_append]; omega
  exact ⟨P ++ x, P ++ x ++ ⟨#[32]⟩, numB z, P ++ x ++ ⟨#[32]⟩ ++ numB z, addB _ _ (by omega), addB _ _ (by show _ + 1 ≤ _; omega), addB _ _ (by omega), addB _ _ (by show _ + 1 ≤ _; omega), hide fun W => num_all z W h0 (by omega)⟩
set_option maxHeartbeats 1000000 in
theorem ps_no {gs : List Gd} {ls : List (Int × Int)} {a a' : Option Addr} {n c n' c' : Nat} {w : World} (HN : Hid (gs.length = n)) (hc : n ≤ c) (HS : Hid (Short gs)) (HA : Hid (GRow w a gs)) (HL : Hid (ls.length = n')) (HA' : Hid (LRow w a' ls)) (hg : Hid (sheetB gs ls = false)) :
    Calls Tryd.prog 8 #[.agg #[.slice a n c, .slice a' n' c']] w fun e w' => e = .returned (.tuple #[.string ⟨#[]⟩, .bool false]) ∧ Below w.heap.size w w' := by
  have hb0 := below_new w (.cells #[.slice a n c, .slice a' n' c'] 32)
  have PB := hide (PBox.new w (.slice a n c) (.slice a' n' c') 32)
  have HB := hide hb0
  have HR := hide (HA.out.below hb0)
  have HR' := hide (HA'.out.below hb0)
  clear hb0
  go_enter Tryd.func8, Tryd.ntmps8
  obtain ⟨p0, p1, _⟩ := PB.out
  go_wp2_with fail
  refine (gsh_hid hg HN hc HS HR HL HR').mono ?_
  rintro e w1 ⟨rfl, hb1⟩
  have HB1 := hide (HB.out.trans (hb1.mono HB.out.size))
  clear hb1
  go_wp2_with fail
  go_ret2
  exact ⟨rfl, HB1.out⟩
set_option maxHeartbeats 1000000 in
theorem sps_no {gs : List Gd} {ls : List (Int × Int)} {a a' : Option Addr} {n c n' c' : Nat} {w : World} (HN : Hid (gs.length = n)) (hn : n ≤ 1048576) (hc : n ≤ c) (HS : Hid (Short gs)) (HA : Hid (GRow w a gs)) (HL : Hid (ls.length = n')) (hn' : n' ≤ 1048576) (hc' : n' ≤ c') (HA' : Hid (LRow w a' ls)) (hg : Hid (sheetB gs ls = false)) :
    Calls Tryd.prog 6 #[.agg #[.slice a n c, .slice a' n' c']] w fun e w' => e = .returned (.tuple #[.string ⟨#[]⟩, .bool false]) ∧ Below w.heap.size w w' := by
  have hb0 := below_new w (.cells #[.slice a n c, .slice a' n' c'] 32)
  have PB := hide (PBox.new w (.slice a n c) (.slice a' n' c') 32)
  have HB := hide hb0
  have HR := hide (HA.out.below hb0)
  have HR' := hide (HA'.out.below hb0)
  clear hb0
  go_enter Tryd.func6, Tryd.ntmps6
  obtain ⟨p0, p1, _⟩ := PB.out
  go_wp2_with fail
  refine (sgsh_hid hg HN hn hc HS HR HL hn' hc' HR').mono ?_
  rintro e w1 ⟨rfl, hb1⟩
  have HB1 := hide (HB.out.trans (hb1.mono HB.out.size))
  clear hb1
  go_wp2_with fail
  go_ret2
  exact ⟨rfl, HB1.out⟩
set_option maxHeartbeats 4000000 in
theorem spr_any {gs : List Gd} {ls : List (Int × Int)} {a a' : Option Addr} {n c n' c' : Nat} {w : World} (HN : Hid (gs.length = n)) (HA : Hid (GRow w a gs)) (HL : Hid (ls.length = n')) (HA' : Hid (LRow w a' ls)) (hg : Hid (sheetB gs ls = true)) :
    Calls Tryd.prog 17 #[.agg #[.slice a n c, .slice a' n' c']] w fun e w' => e = .returned (.string (outL gs ls n')) ∧ Below w.heap.size w w' := by
  have hb0 := below_new w (.cells #[.slice a n c, .slice a' n' c'] 32)
  have PB1 := hide (PBox.new w (.slice a n c) (.slice a' n' c') 32)
  have HB1 := hide hb0
  clear hb0
  obtain ⟨w1, hw1⟩ : ∃ W, W = w.alloc (.cells #[.slice a n c, .slice a' n' c'] 32) := ⟨_, rfl⟩
  rw [← hw1] at PB1 HB1
  have HW1 := hide hw1.symm
  clear hw1
  obtain ⟨hOK, hn12, hn80, hLN⟩ := sheet_parts hg.out
  have HOK := hide hOK
  have HLN := hide hLN
  rw [HN.out] at hn12
  rw [HL.out] at hn80
  have HAW := hide fun (X : World) (hX : Below w1.heap.size w1 X) => HA.out.below (HB1.out.trans (hX.mono HB1.out.size))
  have HAW' := hide fun (X : World) (hX : Below w1.heap.size w1 X) => HA'.out.below (HB1.out.trans (hX.mono HB1.out.size))
  clear hOK hLN HA HA'
  go_enter Tryd.func17, Tryd.ntmps17
  go_upto_region 1 with fail
  rw [HW1.out]
  obtain ⟨p0, p1, _⟩ := PB1.out
  go_wp2_with fail
  go_loopw [3, 5, 11] (fun s _ t wr => ∃ (k : Nat), s = .string (outG gs k) ∧ t = .int .i64 k ∧ k ≤ n ∧ Hid (Below w1.heap.size w1 wr)) (fun _ _ t _ => n - (intOf t).toNat)
  case atStart => exact ⟨0, rfl, rfl, Nat.zero_le _, hide (Below.refl _ _)⟩
  case round =>
    obtain ⟨k, rfl, rfl, hk, HBl⟩ := hrel
    clear p0 p1 HW1
    by_cases hlt : k < n
    · obtain ⟨b, off, rfl, hb, r0, r1⟩ := (HAW.out _ HBl.out).at (i := k) (by rw [HN.out]; exact hlt)
      obtain ⟨hx, h0, h1⟩ := good_size HOK.out (k := k) (by rw [HN.out]; exact hlt)
      have i0 : (0 : Int) ≤ (k : Int) := by omega
      have i1 : (k : Int) < (n : Int) := by omega
      have hsO := outG_size HOK.out k (by rw [HN.out]; exact hk)
      have hsL := lineX_size (p := gP) (x := (gs.getD k gd0).1) (z := (gs.getD k gd0).2) (by decide) hx h0 (by omega)
      have HO' : Hid (outG gs k ++ lineX gP (gs.getD k gd0).1 (gs.getD k gd0).2 = outG gs (k + 1)) := hide rfl
      have sa := addB (outG gs k) (lineX gP (gs.getD k gd0).1 (gs.getD k gd0).2) (by omega)
      rw [HO'.out] at sa
      obtain ⟨A1, A2, Z, A3, s1', s2, s3, s4, HC⟩ := line_facts gP (gs.getD k gd0).1 (gs.getD k gd0).2 (by decide) hx h0 (by omega)
      have s1 : ∀ w, (Op.stringOp .add ⟨#[103, 111, 111, 100, 32]⟩ (gs.getD k gd0).1).run Tryd.prog w = .ok (.string A1) w := s1'
      clear HO' hsO hsL s1' h0 h1 hx
      generalize lineX gP (gs.getD k gd0).1 (gs.getD k gd0).2 = L at *
      generalize hO' : outG gs (k + 1) = O' at *
      have HO' := hide hO'.symm
      clear hO'
      generalize outG gs k = O at *
      generalize (gs.getD k gd0).1 = x at *
      generalize (gs.getD k gd0).2 = z at *
      have bn := below_new wr (.cells #[.string x, .int .i64 z] 47)
      have PG := hide (PBox.new wr (.string x) (.int .i64 z) 47)
      have HBn := hide (HBl.out.trans (bn.mono HBl.out.size))
      clear bn
      obtain ⟨W, hW⟩ : ∃ W, W = wr.alloc (.cells #[.string x, .int .i64 z] 47) := ⟨_, rfl⟩
      rw [← hW] at PG HBn
      have HW := hide hW.symm
      clear hW
      go_upto_region 5 with fail
      rw [HW.out]
      obtain ⟨q0, q1, hDl⟩ := PG.out
      clear r0 r1
      generalize wr.heap.size = D at *
      have hd := HBn.out.drew
      go_region_held3 (fun w' => w'.cell? ⟨D, 0, none⟩ = some (.string x) ∧ w'.cell? ⟨D, 1, none⟩ = some (.int .i64 z))
        (first | exact ⟨q0, q1⟩ | assumption | fail)
        (first
        | (go_at_call 35; refine (HC.out _).mono ?_; rintro e w2 ⟨rfl, hb2⟩; have HB2 := hide (hd.trans (hb2.mono hd.size)); have hS2 := (⟨(hb2.cell (p := ⟨D, 0, none⟩) hDl).trans q0, (hb2.cell (p := ⟨D, 1, none⟩) hDl).trans q1⟩ : _ ∧ _))
        | fail)
      all_goals go_wp2_with fail
      all_goals exact ⟨⟨k + 1, by rw [HO'.out], by go_num, by omega, HB2⟩, by simp only [intOf]; omega⟩
    · have hin : k = n := by omega
      subst hin
      obtain ⟨p0, p1, _⟩ := PB1.out.below HBl.out
      go_wp2_with fail
      go_loopw [3, 7, 30] (fun s _ t wr => ∃ (j : Nat), s = .string (outL gs ls j) ∧ t = .int .i64 j ∧ j ≤ n' ∧ Hid (Below w1.heap.size w1 wr)) (fun _ _ t _ => n' - (intOf t).toNat)
      case atStart => exact ⟨0, by rw [outL, HN.out], rfl, Nat.zero_le _, HBl⟩
      case round =>
        clear HBl p0 p1
        obtain ⟨j, rfl, rfl, hj, HBl⟩ := hrel
        by_cases hlt : j < n'
        · obtain ⟨b', off', rfl, hb', s0, s1⟩ := (HAW'.out _ HBl.out).at (i := j) (by rw [HL.out]; exact hlt)
          obtain ⟨hy0, hy1, hy2⟩ := line_parts (HLN.out j (by rw [HL.out]; exact hlt))
          have hy3 := Pf.inB_yes hy2
          obtain ⟨hx, h0, h1⟩ := good_size HOK.out hy1
          have i0 : (0 : Int) ≤ (j : Int) := by omega
          have i1 : (j : Int) < (n' : Int) := by omega
          have hsO := outL_size HOK.out (by rw [HN.out]; exact hn12) HLN.out j (by rw [HL.out]; exact hj)
          have hsL := lineX_size (p := pP) (x := (gs.getD (ls.getD j (0, 0)).1.toNat gd0).1) (z := (ls.getD j (0, 0)).2) (by decide) hx (by omega) (by omega)
          have HO' : Hid (outL gs ls j ++ lineX pP (gs.getD (ls.getD j (0, 0)).1.toNat gd0).1 (ls.getD j (0, 0)).2 = outL gs ls (j + 1)) := hide rfl
          have sa := addB (outL gs ls j) (lineX pP (gs.getD (ls.getD j (0, 0)).1.toNat gd0).1 (ls.getD j (0, 0)).2) (by omega)
          rw [HO'.out] at sa
          obtain ⟨A1, A2, Z, A3, t1', t2, t3, t4, HC⟩ := line_facts pP (gs.getD (ls.getD j (0, 0)).1.toNat gd0).1 (ls.getD j (0, 0)).2 (by decide) hx (by omega) (by omega)
          have t1 : ∀ w, (Op.stringOp .add ⟨#[112, 105, 99, 107, 32]⟩ (gs.getD (ls.getD j (0, 0)).1.toNat gd0).1).run Tryd.prog w = .ok (.string A1) w := t1'
          rw [HN.out] at hy1
          clear HO' hsO hsL t1'
          obtain ⟨i, hi⟩ : ∃ i : Nat, i = (ls.getD j (0, 0)).1.toNat := ⟨_, rfl⟩
          have hie : (ls.getD j (0, 0)).1 = (i : Int) := by omega
          rw [← hi] at sa t1 t4 hy1 hx
          rw [hie] at s0
          clear hi hie hy0 hy2 h0 h1
          have j0 : (0 : Int) ≤ (i : Int) := by omega
          have j1 : (i : Int) < (k : Int) := by omega
          generalize lineX pP (gs.getD i gd0).1 (ls.getD j (0, 0)).2 = L at *
          generalize hO' : outL gs ls (j + 1) = O' at *
          have HO' := hide hO'.symm
          clear hO'
          generalize outL gs ls j = O at *
          generalize (ls.getD j (0, 0)).2 = z at *
          have bn := below_new wr (.cells #[.int .i64 i, .int .i64 z] 50)
          have PG := hide (PBox.new wr (.int .i64 i) (.int .i64 z) 50)
          have HBn := hide (HBl.out.trans (bn.mono HBl.out.size))
          clear bn
          obtain ⟨W, hW⟩ : ∃ W, W = wr.alloc (.cells #[.int .i64 i, .int .i64 z] 50) := ⟨_, rfl⟩
          rw [← hW] at PG HBn
          have HW := hide hW.symm
          clear hW
          obtain ⟨b, off, rfl, hb, r0, _⟩ := (HAW.out _ HBn.out).at (i := i) (by rw [HN.out]; exact hy1)
          generalize (gs.getD i gd0).1 = x at *
          go_upto_region 10 with fail
          rw [HW.out]
          obtain ⟨p0, p1, hVl⟩ := PB1.out.below HBn.out
          obtain ⟨q0, q1, hDl⟩ := PG.out
          clear s0 s1
          generalize wr.heap.size = D at *
          have hd := HBn.out.drew
          go_region_held3 (fun w' => w'.cell? ⟨w.heap.size, 0, none⟩ = some (.slice (some ⟨b, off, none⟩) k c) ∧ w'.cell? ⟨D, 0, none⟩ = some (.int .i64 i) ∧ w'.cell? ⟨D, 1, none⟩ = some (.int .i64 z) ∧ w'.cell? ⟨b, off + i * 2, none⟩ = some (.string x))
            (first | exact ⟨p0, q0, q1, r0⟩ | assumption | fail)
            (first
            | (go_at_call 35; refine (HC.out _).mono ?_; rintro e w2 ⟨rfl, hb2⟩; have HB2 := hide (hd.trans (hb2.mono hd.size)); have hS2 := (⟨(hb2.cell (p := ⟨w.heap.size, 0, none⟩) hVl).trans p0, (hb2.cell (p := ⟨D, 0, none⟩) hDl).trans q0, (hb2.cell (p := ⟨D, 1, none⟩) hDl).trans q1, (hb2.cell (p := ⟨b, off + i * 2, none⟩) hb).trans r0⟩ : _ ∧ _ ∧ _ ∧ _))
            | fail)
          all_goals go_wp2_with fail
          all_goals exact ⟨⟨j + 1, by rw [HO'.out], by go_num, by omega, HB2⟩, by simp only [intOf]; omega⟩
        · have hin : j = n' := by omega
          subst hin
          go_wp2_with fail
          go_ret
          exact ⟨rfl, HB1.out.trans (HBl.out.mono HB1.out.size)⟩
end Go.Proofs.YtogkbidphdpjaaaDoor
