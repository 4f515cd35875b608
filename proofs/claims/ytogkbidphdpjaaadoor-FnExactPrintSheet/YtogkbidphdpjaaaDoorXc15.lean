/-
  PrintSheet of the program.
-/
import Derived.Test.YtogkbidphdpjaaaDoorXb15
import Derived.Test.YtogkbidphdpjaaaDoorSa15
namespace Go.Proofs.YtogkbidphdpjaaaDoor
open Go.RowKit

def outG (gs : List Gd) : Nat → ByteArray
  | 0 => ⟨#[]⟩
  | k + 1 => outG gs k ++ lineX gP (gs.getD k gd0).1 (gs.getD k gd0).2
def outL (gs : List Gd) (ls : List (Int × Int)) : Nat → ByteArray
  | 0 => outG gs gs.length
  | k + 1 => outL gs ls k ++ lineX pP (gs.getD (ls.getD k (0, 0)).1.toNat gd0).1 (ls.getD k (0, 0)).2
theorem name_size {s : ByteArray} (h : nameB s = true) : s.size ≤ 8 := by
  simp only [nameB, Bool.and_eq_true] at h
  have := Pf.inB_yes h.1
  omega
theorem good_size {gs : List Gd} (h : AllOK gs) {k : Nat} (hk : k < gs.length) : (gs.getD k gd0).1.size ≤ 8 ∧ 0 ≤ (gs.getD k gd0).2 ∧ (gs.getD k gd0).2 ≤ 100 := by
  obtain ⟨h1, h2, _⟩ := ok_parts h hk
  have := Pf.inB_yes h2
  exact ⟨name_size h1, by omega, by omega⟩
theorem outG_size {gs : List Gd} (h : AllOK gs) : ∀ k, k ≤ gs.length → (outG gs k).size ≤ 40 * k
  | 0, _ => Nat.le_refl _
  | k + 1, hk => by
    have := outG_size h k (by omega)
    obtain ⟨h1, h2, h3⟩ := good_size h (k := k) (by omega)
    have := lineX_size (p := gP) (x := (gs.getD k gd0).1) (z := (gs.getD k gd0).2) (by decide) h1 h2 (by omega)
    rw [outG, ByteArray.size_append]; omega
theorem outL_size {gs : List Gd} {ls : List (Int × Int)} (h : AllOK gs) (h12 : gs.length ≤ 12) (hl : ∀ i, i < ls.length → lineB gs.length (ls.getD i (0, 0)) = true) : ∀ k, k ≤ ls.length → (outL gs ls k).size ≤ 480 + 40 * k
  | 0, _ => by
    have := outG_size h gs.length (Nat.le_refl _)
    rw [outL]; omega
  | k + 1, hk => by
    have := outL_size h h12 hl k (by omega)
    obtain ⟨_, h1, h2⟩ := line_parts (hl k (by omega))
    have := Pf.inB_yes h2
    have := lineX_size (p := pP) (x := (gs.getD (ls.getD k (0, 0)).1.toNat gd0).1) (z := (ls.getD k (0, 0)).2) (by decide) (good_size h h1).1 (by omega) (by omega)
    rw [outL, ByteArray.size_append]; omega
set_option maxHeartbeats 4000000 in
theorem ps_yes {gs : List Gd} {ls : List (Int × Int)} {a a' : Option Addr} {n c n' c' : Nat} {w : World} (HN : Hid (gs.length = n)) (hc : n ≤ c) (HS : Hid (Short gs)) (HA : Hid (GRow w a gs)) (HL : Hid (ls.length = n')) (HA' : Hid (LRow w a' ls)) (hg : Hid (sheetB gs ls = true)) (HT : Hid (Tab w)) (HK : Hid (KTab w)) :
    Calls Tryd.prog 8 #[.agg #[.slice a n c, .slice a' n' c']] w fun e w' => e = .returned (.tuple #[.string (outL gs ls n'), .bool true]) ∧ Below w.heap.size w w' := by
  have hb0 := below_new w (.cells #[.slice a n c, .slice a' n' c'] 32)
  have PB := hide (PBox.new w (.slice a n c) (.slice a' n' c') 32)
  have HB := hide hb0
  have HR := hide (HA.out.below hb0)
  have HR' := hide (HA'.out.below hb0)
  clear hb0
  go_enter Tryd.func8, Tryd.ntmps8
  obtain ⟨p0, p1, _⟩ := PB.out
  go_wp2_with fail
  refine (gsh_hid hg HN hc HS HR HL HR').mono ?_
  rintro e w1 ⟨rfl, hb1⟩
  have PB1 := hide (PB.out.below hb1)
  have HB1 := hide (HB.out.trans (hb1.mono HB.out.size))
  clear hb1 HB PB HR HR' p0 p1
  obtain ⟨hOK, hn12, hn80, hLN⟩ := sheet_parts hg.out
  have HOK := hide hOK
  have HLN := hide hLN
  rw [HN.out] at hn12
  rw [HL.out] at hn80
  have HAW := hide fun (X : World) (hX : Below w1.heap.size w1 X) => HA.out.below (HB1.out.trans (hX.mono HB1.out.size))
  have HAW' := hide fun (X : World) (hX : Below w1.heap.size w1 X) => HA'.out.below (HB1.out.trans (hX.mono HB1.out.size))
  have HTW := hide fun (X : World) (hX : Below w1.heap.size w1 X) => hide (HT.out.below (HB1.out.trans (hX.mono HB1.out.size)))
  have HKW := hide fun (X : World) (hX : Below w1.heap.size w1 X) => hide (HK.out.below (HB1.out.trans (hX.mono HB1.out.size)))
  clear hOK hLN HA HA' HT HK
  obtain ⟨p0, p1, _⟩ := PB1.out
  go_wp2_with fail
  go_loopw [4, 6, 15] (fun s _ t wr => ∃ (k : Nat), s = .string (outG gs k) ∧ t = .int .i64 k ∧ k ≤ n ∧ Hid (Below w1.heap.size w1 wr)) (fun _ _ t _ => n - (intOf t).toNat)
  case atStart => exact ⟨0, rfl, rfl, Nat.zero_le _, hide (Below.refl _ _)⟩
  case round =>
    obtain ⟨k, rfl, rfl, hk, HBl⟩ := hrel
    clear p0 p1
    by_cases hlt : k < n
    · obtain ⟨b, off, rfl, hb, r0, r1⟩ := (HAW.out _ HBl.out).at (i := k) (by rw [HN.out]; exact hlt)
      obtain ⟨hx, h0, h1⟩ := good_size HOK.out (k := k) (by rw [HN.out]; exact hlt)
      have i0 : (0 : Int) ≤ (k : Int) := by omega
      have i1 : (k : Int) < (n : Int) := by omega
      have hsO := outG_size HOK.out k (by rw [HN.out]; exact hk)
      have hsL := lineX_size (p := gP) (x := (gs.getD k gd0).1) (z := (gs.getD k gd0).2) (by decide) hx h0 (by omega)
      have HO' : Hid (outG gs k ++ lineX gP (gs.getD k gd0).1 (gs.getD k gd0).2 = outG gs (k + 1)) := hide rfl
      have sa := addB (outG gs k) (lineX gP (gs.getD k gd0).1 (gs.getD k gd0).2) (by omega)
      rw [HO'.out] at sa
      have HC := hide fun (W : World) hT hK => lt_good (w := W) hx h0 (by omega) hT hK
      have bn := below_new wr (.cells #[.string (gs.getD k gd0).1, .int .i64 (gs.getD k gd0).2] 47)
      have HBn := hide (HBl.out.trans (bn.mono HBl.out.size))
      clear HO' hsO hsL bn
      generalize lineX gP (gs.getD k gd0).1 (gs.getD k gd0).2 = L at *
      generalize hO' : outG gs (k + 1) = O' at *
      have HO' := hide hO'.symm
      clear hO'
      generalize outG gs k = O at *
      generalize (gs.getD k gd0).1 = x at *
      generalize (gs.getD k gd0).2 = z at *
      go_wp2_with fail
      refine (HC.out _ (HTW.out _ HBn.out) (HKW.out _ HBn.out)).mono ?_
      rintro e w2 ⟨rfl, hb2⟩
      have HB2 := hide (HBn.out.trans (hb2.mono HBn.out.size))
      clear hb2 HC
      go_wp2_with fail
      exact ⟨⟨k + 1, by rw [HO'.out], by go_num, by omega, HB2⟩, by simp only [intOf]; omega⟩
    · have hin : k = n := by omega
      subst hin
      obtain ⟨p0, p1, _⟩ := PB1.out.below HBl.out
      go_wp2_with fail
      go_loopw [4, 8, 30] (fun s _ t wr => ∃ (j : Nat), s = .string (outL gs ls j) ∧ t = .int .i64 j ∧ j ≤ n' ∧ Hid (Below w1.heap.size w1 wr)) (fun _ _ t _ => n' - (intOf t).toNat)
      case atStart => exact ⟨0, by rw [outL, HN.out], rfl, Nat.zero_le _, HBl⟩
      case round =>
        clear HBl p0 p1
        obtain ⟨j, rfl, rfl, hj, HBl⟩ := hrel
        by_cases hlt : j < n'
        · obtain ⟨b', off', rfl, hb', s0, s1⟩ := (HAW'.out _ HBl.out).at (i := j) (by rw [HL.out]; exact hlt)
          obtain ⟨hy0, hy1, hy2⟩ := line_parts (HLN.out j (by rw [HL.out]; exact hlt))
          have hy3 := Pf.inB_yes hy2
          obtain ⟨hx, h0, h1⟩ := good_size HOK.out hy1
          have i0 : (0 : Int) ≤ (j : Int) := by omega
          have i1 : (j : Int) < (n' : Int) := by omega
          have hsO := outL_size HOK.out (by rw [HN.out]; exact hn12) HLN.out j (by rw [HL.out]; exact hj)
          have hsL := lineX_size (p := pP) (x := (gs.getD (ls.getD j (0, 0)).1.toNat gd0).1) (z := (ls.getD j (0, 0)).2) (by decide) hx (by omega) (by omega)
          have HO' : Hid (outL gs ls j ++ lineX pP (gs.getD (ls.getD j (0, 0)).1.toNat gd0).1 (ls.getD j (0, 0)).2 = outL gs ls (j + 1)) := hide rfl
          have sa := addB (outL gs ls j) (lineX pP (gs.getD (ls.getD j (0, 0)).1.toNat gd0).1 (ls.getD j (0, 0)).2) (by omega)
          rw [HO'.out] at sa
          have HC := hide fun (W : World) hT hK => lt_pick (w := W) hx (z := (ls.getD j (0, 0)).2) (by omega) (by omega) hT hK
          rw [HN.out] at hy1
          clear HO' hsO hsL
          obtain ⟨i, hi⟩ : ∃ i : Nat, i = (ls.getD j (0, 0)).1.toNat := ⟨_, rfl⟩
          have hie : (ls.getD j (0, 0)).1 = (i : Int) := by omega
          rw [← hi] at sa HC hy1 hx
          rw [hie] at s0
          clear hi hie hy0 hy2 h0 h1
          have j0 : (0 : Int) ≤ (i : Int) := by omega
          have j1 : (i : Int) < (k : Int) := by omega
          generalize lineX pP (gs.getD i gd0).1 (ls.getD j (0, 0)).2 = L at *
          generalize hO' : outL gs ls (j + 1) = O' at *
          have HO' := hide hO'.symm
          clear hO'
          generalize outL gs ls j = O at *
          generalize (ls.getD j (0, 0)).2 = z at *
          have bn := below_new wr (.cells #[.int .i64 i, .int .i64 z] 50)
          have PG := hide (PBox.new wr (.int .i64 i) (.int .i64 z) 50)
          have HBn := hide (HBl.out.trans (bn.mono HBl.out.size))
          clear bn
          obtain ⟨W, hW⟩ : ∃ W, W = wr.alloc (.cells #[.int .i64 i, .int .i64 z] 50) := ⟨_, rfl⟩
          rw [← hW] at PG HBn
          have HW := hide hW.symm
          clear hW
          obtain ⟨b, off, rfl, hb, r0, _⟩ := (HAW.out _ HBn.out).at (i := i) (by rw [HN.out]; exact hy1)
          generalize (gs.getD i gd0).1 = x at *
          go_upto_region 12 with fail
          rw [HW.out]
          obtain ⟨p0, p1, _⟩ := PB1.out.below HBn.out
          obtain ⟨q0, q1, _⟩ := PG.out
          have hVl := (PB1.out.below HBn.out).2.2
          have hDl := PG.out.2.2
          generalize wr.heap.size = D at *
          have hd := HBn.out.drew
          go_region_held3 (fun w' => w'.cell? ⟨w.heap.size, 0, none⟩ = some (.slice (some ⟨b, off, none⟩) k c) ∧ w'.cell? ⟨D, 0, none⟩ = some (.int .i64 i) ∧ w'.cell? ⟨D, 1, none⟩ = some (.int .i64 z) ∧ w'.cell? ⟨b, off + i * 2, none⟩ = some (.string x))
            (first | exact ⟨p0, q0, q1, r0⟩ | assumption | fail)
            (first
            | (go_at_call 21; refine (HC.out _ (HTW.out _ hd) (HKW.out _ hd)).mono ?_; rintro e w2 ⟨rfl, hb2⟩; have HB2 := hide (hd.trans (hb2.mono hd.size)); have hS2 := (⟨(hb2.cell (p := ⟨w.heap.size, 0, none⟩) hVl).trans p0, (hb2.cell (p := ⟨D, 0, none⟩) hDl).trans q0, (hb2.cell (p := ⟨D, 1, none⟩) hDl).trans q1, (hb2.cell (p := ⟨b, off + i * 2, none⟩) hb).trans r0⟩ : _ ∧ _ ∧ _ ∧ _))
            | fail)
          go_wp2_with fail
          exact ⟨⟨j + 1, by rw [HO'.out], by go_num, by omega, HB2⟩, by simp only [intOf]; omega⟩
        · have hin : j = n' := by omega
          subst hin
          go_wp2_with fail
          go_ret2
          exact ⟨rfl, HB1.out.trans (HBl.out.mono HB1.out.size)⟩
end Go.Proofs.YtogkbidphdpjaaaDoor
