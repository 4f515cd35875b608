/-
  What isSide and CutWidth of the program and CutWidth of the model answer.
-/
import Derived.Test.YtlbfnlikjnopoaaFb13
import Derived.Test.YtlbfnlikjnopoaaRf14
namespace Go.Proofs.Ytlbfnlikjnopoaa
namespace Nt
open Bx (sumTo)
/-- What goes from a hall to the first so many halls that are not of the side. -/
def cut1 (c : List (List Int)) (s : List Int) (a k : Nat) : Int := sumTo (fun b => if s.contains (b : Int) then 0 else at2 c a b) k
def cutTo (c : List (List Int)) (s : List Int) (j : Nat) : Int := sumTo (fun i => cut1 c s (s.getD i 0).toNat c.length) j
def cwI (c : List (List Int)) (s : List Int) : Int := if sideB c s then cutTo c s s.length else 0
/-- A side, of so many halls. -/
def sB (s : List Int) (n : Nat) : Bool := decide (0 < s.length) && (s.getD 0 0 == 0) && Ma.riseB s (n - 1)
theorem sideB_eq (c : List (List Int)) (s : List Int) : sideB c s = (netB c && sB s c.length) := rfl
theorem sB_at {s : List Int} {n i : Nat} (h : sB s n = true) (hi : i < s.length) : 0 ≤ s.getD i 0 ∧ s.getD i 0 + 1 < n := by
  simp only [sB, Bool.and_eq_true] at h
  have h1 : ∀ j, j < s.length → Ma.riseAt s (n - 1) j = true := fun j hj => List.all_eq_true.1 h.2 j (by simpa using hj)
  have h2 := Ma.least_nn (k := i) fun j hj => h1 j (by omega)
  have h3 := Pf.inB_yes (h1 i hi)
  omega
theorem sB_len {s : List Int} {n : Nat} (h : sB s n = true) : s.length ≤ n - 1 := by
  simp only [sB, Bool.and_eq_true] at h
  exact Ma.riseB_len h.2
theorem cut1_bd {c : List (List Int)} {s : List Int} {a k : Nat} (h : rowsB c = true) (ha : a < c.length) (hk : k ≤ c.length) : 0 ≤ cut1 c s a k ∧ cut1 c s a k ≤ 50 * k := by
  have := sumTo_bd (f := fun b => if s.contains (b : Int) then 0 else at2 c a b) (lo := 0) (hi := 50) k fun i hi => by
    have := rowsB_bd h ha (k := i) (by omega)
    show 0 ≤ (if s.contains (i : Int) then 0 else at2 c a i) ∧ (if s.contains (i : Int) then 0 else at2 c a i) ≤ 50
    split <;> omega
  rw [Int.zero_mul] at this
  exact this
theorem cutTo_bd {c : List (List Int)} {s : List Int} {j : Nat} (h : rowsB c = true) (hs : sB s c.length = true) (hj : j ≤ s.length) : 0 ≤ cutTo c s j ∧ cutTo c s j ≤ 400 * j := by
  have := sumTo_bd (f := fun i => cut1 c s (s.getD i 0).toNat c.length) (lo := 0) (hi := 400) j fun i hi => by
    have h1 := sB_at hs (i := i) (by omega)
    have h2 := cut1_bd (s := s) h (a := (s.getD i 0).toNat) (k := c.length) (by omega) (Nat.le_refl _)
    have h3 := rowsB_len h
    omega
  rw [Int.zero_mul] at this
  exact this
end Nt
open Go.RowKit
theorem ri_z {a : Option Addr} {n c q : Nat} {z : Int} {l : List Int} {w : World} {r : Bool} (hz : z = (q : Int)) (hn : Hid (l.length = n)) (hl : n ≤ 1048576) (hq : q ≤ 1000) (h : Hid (ARow w a l)) (hr : Hid (Ma.riseB l q = r)) :
    Calls Try.prog 26 #[.slice a n c, .int .i64 z] w fun e w' => e = .returned (.bool r) ∧ w' = w := hz ▸ ri_eq hn hl hq h hr
set_option maxHeartbeats 1000000 in
theorem is_eq {a : Option Addr} {n c m : Nat} {s : List Int} {w : World} {r : Bool} (HN : Hid (s.length = m)) (hm : m ≤ 1048576) (h2 : 2 ≤ n) (h8 : n ≤ 8) (H : Hid (ARow w a s)) (hr : Hid (Nt.sB s n = r)) :
    Calls Try.prog 16 #[.slice a m c, .int .i64 (n : Int)] w fun e w' => e = .returned (.bool r) ∧ w' = w := by
  have hz : (n : Int) - 1 = ((n - 1 : Nat) : Int) := by omega
  have HC := hide (rf0_eq (c := c) hz HN hm (by omega) H hr)
  clear hz
  go_enter Try.func16, Try.ntmps16
  go_wp2_with fail
  refine HC.out.mono ?_
  rintro e w1 ⟨rfl, hw1⟩
  obtain rfl : w = w1 := hw1.symm
  go_wp2_with fail
  go_ret
  exact ⟨rfl, rfl⟩
set_option maxHeartbeats 2000000 in
theorem cw_no {a a' : Option Addr} {n c m d : Nat} {C : List (List Int)} {s : List Int} {w : World} (HN : Hid (C.length = n)) (HM : Hid (s.length = m)) (hm : m ≤ 1048576) (H : Hid (CRow w a C)) (H' : Hid (ARow w a' s)) (hr : Nt.sideB C s = false) :
    Calls Try.prog 8 #[.slice a n c, .slice a' m d] w fun e w' => e = .returned (.tuple #[.int .i64 0, .bool false]) ∧ w' = w := by
  cases hg : Nt.netB C
  · have HG := hide hg
    go_enter Try.func8, Try.ntmps8
    go_wp2_with fail
    refine (gn_eq HN H HG).mono ?_
    rintro e w1 ⟨rfl, hw1⟩
    obtain rfl : w = w1 := hw1.symm
    go_wp2_with fail
    go_ret2
    exact ⟨rfl, rfl⟩
  · have HG := hide hg
    have HS : Hid (Nt.sB s n = false) := hide (by rw [Nt.sideB_eq, hg, HN.out] at hr; exact hr)
    have h8 := Nt.rowsB_len (Nt.netB_rows hg)
    rw [HN.out] at h8
    obtain ⟨h2, h8⟩ := h8
    go_enter Try.func8, Try.ntmps8
    go_wp2_with fail
    refine (gn_eq HN H HG).mono ?_
    rintro e w1 ⟨rfl, hw1⟩
    obtain rfl : w = w1 := hw1.symm
    go_wp2_with fail
    refine (is_eq HM hm h2 h8 H' HS).mono ?_
    rintro e w1 ⟨rfl, hw1⟩
    obtain rfl : w = w1 := hw1.symm
    go_wp2_with fail
    go_ret2
    exact ⟨rfl, rfl⟩
set_option maxHeartbeats 2000000 in
theorem cw_yes {a a' : Option Addr} {n c m d : Nat} {C : List (List Int)} {s : List Int} {w : World} (HN : Hid (C.length = n)) (HM : Hid (s.length = m)) (hm : m ≤ 1048576) (H : Hid (CRow w a C)) (H' : Hid (ARow w a' s)) (hr : Nt.sideB C s = true) :
    Calls Try.prog 8 #[.slice a n c, .slice a' m d] w fun e w' => e = .returned (.tuple #[.int .i64 (Nt.cwI C s), .bool true]) ∧ w' = w := by
  have hE : Nt.cwI C s = Nt.cutTo C s m := by rw [Nt.cwI, if_pos hr, HM.out]
  rw [hE]
  rw [Nt.sideB_eq, Bool.and_eq_true, HN.out] at hr
  have HG := hide hr.1
  have HS := hide hr.2
  have HRW := hide (Nt.netB_rows hr.1)
  have h8 := Nt.rowsB_len (Nt.netB_rows hr.1)
  rw [HN.out] at h8
  obtain ⟨h2, h8⟩ := h8
  have hml := Nt.sB_len hr.2
  rw [HM.out] at hml
  clear hr hE
  go_enter Try.func8, Try.ntmps8
  go_wp2_with fail
  refine (gn_eq HN H HG).mono ?_
  rintro e w1 ⟨rfl, hw1⟩
  obtain rfl : w = w1 := hw1.symm
  go_wp2_with fail
  refine (is_eq HM hm h2 h8 H' HS).mono ?_
  rintro e w1 ⟨rfl, hw1⟩
  obtain rfl : w = w1 := hw1.symm
  go_wp2_with fail
  go_loop [6, 8, 9, 10, 23] (fun s6 _ _ _ sk => ∃ (i : Nat) (x : Int), s6 = .int .i64 x ∧ sk = .int .i64 i ∧ i ≤ m ∧ Hid (x = Nt.cutTo C s i)) (fun _ _ _ _ sk => m - (intOf sk).toNat)
  case atStart => exact ⟨0, 0, rfl, rfl, Nat.zero_le _, hide rfl⟩
  case round =>
    obtain ⟨i, x, rfl, rfl, hi, HX⟩ := hrel
    by_cases hlt : i < m
    · have hat := Nt.sB_at HS.out (i := i) (by rw [HM.out]; exact hlt)
      obtain ⟨b', off', rfl, r1⟩ := H'.out.at (i := i) (by rw [HM.out]; exact hlt)
      have hbd := Nt.cutTo_bd (j := i) HRW.out (by rw [HN.out]; exact HS.out) (by rw [HM.out]; omega)
      have HNX : Hid (Nt.cutTo C s (i + 1) = Nt.cutTo C s i + Nt.cut1 C s (s.getD i 0).toNat n) := hide (by rw [← HN.out]; rfl)
      rw [← HX.out] at hbd HNX
      obtain ⟨p, hp⟩ : ∃ p : Nat, s.getD i 0 = (p : Int) := ⟨(s.getD i 0).toNat, by omega⟩
      rw [hp] at r1 hat HNX
      rw [Int.toNat_natCast] at HNX
      have hpn : p < n := by omega
      have i0 : (0 : Int) ≤ (i : Int) := by omega
      have i1 : (i : Int) < (m : Int) := by omega
      have p0 : (0 : Int) ≤ (p : Int) := by omega
      have p1 : (p : Int) < (n : Int) := by omega
      obtain ⟨b, off, ai, ci, rfl, hb, r2, R2⟩ := H.out.at (i := p) (by rw [HN.out]; exact hpn)
      rw [Nt.rowsB_row HRW.out (i := p) (by rw [HN.out]; exact hpn), HN.out] at r2
      have HR2 := hide R2
      have x0 : 0 ≤ x := hbd.1
      have x1 : x ≤ 4000 := by omega
      clear hbd hat hp R2
      go_wp2_with fail
      go_loop [6, 9, 10, 32] (fun s6 _ _ sk => ∃ (k : Nat) (y : Int), s6 = .int .i64 y ∧ sk = .int .i64 k ∧ k ≤ n ∧ Hid (y = x + Nt.cut1 C s p k)) (fun _ _ _ sk => n - (intOf sk).toNat)
      case atStart => exact ⟨0, x, rfl, rfl, Nat.zero_le _, hide (by simp [Nt.cut1, Bx.sumTo])⟩
      case round =>
        obtain ⟨k, y, rfl, rfl, hk, HY⟩ := hrel
        by_cases hkn : k < n
        · obtain ⟨b1, off1, e1, r3⟩ := HR2.out.at (i := k) (by rw [Nt.rowsB_row HRW.out (i := p) (by rw [HN.out]; exact hpn), HN.out]; exact hkn)
          cases e1
          have k0 : (0 : Int) ≤ (k : Int) := by omega
          have k1 : (k : Int) < (n : Int) := by omega
          have hb1 := Nt.cut1_bd (s := s) (a := p) (k := k) HRW.out (by rw [HN.out]; exact hpn) (by rw [HN.out]; omega)
          have hb2 := Nt.rowsB_bd HRW.out (i := p) (k := k) (by rw [HN.out]; exact hpn) (by rw [HN.out]; exact hkn)
          have y0 : 0 ≤ y := by have := HY.out; omega
          have y1 : y ≤ 5000 := by have := HY.out; omega
          have HNY : Hid (Nt.cut1 C s p (k + 1) = Nt.cut1 C s p k + if s.contains (k : Int) then 0 else Nt.at2 C p k) := hide rfl
          have r4 : w.cell? ⟨b1, off1 + k, none⟩ = some (.int .i64 (Nt.at2 C p k)) := r3
          obtain ⟨z0, z1⟩ := hb2
          generalize Nt.at2 C p k = z at *
          clear r3 hb1
          cases hc : s.contains (k : Int)
          · have HC := hide hc
            have H1 : Hid (y + z = x + Nt.cut1 C s p (k + 1)) := hide (by rw [HNY.out, hc, HY.out]; simp; omega)
            go_wp2_with fail
            refine (con_eq HM hm H' HC).mono ?_
            rintro e w1 ⟨rfl, hw1⟩
            obtain rfl : w = w1 := hw1.symm
            go_wp2_with fail
            go_round
            case rel => exact ⟨k + 1, y + z, by go_num, by go_num, by omega, H1⟩
            case measure => simp only [intOf]; omega
          · have HC := hide hc
            have H1 : Hid (y = x + Nt.cut1 C s p (k + 1)) := hide (by rw [HNY.out, hc, HY.out]; simp)
            go_wp2_with fail
            refine (con_eq HM hm H' HC).mono ?_
            rintro e w1 ⟨rfl, hw1⟩
            obtain rfl : w = w1 := hw1.symm
            go_wp2_with fail
            go_round
            case rel => exact ⟨k + 1, y, rfl, by go_num, by omega, H1⟩
            case measure => simp only [intOf]; omega
        · have hke : k = n := by omega
          subst hke
          have H1 : Hid (y = Nt.cutTo C s (i + 1)) := hide (by rw [HNX.out]; exact HY.out)
          go_wp2_with fail
          go_round
          case rel => exact ⟨i + 1, y, rfl, by go_num, by omega, H1⟩
          case measure => simp only [intOf]; omega
    · have hke : i = m := by omega
      subst hke
      have hx := HX.out
      subst hx
      go_wp2_with fail
      go_ret2
      exact ⟨rfl, rfl⟩
theorem cw_any {a a' : Option Addr} {n c m d : Nat} {C : List (List Int)} {s : List Int} {w : World} (hn : C.length = n) (hm : s.length = m) (hl : m ≤ 1048576) (h : CRow w a C) (h' : ARow w a' s) :
    Calls Try.prog 8 #[.slice a n c, .slice a' m d] w fun e w' => e = .returned (.tuple #[.int .i64 (Nt.cwI C s), .bool (Nt.sideB C s)]) ∧ w' = w := by
  cases hr : Nt.sideB C s
  · rw [show Nt.cwI C s = 0 by simp [Nt.cwI, hr]]
    exact cw_no (hide hn) (hide hm) hl (hide h) (hide h') hr
  · exact cw_yes (hide hn) (hide hm) hl (hide h) (hide h') hr
theorem sri_z {a : Option Addr} {n c q : Nat} {z : Int} {l : List Int} {w : World} {r : Bool} (hz : z = (q : Int)) (hn : Hid (l.length = n)) (hl : n ≤ 1048576) (h : Hid (ARow w a l)) (hr : Hid (Ma.riseB l q = r)) :
    Calls Try.prog 13 #[.slice a n c, .int .i64 z] w fun e w' => e = .returned (.bool r) ∧ w' = w := hz ▸ sri_eq hn hl h hr
set_option maxHeartbeats 2000000 in
theorem scw_no {a a' : Option Addr} {n c m d : Nat} {C : List (List Int)} {s : List Int} {w : World} (HN : Hid (C.length = n)) (hn : n ≤ 1048576) (HM : Hid (s.length = m)) (hm : m ≤ 1048576) (H : Hid (CRow w a C)) (H' : Hid (ARow w a' s)) (hr : Nt.sideB C s = false) :
    Calls Try.prog 5 #[.slice a n c, .slice a' m d] w fun e w' => e = .returned (.tuple #[.int .i64 0, .bool false]) ∧ w' = w := by
  cases hg : Nt.netB C
  · have HG := hide hg
    go_enter Try.func5, Try.ntmps5
    go_wp2_with fail
    refine (sgn_eq HN hn H HG).mono ?_
    rintro e w1 ⟨rfl, hw1⟩
    obtain rfl : w = w1 := hw1.symm
    go_wp2_with fail
    go_ret2
    exact ⟨rfl, rfl⟩
  · have HG := hide hg
    have HS : Hid (Nt.sB s n = false) := hide (by rw [Nt.sideB_eq, hg, HN.out] at hr; exact hr)
    have h8 := Nt.rowsB_len (Nt.netB_rows hg)
    rw [HN.out] at h8
    obtain ⟨h2, h8⟩ := h8
    cases hri : Ma.riseB s (n - 1)
    · have HRI := hide hri
      go_enter Try.func5, Try.ntmps5
      go_wp2_with fail
      refine (sgn_eq HN hn H HG).mono ?_
      rintro e w1 ⟨rfl, hw1⟩
      obtain rfl : w = w1 := hw1.symm
      go_wp2_with fail
      refine (sri_z (q := n - 1) (by omega) HM hm H' HRI).mono ?_
      rintro e w1 ⟨rfl, hw1⟩
      obtain rfl : w = w1 := hw1.symm
      go_wp2_with fail
      go_ret2
      exact ⟨rfl, rfl⟩
    · have HRI := hide hri
      by_cases hm0 : m = 0
      · subst hm0
        go_enter Try.func5, Try.ntmps5
        go_wp2_with fail
        refine (sgn_eq HN hn H HG).mono ?_
        rintro e w1 ⟨rfl, hw1⟩
        obtain rfl : w = w1 := hw1.symm
        go_wp2_with fail
        refine (sri_z (q := n - 1) (by omega) HM hm H' HRI).mono ?_
        rintro e w1 ⟨rfl, hw1⟩
        obtain rfl : w = w1 := hw1.symm
        go_wp2_with fail
        go_ret2
        exact ⟨rfl, rfl⟩
      · obtain ⟨b, off, rfl, r1⟩ := H'.out.at (i := 0) (by rw [HM.out]; omega)
        have m0 : (0 : Int) < (m : Int) := by omega
        have m1 : ((m : Int) == (0 : Int)) = false := by simp; omega
        rw [Nat.add_zero] at r1
        have HX : Hid ((s.getD 0 0 == 0) = false) := hide (by
          have := HS.out
          simp only [Nt.sB, HM.out, hri, Bool.and_true] at this
          simpa [show 0 < m by omega] using this)
        generalize s.getD 0 0 = x at *
        have hx : (x != (0 : Int)) = true := by have := HX.out; simp at this; simpa using this
        go_enter Try.func5, Try.ntmps5
        go_wp2_with fail
        refine (sgn_eq HN hn H HG).mono ?_
        rintro e w1 ⟨rfl, hw1⟩
        obtain rfl : w = w1 := hw1.symm
        go_wp2_with fail
        refine (sri_z (q := n - 1) (by omega) HM hm H' HRI).mono ?_
        rintro e w1 ⟨rfl, hw1⟩
        obtain rfl : w = w1 := hw1.symm
        go_wp2_with fail
        go_ret2
        exact ⟨rfl, rfl⟩
set_option maxHeartbeats 2000000 in
theorem scw_yes {a a' : Option Addr} {n c m d : Nat} {C : List (List Int)} {s : List Int} {w : World} (HN : Hid (C.length = n)) (hn : n ≤ 1048576) (HM : Hid (s.length = m)) (hm : m ≤ 1048576) (H : Hid (CRow w a C)) (H' : Hid (ARow w a' s)) (hr : Nt.sideB C s = true) :
    Calls Try.prog 5 #[.slice a n c, .slice a' m d] w fun e w' => e = .returned (.tuple #[.int .i64 (Nt.cwI C s), .bool true]) ∧ w' = w := by
  have hE : Nt.cwI C s = Nt.cutTo C s m := by rw [Nt.cwI, if_pos hr, HM.out]
  rw [hE]
  rw [Nt.sideB_eq, Bool.and_eq_true, HN.out] at hr
  have HG := hide hr.1
  have HS := hide hr.2
  have HRW := hide (Nt.netB_rows hr.1)
  have h8 := Nt.rowsB_len (Nt.netB_rows hr.1)
  rw [HN.out] at h8
  obtain ⟨h2, h8⟩ := h8
  have hml := Nt.sB_len hr.2
  rw [HM.out] at hml
  have hsb := hr.2
  simp only [Nt.sB, Bool.and_eq_true, decide_eq_true_eq, HM.out, beq_iff_eq] at hsb
  obtain ⟨⟨hm0, hs0⟩, hri⟩ := hsb
  have HRI := hide hri
  have HBIG := hide hm
  obtain ⟨b', off', rfl, r0⟩ := H'.out.at (i := 0) (by rw [HM.out]; exact hm0)
  rw [hs0, Nat.add_zero] at r0
  have m0 : (0 : Int) < (m : Int) := by omega
  have m1 : ((m : Int) == (0 : Int)) = false := by simp; omega
  clear hr hE hri hs0
  go_enter Try.func5, Try.ntmps5
  go_wp2_with fail
  refine (sgn_eq HN hn H HG).mono ?_
  rintro e w1 ⟨rfl, hw1⟩
  obtain rfl : w = w1 := hw1.symm
  go_wp2_with fail
  refine (sri_z (q := n - 1) (by omega) HM hm H' HRI).mono ?_
  rintro e w1 ⟨rfl, hw1⟩
  obtain rfl : w = w1 := hw1.symm
  go_wp2_with fail
  go_loop [6, 8, 9, 34] (fun s6 _ _ sk => ∃ (i : Nat) (x : Int), s6 = .int .i64 x ∧ sk = .int .i64 i ∧ i ≤ m ∧ Hid (x = Nt.cutTo C s i)) (fun _ _ _ sk => m - (intOf sk).toNat)
  case atStart => exact ⟨0, 0, rfl, rfl, Nat.zero_le _, hide rfl⟩
  case round =>
    obtain ⟨i, x, rfl, rfl, hi, HX⟩ := hrel
    by_cases hlt : i < m
    · have hat := Nt.sB_at HS.out (i := i) (by rw [HM.out]; exact hlt)
      obtain ⟨b2, off2, e2, r1⟩ := H'.out.at (i := i) (by rw [HM.out]; exact hlt)
      cases e2
      have hbd := Nt.cutTo_bd (j := i) HRW.out (by rw [HN.out]; exact HS.out) (by rw [HM.out]; omega)
      have HNX : Hid (Nt.cutTo C s (i + 1) = Nt.cutTo C s i + Nt.cut1 C s (s.getD i 0).toNat n) := hide (by rw [← HN.out]; rfl)
      rw [← HX.out] at hbd HNX
      obtain ⟨p, hp⟩ : ∃ p : Nat, s.getD i 0 = (p : Int) := ⟨(s.getD i 0).toNat, by omega⟩
      rw [hp] at r1 hat HNX
      rw [Int.toNat_natCast] at HNX
      have hpn : p < n := by omega
      have i0 : (0 : Int) ≤ (i : Int) := by omega
      have i1 : (i : Int) < (m : Int) := by omega
      have p0 : (0 : Int) ≤ (p : Int) := by omega
      have p1 : (p : Int) < (n : Int) := by omega
      have x0 : 0 ≤ x := hbd.1
      have x1 : x ≤ 4000 := by omega
      clear hbd hat hp
      go_wp2_with fail
      go_loop [6, 9, 40] (fun s6 _ sk => ∃ (k : Nat) (y : Int), s6 = .int .i64 y ∧ sk = .int .i64 k ∧ k ≤ n ∧ Hid (y = x + Nt.cut1 C s p k)) (fun _ _ sk => n - (intOf sk).toNat)
      case atStart => exact ⟨0, x, rfl, rfl, Nat.zero_le _, hide (by simp [Nt.cut1, Bx.sumTo])⟩
      case round =>
        obtain ⟨k, y, rfl, rfl, hk, HY⟩ := hrel
        by_cases hkn : k < n
        · obtain ⟨b1, off1, b3, off3, ci, rfl, r3, r4⟩ := crow_at2 H.out HN.out HRW.out hpn hkn
          have k0 : (0 : Int) ≤ (k : Int) := by omega
          have k1 : (k : Int) < (n : Int) := by omega
          have hb1 := Nt.cut1_bd (s := s) (a := p) (k := k) HRW.out (by rw [HN.out]; exact hpn) (by rw [HN.out]; omega)
          have hb2 := Nt.rowsB_bd HRW.out (i := p) (k := k) (by rw [HN.out]; exact hpn) (by rw [HN.out]; exact hkn)
          have y0 : 0 ≤ y := by have := HY.out; omega
          have y1 : y ≤ 5000 := by have := HY.out; omega
          have HNY : Hid (Nt.cut1 C s p (k + 1) = Nt.cut1 C s p k + if s.contains (k : Int) then 0 else Nt.at2 C p k) := hide rfl
          obtain ⟨z0, z1⟩ := hb2
          generalize Nt.at2 C p k = z at *
          clear hb1
          cases hc : s.contains (k : Int)
          · have HC := hide hc
            have H1 : Hid (y + z = x + Nt.cut1 C s p (k + 1)) := hide (by rw [HNY.out, hc, HY.out]; simp; omega)
            go_wp2_with fail
            refine (has7_eq HM (by omega) H' HC).mono ?_
            rintro e w1 ⟨rfl, hw1⟩
            obtain rfl : w = w1 := hw1.symm
            go_wp2_with fail
            go_round
            case rel => exact ⟨k + 1, y + z, by go_num, by go_num, by omega, H1⟩
            case measure => simp only [intOf]; omega
          · have HC := hide hc
            have H1 : Hid (y = x + Nt.cut1 C s p (k + 1)) := hide (by rw [HNY.out, hc, HY.out]; simp)
            go_wp2_with fail
            refine (has7_eq HM (by omega) H' HC).mono ?_
            rintro e w1 ⟨rfl, hw1⟩
            obtain rfl : w = w1 := hw1.symm
            go_wp2_with fail
            go_round
            case rel => exact ⟨k + 1, y, rfl, by go_num, by omega, H1⟩
            case measure => simp only [intOf]; omega
        · have hke : k = n := by omega
          subst hke
          have H1 : Hid (y = Nt.cutTo C s (i + 1)) := hide (by rw [HNX.out]; exact HY.out)
          go_wp2_with fail
          go_round
          case rel => exact ⟨i + 1, y, rfl, by go_num, by omega, H1⟩
          case measure => simp only [intOf]; omega
    · have hke : i = m := by omega
      subst hke
      have hx := HX.out
      subst hx
      go_wp2_with fail
      go_ret2
      exact ⟨rfl, rfl⟩
theorem scw_any {a a' : Option Addr} {n c m d : Nat} {C : List (List Int)} {s : List Int} {w : World} (hn : C.length = n) (hl : n ≤ 1048576) (hm : s.length = m) (hlm : m ≤ 1048576) (h : CRow w a C) (h' : ARow w a' s) :
    Calls Try.prog 5 #[.slice a n c, .slice a' m d] w fun e w' => e = .returned (.tuple #[.int .i64 (Nt.cwI C s), .bool (Nt.sideB C s)]) ∧ w' = w := by
  cases hr : Nt.sideB C s
  · rw [show Nt.cwI C s = 0 by simp [Nt.cwI, hr]]
    exact scw_no (hide hn) hl (hide hm) hlm (hide h) (hide h') hr
  · exact scw_yes (hide hn) hl (hide hm) hlm (hide h) (hide h') hr
end Go.Proofs.Ytlbfnlikjnopoaa
