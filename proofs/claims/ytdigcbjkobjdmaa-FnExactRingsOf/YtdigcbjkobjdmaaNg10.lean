/-
  RingsOf and MovesNeeded of both, in one word.
-/
import Derived.Test.YtdigcbjkobjdmaaNf10
namespace Go.Proofs.Ytdigcbjkobjdmaa
open Go.RowKit

/-- What is answered: how many are elsewhere and how many rings there are, or nothing. -/
def Ans (xs ws : List Int) (A R : Int) : Prop := (Mx.sameB xs ws = true ∧ ∃ a r : Nat, A = a ∧ R = r ∧ AR xs.length xs.length xs ws a r) ∨ (Mx.sameB xs ws = false ∧ A = 0 ∧ R = 0)
theorem ans_some (xs ws : List Int) : ∃ A R, Ans xs ws A R := by
  cases h : Mx.sameB xs ws
  · exact ⟨0, 0, Or.inr ⟨h, rfl, rfl⟩⟩
  · obtain ⟨a, ha⟩ := Mv.Is.some xs.length (Mv.Away (Mx.fn xs) (Mx.fn ws))
    obtain ⟨r, hr⟩ := Mv.Is.some xs.length (Mv.Lead (Mv.nxt xs.length (Mx.fn xs) (Mx.fn ws)))
    exact ⟨a, r, Or.inl ⟨h, a, r, rfl, rfl, ha, hr⟩⟩
theorem ans_bd {xs ws : List Int} {A R : Int} (h : Ans xs ws A R) : 0 ≤ A ∧ A ≤ 9 ∧ 0 ≤ R ∧ R ≤ 9 := by
  rcases h with ⟨hs, a, r, rfl, rfl, h1, h2⟩ | ⟨_, rfl, rfl⟩
  · have hn := (Mx.good_len (Mx.same_good hs).1).2
    have := h1.le
    have := h2.le
    omega
  · omega
theorem ar_one {k n : Nat} {xs ws : List Int} {a r a' r' : Nat} (h : AR k n xs ws a r) (h' : AR k n xs ws a' r') : a = a' ∧ r = r' := ⟨h.1.one h'.1, h.2.one h'.2⟩
theorem ro_w {a b : Option Addr} {n m c d : Nat} {xs ws : List Int} {A R : Int} {w : World} (hx : xs.length = n) (hy : ws.length = m) (hc : n ≤ c) (hd : m ≤ d) (hans : Ans xs ws A R) (ha : ARow w a xs) (hb : ARow w b ws) :
    Calls Try.prog 30 #[.slice a n c, .slice b m d] w fun e w' => e = .returned (.tuple #[.int .i64 A, .int .i64 R, .bool (Mx.sameB xs ws)]) ∧ Below w.heap.size w w' := by
  rcases hans with ⟨hs, A0, R0, rfl, rfl, hAR⟩ | ⟨hs, rfl, rfl⟩
  · obtain ⟨e2, h2⟩ := Mx.same_two hs hx
    obtain rfl : n = m := by omega
    have hn := (Mx.good_len (Mx.same_good hs).1).2
    rw [hs]
    refine (ro_yes (hide hx) (hide hy) (by omega) hc hd (hide ha) (hide hb) (hide hs) (hide h2)).mono ?_
    rintro e w' ⟨A1, R1, rfl, h1, hw⟩
    rw [hx] at hAR
    obtain ⟨rfl, rfl⟩ := ar_one hAR h1
    exact ⟨rfl, hw⟩
  · rw [hs]
    exact ro_no (hide hx) (hide hy) hc hd (hide ha) (hide hb) (hide hs)
set_option maxHeartbeats 400000 in
theorem sro_w {a b : Option Addr} {n m c d : Nat} {xs ws : List Int} {A R : Int} {w : World} (hx : xs.length = n) (hy : ws.length = m) (hc : n ≤ c) (hd : m ≤ d) (hans : Ans xs ws A R) (ha : ARow w a xs) (hb : ARow w b ws) :
    Calls Try.prog 29 #[.slice a n c, .slice b m d] w fun e w' => e = .returned (.tuple #[.int .i64 A, .int .i64 R, .bool (Mx.sameB xs ws)]) ∧ Below w.heap.size w w' := by
  rcases hans with ⟨hs, A0, R0, rfl, rfl, hAR⟩ | ⟨hs, rfl, rfl⟩
  · obtain ⟨e2, h2⟩ := Mx.same_two hs hx
    obtain rfl : n = m := by omega
    have hn := (Mx.good_len (Mx.same_good hs).1).2
    rw [hs]
    rw [hx] at hAR hn
    have HL := hide (lb_eq (c := c) (d := d) (hide hx) (hide hy) hc hd (hide ha) (hide hb) (hide hs))
    have HR := hide (lr_any (c := c) (d := d) hn (hide hx) (hide hy) (hide ha) (hide hb) (hide h2))
    have HAR := hide hAR
    clear hs h2 hAR ha hb
    go_enter Try.func29, Try.ntmps29
    go_wp2_with fail
    refine HL.out.mono ?_
    rintro e w1 ⟨rfl, hw1⟩
    subst hw1
    go_wp2_with fail
    refine HR.out.mono ?_
    rintro e w2 ⟨A1, R1, rfl, h1, hw⟩
    obtain ⟨rfl, rfl⟩ := ar_one HAR.out h1
    have HW := hide hw
    clear hw h1
    go_wp2_with fail
    exact bodyPost_ret (v := .tuple #[.int .i64 A0, .int .i64 R0, .bool true]) (by simp [results, Try.results29, go_sem, *]) rfl ⟨rfl, HW.out⟩
  · rw [hs]
    have HL := hide (lb_eq (c := c) (d := d) (hide hx) (hide hy) hc hd (hide ha) (hide hb) (hide hs))
    clear hs ha hb
    go_enter Try.func29, Try.ntmps29
    go_wp2_with fail
    refine HL.out.mono ?_
    rintro e w1 ⟨rfl, hw1⟩
    subst hw1
    go_wp2_with fail
    exact bodyPost_ret (v := .tuple #[.int .i64 0, .int .i64 0, .bool false]) (by simp [results, Try.results29, go_sem, *]) rfl ⟨rfl, Below.refl _ _⟩
set_option maxHeartbeats 400000 in
theorem mn_w {a b : Option Addr} {n m c d : Nat} {xs ws : List Int} {A R : Int} {w : World} (hx : xs.length = n) (hy : ws.length = m) (hc : n ≤ c) (hd : m ≤ d) (hans : Ans xs ws A R) (ha : ARow w a xs) (hb : ARow w b ws) :
    Calls Try.prog 28 #[.slice a n c, .slice b m d] w fun e w' => e = .returned (.tuple #[.int .i64 (A + R), .bool (Mx.sameB xs ws)]) ∧ Below w.heap.size w w' := by
  have HR := hide (ro_w (c := c) (d := d) hx hy hc hd hans ha hb)
  obtain ⟨g0, g1, g2, g3⟩ := ans_bd hans
  generalize Mx.sameB xs ws = G at *
  clear hans ha hb
  go_enter Try.func28, Try.ntmps28
  go_wp2_with fail
  refine HR.out.mono ?_
  rintro e w1 ⟨rfl, hw⟩
  have HW := hide hw
  clear hw
  go_wp2_with fail
  go_ret2
  exact ⟨by go_num, HW.out⟩
set_option maxHeartbeats 400000 in
theorem smn_w {a b : Option Addr} {n m c d : Nat} {xs ws : List Int} {A R : Int} {w : World} (hx : xs.length = n) (hy : ws.length = m) (hc : n ≤ c) (hd : m ≤ d) (hans : Ans xs ws A R) (ha : ARow w a xs) (hb : ARow w b ws) :
    Calls Try.prog 27 #[.slice a n c, .slice b m d] w fun e w' => e = .returned (.tuple #[.int .i64 (A + R), .bool (Mx.sameB xs ws)]) ∧ Below w.heap.size w w' := by
  obtain ⟨g0, g1, g2, g3⟩ := ans_bd hans
  rcases hans with ⟨hs, A0, R0, rfl, rfl, hAR⟩ | ⟨hs, rfl, rfl⟩
  · obtain ⟨e2, h2⟩ := Mx.same_two hs hx
    obtain rfl : n = m := by omega
    have hn := (Mx.good_len (Mx.same_good hs).1).2
    rw [hs]
    rw [hx] at hAR hn
    have HL := hide (lb_eq (c := c) (d := d) (hide hx) (hide hy) hc hd (hide ha) (hide hb) (hide hs))
    have HR := hide (lr_any (c := c) (d := d) hn (hide hx) (hide hy) (hide ha) (hide hb) (hide h2))
    have HAR := hide hAR
    clear hs h2 hAR ha hb
    go_enter Try.func27, Try.ntmps27
    go_wp2_with fail
    refine HL.out.mono ?_
    rintro e w1 ⟨rfl, hw1⟩
    subst hw1
    go_wp2_with fail
    refine HR.out.mono ?_
    rintro e w2 ⟨A1, R1, rfl, h1, hw⟩
    obtain ⟨rfl, rfl⟩ := ar_one HAR.out h1
    have HW := hide hw
    clear hw h1
    go_wp2_with fail
    go_ret2
    exact ⟨by go_num, HW.out⟩
  · rw [hs]
    have HL := hide (lb_eq (c := c) (d := d) (hide hx) (hide hy) hc hd (hide ha) (hide hb) (hide hs))
    clear hs ha hb
    go_enter Try.func27, Try.ntmps27
    go_wp2_with fail
    refine HL.out.mono ?_
    rintro e w1 ⟨rfl, hw1⟩
    subst hw1
    go_wp2_with fail
    go_ret2
    exact ⟨by go_num, Below.refl _ _⟩
end Go.Proofs.Ytdigcbjkobjdmaa
