/-
  What areRisingFrom0 answers.
-/
import Derived.Test.YticekgjgknfloaaFr13
namespace Go.Proofs.Yticekgjgknfloaa
open Go.RowKit

theorem ri_z14 {a : Option Addr} {n c q : Nat} {z : Int} {l : List Int} {w : World} {r : Bool} (hz : z = (q : Int)) (hn : Hid (l.length = n)) (hl : n ≤ 1048576) (hq : q ≤ 1000) (h : Hid (ARow w a l)) (hr : Hid (Ma.riseB l q = r)) :
    Calls Try.prog 58 #[.slice a n c, .int .i64 z] w fun e w' => e = .returned (.bool r) ∧ w' = w := hz ▸ ri_eq hn hl hq h hr
set_option maxHeartbeats 1000000 in
theorem rf0_eq {a : Option Addr} {c m q : Nat} {z : Int} {s : List Int} {w : World} {r : Bool} (hz : z = (q : Int)) (HN : Hid (s.length = m)) (hm : m ≤ 1048576) (hq : q ≤ 1000) (H : Hid (ARow w a s)) (hr : Hid ((decide (0 < s.length) && (s.getD 0 0 == 0) && Ma.riseB s q) = r)) :
    Calls Try.prog 48 #[.slice a m c, .int .i64 z] w fun e w' => e = .returned (.bool r) ∧ w' = w := by
  by_cases hm0 : m = 0
  · subst hm0
    have H1 : Hid (r = false) := hide (by rw [← hr.out]; simp [HN.out])
    clear hz
    go_enter Try.func48, Try.ntmps48
    go_wp2_with fail
    go_ret
    exact ⟨ret_bool H1.out.symm, rfl⟩
  · obtain ⟨b, off, rfl, r1⟩ := H.out.at (i := 0) (by rw [HN.out]; omega)
    have m0 : (0 : Int) < (m : Int) := by omega
    have m1 : ¬ ((m : Int) ≤ 0) := by omega
    rw [Nat.add_zero] at r1
    have HR : Hid ((decide (0 < s.length) && (s.getD 0 0 == 0) && Ma.riseB s q) = ((s.getD 0 0 == 0) && Ma.riseB s q)) := hide (by simp [HN.out, show 0 < m by omega])
    generalize s.getD 0 0 = x at *
    by_cases hx : x = 0
    · subst hx
      have H1 : Hid (Ma.riseB s q = r) := hide (by rw [← hr.out, HR.out]; rfl)
      have HZ := hide hz
      clear hz
      go_enter Try.func48, Try.ntmps48
      go_wp2_with fail
      refine (ri_z14 HZ.out HN hm hq H H1).mono ?_
      rintro e w1 ⟨rfl, hw1⟩
      obtain rfl : w = w1 := hw1.symm
      go_wp2_with fail
      go_ret
      exact ⟨rfl, rfl⟩
    · have H1 : Hid (r = false) := hide (by rw [← hr.out, HR.out]; simp [hx])
      have hx' : (x == (0 : Int)) = false := by simpa using hx
      clear hz
      go_enter Try.func48, Try.ntmps48
      go_wp2_with fail
      go_ret
      exact ⟨ret_bool H1.out.symm, rfl⟩
end Go.Proofs.Yticekgjgknfloaa
