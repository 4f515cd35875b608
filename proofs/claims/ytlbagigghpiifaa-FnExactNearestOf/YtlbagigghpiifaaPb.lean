/-
  What GoodProfile and l3Sum of the model answer, over lists of whole numbers in memory.
-/
import Derived.Test.YtlbagigghpiifaaPa
namespace Go.Proofs.Ytlbagigghpiifaa
open Go.RowKit

set_option maxHeartbeats 1000000 in
theorem sisum_any {a : Option Addr} {c : Nat} {xs : List Int} {w : World} (h : ARow w a xs) (hl : xs.length ≤ 1000) (hb : Pf.allB xs (-10000000) 10000000 = true) :
    Calls Try.prog 61 #[.slice a xs.length c] w fun e w' => e = .returned (.int .i64 xs.sum) ∧ w' = w := by
  have H := hide h
  have HB := hide hb
  clear h hb
  go_enter Try.func61, Try.ntmps61
  go_wp2_with fail
  go_loop [3, 5, 8] (fun s3 _ s => ∃ (k : Nat) (n : Int), s3 = .int .i64 n ∧ s = .int .i64 k ∧ k ≤ xs.length ∧ Hid (n = (xs.take k).sum) ∧ -10000000000 ≤ n ∧ n ≤ 10000000000) (fun _ _ s => xs.length - (intOf s).toNat)
  case atStart => exact ⟨0, 0, rfl, rfl, Nat.zero_le _, hide (by simp), by omega, by omega⟩
  case round =>
    obtain ⟨k, n, rfl, rfl, hk, HN, hn0, hn1⟩ := hrel
    by_cases hlt : k < xs.length
    · obtain ⟨b, off, rfl, r1⟩ := H.out.at hlt
      have i0 : (0 : Int) ≤ (k : Int) := by omega
      have i1 : (k : Int) < (xs.length : Int) := by omega
      have hs := Pf.take_sum_succ xs k hlt
      have hx := Pf.inB_yes (Pf.allB_get HB.out hlt)
      have ht := Pf.sum_bd (Pf.allB_take HB.out (k + 1))
      rw [show (xs.take (k + 1)).length = k + 1 by simp; omega] at ht
      rw [hs, ← HN.out] at ht
      rw [← HN.out] at hs
      have HS := hide hs
      generalize xs.getD k 0 = x at *
      clear hs
      obtain ⟨hx0, hx1⟩ := hx
      have ht0 : -10000000000 ≤ n + x := by omega
      have ht1 : n + x ≤ 10000000000 := by omega
      clear ht
      go_wp2_with fail
      go_round
      case rel => exact ⟨k + 1, n + x, by go_num, by go_num, by omega, hide HS.out.symm, by omega, by omega⟩
      case measure => simp only [intOf]; omega
    · have hke : k = xs.length := by omega
      subst hke
      have HE := HN.out
      rw [List.take_length] at HE
      have HE' := hide HE
      clear HE
      go_wp2_with fail
      go_ret
      exact ⟨ret_int HE'.out, rfl⟩
end Go.Proofs.Ytlbagigghpiifaa
