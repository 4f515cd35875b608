/-
  What l15Find of the model answers: the number of the first good of a name.
-/
import Derived.Test.YtogkbidphdpjaaaDoorGr
namespace Go.Proofs.YtogkbidphdpjaaaDoor
open Go.RowKit

set_option maxHeartbeats 2000000 in
theorem sfd_any {a : Option Addr} {n c : Nat} {gs : List Gd} {x : ByteArray} {w : World} (hn : gs.length = n) (hn' : n ≤ 1048576) (hc : n ≤ c) (h : GRow w a gs) :
    Calls Tryd.prog 45 #[.slice a n c, .string x] w fun e w' => e = .returned (.int .i64 (fndI gs x)) ∧ Below w.heap.size w w' := by
  have H := hide h
  have HN := hide hn
  clear h hn
  go_enter Tryd.func45, Tryd.ntmps45
  go_wp2_with fail
  go_loopw [5, 6, 9] (fun _ _ s wr => ∃ k : Nat, s = .int .i64 k ∧ k ≤ n ∧ Hid (∀ i, i < k → ((gs.getD i gd0).1.toList == x.toList) = false) ∧ Hid (Below w.heap.size w wr)) (fun _ _ s _ => n - (intOf s).toNat)
  case atStart => exact ⟨0, rfl, Nat.zero_le _, hide fun i hi => absurd hi (Nat.not_lt_zero _), hide (Below.refl _ _)⟩
  case round =>
    obtain ⟨k, rfl, hk, HA, HBl⟩ := hrel
    by_cases hlt : k < n
    · obtain ⟨b, off, rfl, hb, r1, r2⟩ := (H.out.below HBl.out).at (i := k) (by rw [HN.out]; exact hlt)
      have i0 : (0 : Int) ≤ (k : Int) := by omega
      have i1 : (k : Int) < (n : Int) := by omega
      have hklen : k < gs.length := by rw [HN.out]; exact hlt
      have HY := hide (fun he => fndI_at (s := x) hklen he HA.out)
      have HOK : Hid (((gs.getD k gd0).1.toList == x.toList) = false → ∀ i, i < k + 1 → ((gs.getD i gd0).1.toList == x.toList) = false) := hide fun he i hi => by
        by_cases e : i = k
        · subst e; exact he
        · exact HA.out i (by omega)
      generalize (gs.getD k gd0).1 = y at *
      generalize (gs.getD k gd0).2 = z at *
      have hBz := HBl.out.size
      have bn := (Below.refl wr.heap.size wr).alloc (Nat.le_refl _) (.cells #[.string y, .int .i64 z] 47)
      have HBn := hide (HBl.out.trans (bn.mono hBz))
      clear bn hklen HA
      cases he : (y.toList == x.toList)
      · have HK := hide (HOK.out he)
        clear HY HOK
        go_wp2_with fail
        go_round
        case rel => exact ⟨k + 1, by go_num, by omega, HK, HBn⟩
        case measure => simp only [intOf]; omega
      · have HK := hide (HY.out he)
        clear HY HOK
        go_wp2_with fail
        go_ret
        exact ⟨by rw [HK.out]; rfl, HBn.out⟩
    · have hke : k = n := by omega
      have HK := hide (fndI_no (gs := gs) (s := x) fun i hi => HA.out i (by rw [HN.out] at hi; omega))
      clear HA
      subst hke
      go_wp2_with fail
      go_ret
      exact ⟨by rw [HK.out]; rfl, HBl.out⟩
end Go.Proofs.YtogkbidphdpjaaaDoor
