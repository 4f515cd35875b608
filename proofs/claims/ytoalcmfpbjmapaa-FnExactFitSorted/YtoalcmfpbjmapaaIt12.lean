/-
  What roomIn and IndexFunc over boxes of the program answer.
-/
import Derived.Test.YtoalcmfpbjmapaaIn12
import Derived.Test.YtoalcmfpbjmapaaIo12
import Derived.BigQuiet
import Derived.Deep.DeepCutAuto
namespace Go.Proofs.Ytoalcmfpbjmapaa
open Go.RowKit

theorem rm_take {b : List (Int × Int)} {k : Nat} (hk : k < b.length) : It.rm (b.take (k + 1)) = It.rm (b.take k) - (b.getD k (0, 0)).2 := by
  have : b.take (k + 1) = b.take k ++ [b.getD k (0, 0)] := by rw [List.take_add_one]; simp [hk]
  rw [this, It.rm_snoc]
theorem rm_bd {b : List (Int × Int)} (h : ∀ x ∈ b, 1 ≤ x.2 ∧ x.2 ≤ 20) : ∀ k, k ≤ b.length → 20 - 20 * (k : Int) ≤ It.rm (b.take k) ∧ It.rm (b.take k) ≤ 20
  | 0, _ => by simp [It.rm_nil]
  | k + 1, hk => by
    have ih := rm_bd h k (by omega)
    have hm : b.getD k (0, 0) ∈ b := by simp [show k < b.length by omega]
    have := h _ hm
    rw [rm_take (by omega)]
    omega
set_option maxHeartbeats 2000000 in
theorem ri_any {a : Option Addr} {n c : Nat} {b : List (Int × Int)} {w : World} (hb : b.length = n) (hn : n ≤ 900) (hsz : ∀ x ∈ b, 1 ≤ x.2 ∧ x.2 ≤ 20) (ha : FRow w a b) :
    Calls Try.prog 50 #[.slice a n c] w fun e w' => e = .returned (.int .i64 (It.rm b)) ∧ Below w.heap.size w w' := by
  have HB := hide hb
  have HA := hide ha
  have HBD := hide (rm_bd hsz)
  have HE : Hid (It.rm (b.take n) = It.rm b) := hide (by rw [← hb, List.take_length])
  have HSZ := hide hsz
  clear hb ha hsz
  go_enter Try.func50, Try.ntmps50
  go_wp2_with fail
  go_loopw [3, 5, 8] (fun s3 _ s8 wr => ∃ (k : Nat) (z : Int), s3 = .int .i64 z ∧ s8 = .int .i64 k ∧ k ≤ n ∧ Hid (z = It.rm (b.take k)) ∧ Hid (Below w.heap.size w wr)) (fun _ _ s8 _ => n - (intOf s8).toNat)
  case atStart => exact ⟨0, 20, rfl, rfl, Nat.zero_le _, hide rfl, hide (Below.refl _ _)⟩
  case round =>
    obtain ⟨k, z, rfl, rfl, hk, HZ, HW⟩ := hrel
    have hzb := HBD.out k (by rw [HB.out]; exact hk)
    rw [← HZ.out] at hzb
    by_cases hlt : k < n
    · obtain ⟨q, o, rfl, hq, r1, r2⟩ := HA.out.at (i := k) (by rw [HB.out]; exact hlt)
      have k1 := (HW.out.cell (p := ⟨q, o + k * 2, none⟩) hq).trans r1
      have k2 := (HW.out.cell (p := ⟨q, o + k * 2 + 1, none⟩) hq).trans r2
      have i0 : (0 : Int) ≤ (k : Int) := by omega
      have i1 : (k : Int) < (n : Int) := by omega
      have HST := hide (rm_take (show k < b.length by rw [HB.out]; exact hlt))
      have hm : b.getD k (0, 0) ∈ b := by simp [show k < b.length by rw [HB.out]; exact hlt]
      have hsz := HSZ.out _ hm
      generalize (b.getD k (0, 0)).1 = x1 at *
      generalize (b.getD k (0, 0)).2 = x2 at *
      have hws : IntKind.i64.wrap (z - x2) = z - x2 := by rw [IntKind.wrap_i64]; omega
      clear r1 r2 hm
      go_wp2_with fail
      go_roundw
      case rel => exact ⟨k + 1, z - x2, by go_num, by go_num, by omega, hide (by rw [HST.out, HZ.out]), hide (by first | exact (HW.out.alloc HW.out.size _) | exact ((HW.out.alloc HW.out.size _).setCell (p := ⟨_, 0, none⟩) (HW.out.size) _))⟩
      case measure => simp only [intOf]; omega
    · have hke : k = n := by omega
      subst hke
      have HF : Hid (z = It.rm b) := hide (HZ.out.trans HE.out)
      go_wp2_with fail
      go_ret
      exact ⟨by rw [← HF.out]; rfl, HW.out⟩
end Go.Proofs.Ytoalcmfpbjmapaa
