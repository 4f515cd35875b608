/-
  What l1Num and l1Text of the model answer: the decimal digits of a number.
-/
import Derived.Test.YtdmdhmcnedmnbaaDoorD
import Derived.Lib.ItoaNum
import Derived.Lib.ItoaLen
import Derived.Laws.Concat
import Derived.Laws.IdiomStrings
import Derived.Deep.RegionWith
namespace Go.Proofs.YtdmdhmcnedmnbaaDoor
open Go.RowKit

theorem below_alloc' (w : World) (o : Obj) : Below w.heap.size w (w.alloc o) := (Below.refl _ _).alloc (Nat.le_refl _) o
theorem num_len {x : UInt8} (u : Nat) (h : u ≤ 1000000000) : (⟨(Lib.decDigits u).toArray⟩ : ByteArray).size + (⟨#[x]⟩ : ByteArray).size ≤ 9223372036854775807 := by
  have := Lib.itoa_length_le (u : Int) (by omega) (by omega)
  rw [Lib.itoa_nonneg] at this
  show (Lib.decDigits u).toArray.size + 1 ≤ _
  simp; omega
def dgt (d : Int) : UInt8 := UInt8.ofNat (48 + d.toNat)
theorem bytes_app (a b : List UInt8) : (⟨a.toArray⟩ : ByteArray) ++ (⟨b.toArray⟩ : ByteArray) = ⟨(a ++ b).toArray⟩ := by
  apply ByteArray.ext
  simp [ByteArray.data_append]
theorem num_app (n : Int) (h : 10 ≤ n) : (⟨(Lib.decDigits (n / 10).toNat).toArray⟩ : ByteArray) ++ (⟨#[dgt (n % 10)]⟩ : ByteArray) = ⟨(Lib.decDigits n.toNat).toArray⟩ := by
  have e : Lib.decDigits n.toNat = Lib.decDigits (n / 10).toNat ++ [dgt (n % 10)] := by
    rw [Lib.decDigits, dif_neg (by omega)]
    unfold dgt
    rw [show (n / 10).toNat = n.toNat / 10 by omega, show (n % 10).toNat = n.toNat % 10 by omega]
  rw [e]
  exact bytes_app (Lib.decDigits (n / 10).toNat) [dgt (n % 10)]
theorem text_app (n : Int) (h : n < 0) : (⟨#[45]⟩ : ByteArray) ++ (⟨(Lib.itoa (-n)).toArray⟩ : ByteArray) = ⟨(Lib.itoa n).toArray⟩ := by
  have e : Lib.itoa n = [45] ++ Lib.itoa (-n) := by
    unfold Lib.itoa
    rw [if_pos h, if_neg (by omega)]
    rw [show n.natAbs = (-n).toNat by omega]; rfl
  rw [e]
  exact bytes_app [45] (Lib.itoa (-n))
theorem text_len (n : Int) (h0 : -1000000000 ≤ n) (h : n < 0) : (⟨#[45]⟩ : ByteArray).size + (⟨(Lib.itoa (-n)).toArray⟩ : ByteArray).size ≤ 9223372036854775807 := by
  have := Lib.itoa_length_le (-n) (by omega) (by omega)
  show 1 + (Lib.itoa (-n)).toArray.size ≤ _
  simp; omega
theorem dgt_toNat (d : Int) (h0 : 0 ≤ d) (h1 : d < 10) : ((dgt d).toNat : Int) = 48 + d := by
  unfold dgt
  have : (UInt8.ofNat (48 + d.toNat)).toNat = (48 + d.toNat) % 256 := rfl
  omega
theorem conv_byte (d : Int) (h0 : 0 ≤ d) (h1 : d < 10) (W : World) (b : Nat) (hc : W.cell? ⟨b, 0, none⟩ = some (.int .u8 (48 + d))) :
    (convert 22 9 (.slice (some ⟨b, 0, none⟩) 1 1)).run Tryd.prog W = .ok (.string ⟨#[dgt d]⟩) W := by
  refine run_convert_bytes_back (P := Tryd.prog) W 22 9 5 ⟨b, 0, none⟩ 1 [dgt d] Tryd.underlying22 Tryd.underlying5 Tryd.underlying9 ?_
  intro j hj
  have hj0 : j = 0 := by simp at hj; omega
  subst hj0
  have e := dgt_toNat d h0 h1
  simp only [List.getElem_cons_zero]
  rw [e]
  simpa [Addr.add] using hc

set_option maxHeartbeats 400000 in
theorem num_small (n : Int) (w : World) (h0 : 0 ≤ n) (h1 : n < 10) :
    Calls Tryd.prog 37 #[.int .i64 n] w fun e w' => e = .returned (.string ⟨(Lib.decDigits n.toNat).toArray⟩) ∧ Below w.heap.size w w' := by
  have HD := hide (show Lib.decDigits n.toNat = [dgt n] from Lib.decDigits_one (i := n.toNat) (by omega))
  have kc := conv_byte n h0 h1
  go_enter Tryd.func37, Tryd.ntmps37
  go_wp2_with fail
  go_ret
  exact ⟨by rw [HD.out]; rfl, (Below.refl _ _).alloc (Nat.le_refl _) _⟩

set_option maxHeartbeats 400000 in
theorem num_step (n : Int) (w : World) (h0 : 10 ≤ n) (h1 : n ≤ 1000000000)
    (HI : Hid (∀ w, Calls Tryd.prog 37 #[.int .i64 (n / 10)] w fun e w' => e = .returned (.string ⟨(Lib.decDigits (n / 10).toNat).toArray⟩) ∧ Below w.heap.size w w')) :
    Calls Tryd.prog 37 #[.int .i64 n] w fun e w' => e = .returned (.string ⟨(Lib.decDigits n.toNat).toArray⟩) ∧ Below w.heap.size w w' := by
  have kc := conv_byte (n % 10) (by omega) (by omega)
  have h2 : ¬ n < 10 := by omega
  have e1 : IntKind.i64.wrap (n.tdiv 10) = n / 10 := by rw [IntKind.wrap_i64, Int.tdiv_eq_ediv_of_nonneg (by omega)]; omega
  have e2 : n.tmod 10 = n % 10 := Int.tmod_eq_emod_of_nonneg (by omega)
  have e3 : IntKind.i64.wrap (48 + n % 10) = 48 + n % 10 := by rw [IntKind.wrap_i64]; omega
  have e4 : IntKind.u8.wrap (48 + n % 10) = 48 + n % 10 := by simp [IntKind.wrap, IntKind.bits, IntKind.signed]; omega
  have hlen := num_len (x := dgt (n % 10)) (n / 10).toNat (by omega)
  have sa : ∀ w, (Op.stringOp .add ⟨(Lib.decDigits (n / 10).toNat).toArray⟩ ⟨#[dgt (n % 10)]⟩).run Tryd.prog w = .ok (.string ⟨(Lib.decDigits n.toNat).toArray⟩) w := fun w => by
    rw [run_string_add_sum (P := Tryd.prog) (w := w) _ _ hlen, num_app n h0]
  have hm0 : 0 ≤ n % 10 := by omega
  have hm1 : n % 10 < 10 := by omega
  go_enter Tryd.func37, Tryd.ntmps37
  go_wp2_with fail
  go_region_with (first
    | (go_at_call 37; refine (HI.out _).mono ?_; rintro e w1 ⟨rfl, hb⟩; obtain ⟨hc, hf⟩ := bcell hb))
  all_goals
    go_wp2_with fail
    go_ret
    refine ⟨rfl, ?_⟩
    first
      | exact (((Below.refl w.heap.size w).drew).trans hb).alloc hb.size _
      | exact (((Below.refl w.heap.size w).alloc (Nat.le_refl _) _).drew).trans (hb.mono (by simp))

theorem num_any (k : Nat) : ∀ (n : Int) (w : World), 0 ≤ n → n ≤ k → n ≤ 1000000000 →
    Calls Tryd.prog 37 #[.int .i64 n] w fun e w' => e = .returned (.string ⟨(Lib.decDigits n.toNat).toArray⟩) ∧ Below w.heap.size w w' := by
  induction k with
  | zero => intro n w h0 h1 _; exact num_small n w h0 (by omega)
  | succ k ih =>
    intro n w h0 h1 h2
    by_cases h : n < 10
    · exact num_small n w h0 h
    · exact num_step n w (by omega) h2 (hide fun w => ih (n / 10) w (by omega) (by omega) (by omega))

theorem num_all (n : Int) (w : World) (h0 : 0 ≤ n) (h1 : n ≤ 1000000000) :
    Calls Tryd.prog 37 #[.int .i64 n] w fun e w' => e = .returned (.string ⟨(Lib.itoa n).toArray⟩) ∧ Below w.heap.size w w' := by
  have := num_any n.toNat n w h0 (by omega) h1
  rwa [show Lib.decDigits n.toNat = Lib.itoa n by unfold Lib.itoa; rw [if_neg (by omega)]] at this

set_option maxHeartbeats 400000 in
theorem text_neg (n : Int) (w : World) (h0 : -1000000000 ≤ n) (h1 : n < 0) :
    Calls Tryd.prog 36 #[.int .i64 n] w fun e w' => e = .returned (.string ⟨(Lib.itoa n).toArray⟩) ∧ Below w.heap.size w w' := by
  have sa : ∀ w, (Op.stringOp .add ⟨#[45]⟩ ⟨(Lib.itoa (-n)).toArray⟩).run Tryd.prog w = .ok (.string ⟨(Lib.itoa n).toArray⟩) w := fun w => by
    rw [run_string_add_sum (P := Tryd.prog) (w := w) _ _ (text_len n h0 h1), text_app n h1]
  go_enter Tryd.func36, Tryd.ntmps36
  go_wp2_with fail
  refine (num_all (-n) _ (by omega) (by omega)).mono ?_
  rintro e w1 ⟨rfl, hb⟩
  go_wp2_with fail
  go_ret
  exact ⟨rfl, hb⟩

set_option maxHeartbeats 400000 in
theorem text_pos (n : Int) (w : World) (h0 : 0 ≤ n) (h1 : n ≤ 1000000000) :
    Calls Tryd.prog 36 #[.int .i64 n] w fun e w' => e = .returned (.string ⟨(Lib.itoa n).toArray⟩) ∧ Below w.heap.size w w' := by
  have h2 : ¬ n < 0 := by omega
  go_enter Tryd.func36, Tryd.ntmps36
  go_wp2_with fail
  refine (num_all n _ h0 h1).mono ?_
  rintro e w1 ⟨rfl, hb⟩
  go_wp2_with fail
  go_ret
  exact ⟨rfl, hb⟩

theorem text_all (n : Int) (w : World) (h0 : -1000000000 ≤ n) (h1 : n ≤ 1000000000) :
    Calls Tryd.prog 36 #[.int .i64 n] w fun e w' => e = .returned (.string ⟨(Lib.itoa n).toArray⟩) ∧ Below w.heap.size w w' := by
  by_cases h : n < 0
  · exact text_neg n w h0 h
  · exact text_pos n w (by omega) h1
end Go.Proofs.YtdmdhmcnedmnbaaDoor
