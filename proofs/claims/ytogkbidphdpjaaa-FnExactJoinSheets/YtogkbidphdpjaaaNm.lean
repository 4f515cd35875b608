/-
  Marks of the laws in goods and lines: what markText, markGoodS and markLineS answer.
-/
import Derived.Test.YtogkbidphdpjaaaNl
import Derived.Laws.Concat
import Derived.Laws.IdiomStrings
namespace Go.Proofs.Ytogkbidphdpjaaa
open Go.RowKit

def dgtM (d : Int) : UInt8 := UInt8.ofNat (48 + d.toNat)
theorem dgtM_toNat (d : Int) (h0 : 0 ≤ d) (h1 : d < 10) : ((dgtM d).toNat : Int) = 48 + d := by
  unfold dgtM
  have : (UInt8.ofNat (48 + d.toNat)).toNat = (48 + d.toNat) % 256 := rfl
  omega
theorem convM (d : Int) (h0 : 0 ≤ d) (h1 : d < 10) (W : World) (b : Nat) (hc : W.cell? ⟨b, 0, none⟩ = some (.int .u8 (48 + d))) :
    (convert 91 9 (.slice (some ⟨b, 0, none⟩) 1 1)).run Try.prog W = .ok (.string ⟨#[dgtM d]⟩) W := by
  refine run_convert_bytes_back (P := Try.prog) W 91 9 5 ⟨b, 0, none⟩ 1 [dgtM d] Try.underlying91 Try.underlying5 Try.underlying9 ?_
  intro j hj
  have hj0 : j = 0 := by simp at hj; omega
  subst hj0
  have e := dgtM_toNat d h0 h1
  simp only [List.getElem_cons_zero]
  rw [e]
  simpa [Addr.add] using hc
theorem size_app1 (x : UInt8) (u : ByteArray) : ((⟨#[x]⟩ : ByteArray) ++ u).size = 1 + u.size := by
  rw [ByteArray.size_append]; rfl
set_option maxHeartbeats 1000000 in
theorem markText_any (k : Int) (w : World) (h0 : 0 < k) (h1 : k ≤ 1000000000) :
    Calls Try.prog 58 #[.int .i64 k] w fun e w' => (∃ s, e = .returned (.string s)) ∧ Below w.heap.size w w' := by
  have hk : ¬ k ≤ 0 := by omega
  go_enter Try.func58, Try.ntmps58
  go_wp2_with fail
  go_loopw [0, 3] (fun s t wr => ∃ (m : Int) (u : ByteArray), s = .int .i64 m ∧ t = .string u ∧ 0 ≤ m ∧ m ≤ k ∧ Hid ((u.size : Int) ≤ k - m) ∧ Below w.heap.size w wr ∧ w.heap.size ≤ wr.heap.size) (fun s _ _ => (intOf s).toNat)
  case atStart => exact ⟨k, _, rfl, rfl, by omega, by omega, hide (by show (0 : Int) ≤ k - k; omega), Below.refl _ _, Nat.le_refl _⟩
  case round =>
    obtain ⟨m, u, rfl, rfl, m0, m1, HU, hB, hz⟩ := hrel
    have hU := HU.out
    by_cases hlt : 0 < m
    · have kc := convM (m % 10) (by omega) (by omega)
      have e1 : m.tdiv 10 = m / 10 := Int.tdiv_eq_ediv_of_nonneg (by omega)
      have e1' : IntKind.i64.wrap (m / 10) = m / 10 := by rw [IntKind.wrap_i64]; omega
      have e1'' : wrap64 (m / 10) = m / 10 := wrap_id' _ (by omega) (by omega)
      have e2 : m.tmod 10 = m % 10 := Int.tmod_eq_emod_of_nonneg (by omega)
      have e3 : IntKind.i64.wrap (48 + m % 10) = 48 + m % 10 := by rw [IntKind.wrap_i64]; omega
      have e3' : wrap64 (48 + m % 10) = 48 + m % 10 := wrap_id' _ (by omega) (by omega)
      have e4 : IntKind.u8.wrap (48 + m % 10) = 48 + m % 10 := by simp [IntKind.wrap, IntKind.bits, IntKind.signed]; omega
      have hm0 : 0 ≤ m % 10 := by omega
      have hm1 : m % 10 < 10 := by omega
      have hlen : (⟨#[dgtM (m % 10)]⟩ : ByteArray).size + u.size ≤ 9223372036854775807 := by
        show 1 + u.size ≤ _
        omega
      have sa : ∀ w, (Op.stringOp .add ⟨#[dgtM (m % 10)]⟩ u).run Try.prog w = .ok (.string (⟨#[dgtM (m % 10)]⟩ ++ u)) w := fun w => run_string_add_sum (P := Try.prog) (w := w) _ _ hlen
      have HS := hide (size_app1 (dgtM (m % 10)) u)
      clear hlen hU
      go_wp2_with fail
      have hs := HS.out
      have hu := HU.out
      refine ⟨⟨m / 10, _, rfl, rfl, by omega, by omega, hide (by rw [hs]; omega), hB.alloc hz _, by simp; omega⟩, by simp only [intOf]; omega⟩
    · have hme : m = 0 := by omega
      subst hme
      have hlen : (⟨#[109]⟩ : ByteArray).size + u.size ≤ 9223372036854775807 := by
        show 1 + u.size ≤ _
        omega
      have sa : ∀ w, (Op.stringOp .add ⟨#[109]⟩ u).run Try.prog w = .ok (.string (⟨#[109]⟩ ++ u)) w := fun w => run_string_add_sum (P := Try.prog) (w := w) _ _ hlen
      go_wp2_with fail
      go_ret
      exact ⟨⟨_, rfl⟩, hB⟩
set_option maxHeartbeats 1000000 in
theorem markL_any (B n : Nat) (k : Int) (w : World) (hn : n ≤ 1048576) (k0 : 0 < k) (k1 : k ≤ 900000000) (hl : Loose w B (n * 2)) :
    Calls Try.prog 40 #[.slice (some ⟨B, 0, none⟩) n n, .int .i64 k] w fun e w' => e = .returned (.int .i64 (k + n * 2)) ∧ w.grownBy w' (some B) := by
  have HL := hide hl
  clear hl
  go_enter Try.func40, Try.ntmps40
  go_wp2_with fail
  go_loopw [1, 5] (fun s t wr => ∃ (i : Nat), t = .int .i64 i ∧ s = .int .i64 (k + i * 2) ∧ i ≤ n ∧ Hid (Loose wr B (n * 2)) ∧ w.grownBy wr (some B)) (fun _ t _ => n - (intOf t).toNat)
  case atStart => exact ⟨0, rfl, by simp, Nat.zero_le _, HL, World.grownBy.refl _ _⟩
  case round =>
    obtain ⟨i, rfl, rfl, hi, HJ, hg⟩ := hrel
    by_cases hlt : i < n
    · have i0 : (0 : Int) ≤ (i : Int) := by omega
      have i1 : (i : Int) < (n : Int) := by omega
      obtain ⟨q0, f0⟩ := HJ.out (i * 2) (by omega)
      obtain ⟨q1, f1⟩ := HJ.out (i * 2 + 1) (by omega)
      obtain ⟨v0, c0⟩ := Option.isSome_iff_exists.1 q0
      obtain ⟨v1, c1⟩ := Option.isSome_iff_exists.1 q1
      clear q0 q1
      go_wp2_with fail
      refine ⟨⟨i + 1, by go_num, by go_num, by omega, ?_, ?_⟩, by simp only [intOf]; omega⟩
      · exact hide (HJ.out.set.set)
      · exact grown_set (grown_set hg)
    · have hin : i = n := by omega
      subst hin
      go_wp2_with fail
      go_ret
      exact ⟨rfl, hg⟩
set_option maxHeartbeats 2000000 in
theorem markG_any (B n : Nat) (k : Int) (w : World) (hn : n ≤ 1048576) (k0 : 0 < k) (k1 : k ≤ 900000000) (hl : Loose w B (n * 2)) :
    Calls Try.prog 39 #[.slice (some ⟨B, 0, none⟩) n n, .int .i64 k] w fun e w' => e = .returned (.int .i64 (k + n * 2)) ∧ w.grownBy w' (some B) := by
  have HL := hide hl
  clear hl
  go_enter Try.func39, Try.ntmps39
  go_wp2_with fail
  go_loopw [1, 5] (fun s t wr => ∃ (i : Nat), t = .int .i64 i ∧ s = .int .i64 (k + i * 2) ∧ i ≤ n ∧ Hid (Loose wr B (n * 2)) ∧ w.grownBy wr (some B)) (fun _ t _ => n - (intOf t).toNat)
  case atStart => exact ⟨0, rfl, by simp, Nat.zero_le _, HL, World.grownBy.refl _ _⟩
  case round =>
    obtain ⟨i, rfl, rfl, hi, HJ, hg⟩ := hrel
    by_cases hlt : i < n
    · have i0 : (0 : Int) ≤ (i : Int) := by omega
      have i1 : (i : Int) < (n : Int) := by omega
      go_wp2_with fail
      refine (markText_any (k + i * 2) _ (by omega) (by omega)).mono ?_
      rintro e w2 ⟨⟨s, rfl⟩, hb2⟩
      have HJ2 := hide (HJ.out.below hb2)
      have hg2 := grown_of hg hb2
      obtain ⟨q0, f0⟩ := HJ2.out (i * 2) (by omega)
      obtain ⟨q1, f1⟩ := HJ2.out (i * 2 + 1) (by omega)
      obtain ⟨v0, c0⟩ := Option.isSome_iff_exists.1 q0
      obtain ⟨v1, c1⟩ := Option.isSome_iff_exists.1 q1
      clear q0 q1
      go_wp2_with fail
      refine ⟨⟨i + 1, by go_num, by go_num, by omega, ?_, ?_⟩, by simp only [intOf]; omega⟩
      · exact hide (HJ2.out.set.set)
      · exact grown_set (grown_set hg2)
    · have hin : i = n := by omega
      subst hin
      go_wp2_with fail
      go_ret
      exact ⟨rfl, hg⟩
end Go.Proofs.Ytogkbidphdpjaaa
