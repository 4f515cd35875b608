/-
  Numbers as texts: l1Num of the model, strconv.Itoa of the program; the table of the kinds of lines. (Of template N, what a seat without fractions can bear.)
-/
import Derived.Test.YtogkbidphdpjaaaDoorSc15
import Derived.Test.YtogkbidphdpjaaaDoorUa15
import Derived.Test.YtogkbidphdpjaaaDoorTj15
import Derived.Test.YtogkbidphdpjaaaDoorShelf
import Derived.Lib.ItoaNum
import Derived.Lib.ItoaLen
import Derived.Lib.LaidTab
import Derived.Laws.Concat
import Derived.Laws.IdiomStrings
import Derived.Deep.RegionWith
import Derived.Deep.RegionHeld3
import Derived.WalkSmall
namespace Go.Proofs.YtogkbidphdpjaaaDoor
open Go.RowKit

theorem below_alloc15 (w : World) (o : Obj) : Below w.heap.size w (w.alloc o) := (Below.refl _ _).alloc (Nat.le_refl _) o
theorem num_len {x : UInt8} (u : Nat) (h : u ≤ 1000000000) : (⟨(Lib.decDigits u).toArray⟩ : ByteArray).size + (⟨#[x]⟩ : ByteArray).size ≤ 9223372036854775807 := by
  have := Lib.itoa_length_le (u : Int) (by omega) (by omega)
  rw [Lib.itoa_nonneg] at this
  show (Lib.decDigits u).toArray.size + 1 ≤ _
  simp; omega
def dgt (d : Int) : UInt8 := UInt8.ofNat (48 + d.toNat)
theorem bytes_app (a b : List UInt8) : (⟨a.toArray⟩ : ByteArray) ++ (⟨b.toArray⟩ : ByteArray) = ⟨(a ++ b).toArray⟩ := by
  apply ByteArray.ext
  simp [ByteArray.data_append]
theorem num_app (n : Int) (h : 10 ≤ n) : (⟨(Lib.decDigits (n / 10).toNat).toArray⟩ : ByteArray) ++ (⟨#[dgt (n % 10)]⟩ : ByteArray) = ⟨(Lib.decDigits n.toNat).toArray⟩ := by
  have e : Lib.decDigits n.toNat = Lib.decDigits (n / 10).toNat ++ [dgt (n % 10)] := by
    rw [Lib.decDigits, dif_neg (by omega)]
    unfold dgt
    rw [show (n / 10).toNat = n.toNat / 10 by omega, show (n % 10).toNat = n.toNat % 10 by omega]
  rw [e]
  exact bytes_app (Lib.decDigits (n / 10).toNat) [dgt (n % 10)]
theorem dgt_toNat (d : Int) (h0 : 0 ≤ d) (h1 : d < 10) : ((dgt d).toNat : Int) = 48 + d := by
  unfold dgt
  have : (UInt8.ofNat (48 + d.toNat)).toNat = (48 + d.toNat) % 256 := rfl
  omega
theorem conv_byte (d : Int) (h0 : 0 ≤ d) (h1 : d < 10) (W : World) (b : Nat) (hc : W.cell? ⟨b, 0, none⟩ = some (.int .u8 (48 + d))) :
    (convert 83 9 (.slice (some ⟨b, 0, none⟩) 1 1)).run Tryd.prog W = .ok (.string ⟨#[dgt d]⟩) W := by
  refine run_convert_bytes_back (P := Tryd.prog) W 83 9 5 ⟨b, 0, none⟩ 1 [dgt d] Tryd.underlying83 Tryd.underlying5 Tryd.underlying9 ?_
  intro j hj
  have hj0 : j = 0 := by simp at hj; omega
  subst hj0
  have e := dgt_toNat d h0 h1
  simp only [List.getElem_cons_zero]
  rw [e]
  simpa [Addr.add] using hc

set_option maxHeartbeats 400000 in
theorem num_small (n : Int) (w : World) (h0 : 0 ≤ n) (h1 : n < 10) :
    Calls Tryd.prog 35 #[.int .i64 n] w fun e w' => e = .returned (.string ⟨(Lib.decDigits n.toNat).toArray⟩) ∧ Below w.heap.size w w' := by
  have HD := hide (show Lib.decDigits n.toNat = [dgt n] from Lib.decDigits_one (i := n.toNat) (by omega))
  have kc := conv_byte n h0 h1
  go_enter Tryd.func35, Tryd.ntmps35
  go_wp2_with fail
  go_ret
  exact ⟨by rw [HD.out]; rfl, (Below.refl _ _).alloc (Nat.le_refl _) _⟩

set_option maxHeartbeats 400000 in
theorem num_step (n : Int) (w : World) (h0 : 10 ≤ n) (h1 : n ≤ 1000000000)
    (HI : Hid (∀ w, Calls Tryd.prog 35 #[.int .i64 (n / 10)] w fun e w' => e = .returned (.string ⟨(Lib.decDigits (n / 10).toNat).toArray⟩) ∧ Below w.heap.size w w')) :
    Calls Tryd.prog 35 #[.int .i64 n] w fun e w' => e = .returned (.string ⟨(Lib.decDigits n.toNat).toArray⟩) ∧ Below w.heap.size w w' := by
  have kc := conv_byte (n % 10) (by omega) (by omega)
  have h2 : ¬ n < 10 := by omega
  have e1 : IntKind.i64.wrap (n.tdiv 10) = n / 10 := by rw [IntKind.wrap_i64, Int.tdiv_eq_ediv_of_nonneg (by omega)]; omega
  have e2 : n.tmod 10 = n % 10 := Int.tmod_eq_emod_of_nonneg (by omega)
  have e3 : IntKind.i64.wrap (48 + n % 10) = 48 + n % 10 := by rw [IntKind.wrap_i64]; omega
  have e4 : IntKind.u8.wrap (48 + n % 10) = 48 + n % 10 := by simp [IntKind.wrap, IntKind.bits, IntKind.signed]; omega
  have hlen := num_len (x := dgt (n % 10)) (n / 10).toNat (by omega)
  have sa : ∀ w, (Op.stringOp .add ⟨(Lib.decDigits (n / 10).toNat).toArray⟩ ⟨#[dgt (n % 10)]⟩).run Tryd.prog w = .ok (.string ⟨(Lib.decDigits n.toNat).toArray⟩) w := fun w => by
    rw [run_string_add_sum (P := Tryd.prog) (w := w) _ _ hlen, num_app n h0]
  have hm0 : 0 ≤ n % 10 := by omega
  have hm1 : n % 10 < 10 := by omega
  go_enter Tryd.func35, Tryd.ntmps35
  go_wp2_with fail
  go_region_with (first
    | (go_at_call 35; refine (HI.out _).mono ?_; rintro e w1 ⟨rfl, hb⟩; obtain ⟨hc, hf⟩ := bcell hb))
  all_goals
    go_wp2_with fail
    go_ret
    refine ⟨rfl, ?_⟩
    first
      | exact (((Below.refl w.heap.size w).drew).trans hb).alloc hb.size _
      | exact (((Below.refl w.heap.size w).alloc (Nat.le_refl _) _).drew).trans (hb.mono (by simp))

theorem num_any (k : Nat) : ∀ (n : Int) (w : World), 0 ≤ n → n ≤ k → n ≤ 1000000000 →
    Calls Tryd.prog 35 #[.int .i64 n] w fun e w' => e = .returned (.string ⟨(Lib.decDigits n.toNat).toArray⟩) ∧ Below w.heap.size w w' := by
  induction k with
  | zero => intro n w h0 h1 _; exact num_small n w h0 (by omega)
  | succ k ih =>
    intro n w h0 h1 h2
    by_cases h : n < 10
    · exact num_small n w h0 h
    · exact num_step n w (by omega) h2 (hide fun w => ih (n / 10) w (by omega) (by omega) (by omega))

theorem num_all (n : Int) (w : World) (h0 : 0 ≤ n) (h1 : n ≤ 1000000000) :
    Calls Tryd.prog 35 #[.int .i64 n] w fun e w' => e = .returned (.string ⟨(Lib.itoa n).toArray⟩) ∧ Below w.heap.size w w' := by
  have := num_any n.toNat n w h0 (by omega) h1
  rwa [show Lib.decDigits n.toNat = Lib.itoa n by unfold Lib.itoa; rw [if_neg (by omega)]] at this

abbrev Tab (w : World) : Prop := Lib.TabIs Tryd.prog w "internal/strconv.uint64pow10" .u64 Lib.pow10Tab
theorem some_lt15 {W : World} {b o : Nat} {v : Value} (h : W.cell? ⟨b, o, none⟩ = some v) : b < W.heap.size := by
  apply Nat.lt_of_not_le
  intro hle
  have : W.heap[b]? = none := by simp; omega
  simp [World.cell?, this] at h
theorem tab_g : ∃ g, Tryd.prog.globalNamed "internal/strconv.uint64pow10" = some g :=
  Option.isSome_iff_exists.1 (show (Tryd.prog.globalNamed "internal/strconv.uint64pow10").isSome = true by kernel_rfl)
theorem Tab.below {w w' : World} (h : Tab w) (hb : Below w.heap.size w w') : Tab w' := by
  obtain ⟨g, hg⟩ := tab_g
  have hc := Lib.TabIs.cell h hg 0 (by decide)
  exact var?_below hb hg (some_lt15 hc) h
theorem below_grow (w : World) (k : Nat) (os : Array Obj) : Below w.heap.size w (Sort.grow (w.drewN k) os) :=
  ⟨rfl, rfl, rfl, by show w.heap.size ≤ (w.heap ++ os).size; simp, fun i hi => by show (w.heap ++ os)[i]? = w.heap[i]?; exact Array.getElem?_append_left hi⟩
theorem itoa_any (n : Int) (w : World) (h0 : -1000000000 ≤ n) (h1 : n ≤ 1000000000) (ht : Tab w) :
    Calls Tryd.prog 40 #[.int .i64 n] w fun e w' => e = .returned (.string ⟨(Lib.itoa n).toArray⟩) ∧ Below w.heap.size w w' := by
  refine (Tryd.strconv_Itoa n (by omega) (by omega) w ht).mono ?_
  rintro e w' ⟨rfl, k, os, rfl⟩
  exact ⟨rfl, below_grow _ _ _⟩
end Go.Proofs.YtogkbidphdpjaaaDoor
