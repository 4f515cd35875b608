/-
  What FracText answers, the program's and the model's; the law's own walk.
-/
import Derived.Test.YtdmdhmcnedmnbaaDoorN
import Derived.Test.YtdmdhmcnedmnbaaDoorShelf
import Derived.Deep.RegionHeld3
import Derived.Lib.LaidTab
import Derived.WalkSmall
namespace Go.Proofs.YtdmdhmcnedmnbaaDoor
open Go.RowKit

abbrev Tab (w : World) : Prop := Lib.TabIs Tryd.prog w "internal/strconv.uint64pow10" .u64 Lib.pow10Tab
theorem some_lt {W : World} {b o : Nat} {v : Value} (h : W.cell? ⟨b, o, none⟩ = some v) : b < W.heap.size := by
  apply Nat.lt_of_not_le
  intro hle
  have : W.heap[b]? = none := by simp; omega
  simp [World.cell?, this] at h
theorem tab_g : ∃ g, Tryd.prog.globalNamed "internal/strconv.uint64pow10" = some g :=
  Option.isSome_iff_exists.1 (show (Tryd.prog.globalNamed "internal/strconv.uint64pow10").isSome = true by kernel_rfl)
theorem Tab.below {w w' : World} (h : Tab w) (hb : Below w.heap.size w w') : Tab w' := by
  obtain ⟨g, hg⟩ := tab_g
  have hc := Lib.TabIs.cell h hg 0 (by decide)
  exact var?_below hb hg (some_lt hc) h
theorem below_grow (w : World) (k : Nat) (os : Array Obj) : Below w.heap.size w (Sort.grow (w.drewN k) os) :=
  ⟨rfl, rfl, rfl, by show w.heap.size ≤ (w.heap ++ os).size; simp, fun i hi => by show (w.heap ++ os)[i]? = w.heap[i]?; exact Array.getElem?_append_left hi⟩
theorem itoa_any (n : Int) (w : World) (h0 : -1000000000 ≤ n) (h1 : n ≤ 1000000000) (ht : Tab w) :
    Calls Tryd.prog 35 #[.int .i64 n] w fun e w' => e = .returned (.string ⟨(Lib.itoa n).toArray⟩) ∧ Below w.heap.size w w' := by
  refine (Tryd.strconv_Itoa n (by omega) (by omega) w ht).mono ?_
  rintro e w' ⟨rfl, k, os, rfl⟩
  exact ⟨rfl, below_grow _ _ _⟩

def ftxt (n d : Int) : List UInt8 := if d = 1 then Lib.itoa n else Lib.itoa n ++ 47 :: Lib.itoa d
theorem add_len (a b : List UInt8) (ha : a.length ≤ 100) (hb : b.length ≤ 100) : (⟨a.toArray⟩ : ByteArray).size + (⟨b.toArray⟩ : ByteArray).size ≤ 9223372036854775807 := by
  show a.toArray.size + b.toArray.size ≤ _
  simp; omega
theorem add_run (a b c : List UInt8) (ha : a.length ≤ 100) (hb : b.length ≤ 100) (hc : a ++ b = c) (w : World) : (Op.stringOp .add ⟨a.toArray⟩ ⟨b.toArray⟩).run Tryd.prog w = .ok (.string ⟨c.toArray⟩) w := by
  rw [run_string_add_sum (P := Tryd.prog) (w := w) _ _ (add_len a b ha hb), bytes_app, hc]

set_option maxHeartbeats 400000 in
theorem ft_no (n d : Int) (w : World) (h : Fr.goodB n d = false) :
    Calls Tryd.prog 19 #[.agg #[.int .i64 n, .int .i64 d]] w fun e w' => e = .returned (.tuple #[.string ⟨#[]⟩, .bool false]) ∧ Below w.heap.size w w' := by
  go_enter Tryd.func19, Tryd.ntmps19
  go_wp2_with (go_at_call 13; refine (good_no h).mono ?_; rintro e w1 ⟨rfl, hb⟩)
  go_ret2
  exact ⟨rfl, ((Below.refl _ _).alloc (Nat.le_refl _) _).trans (hb.mono (by simp))⟩

set_option maxHeartbeats 400000 in
theorem sft_no (n d : Int) (w : World) (h : Fr.goodB n d = false) :
    Calls Tryd.prog 20 #[.agg #[.int .i64 n, .int .i64 d]] w fun e w' => e = .returned (.tuple #[.string ⟨#[]⟩, .bool false]) ∧ Below w.heap.size w w' := by
  go_enter Tryd.func20, Tryd.ntmps20
  go_wp2_with (go_at_call 14; refine (sgood_no h).mono ?_; rintro e w1 ⟨rfl, hb⟩)
  go_ret2
  exact ⟨rfl, ((Below.refl _ _).alloc (Nat.le_refl _) _).trans (hb.mono (by simp))⟩

set_option maxHeartbeats 1000000 in
theorem ft_one (n : Int) (w : World) (h : Fr.goodB n 1 = true) (ht : Tab w) :
    Calls Tryd.prog 19 #[.agg #[.int .i64 n, .int .i64 1]] w fun e w' => e = .returned (.tuple #[.string ⟨(Lib.itoa n).toArray⟩, .bool true]) ∧ Below w.heap.size w w' := by
  obtain ⟨a0, a1, a2, a3⟩ := Fr.good_bd n 1 h
  have H := hide h
  have HT := hide ht
  clear h ht
  go_enter Tryd.func19, Tryd.ntmps19
  go_wp2_with fail
  refine (good_yes H.out).mono ?_
  rintro e w1 ⟨rfl, hb⟩
  obtain ⟨hc, hf⟩ := bcell hb
  have hB : Below w.heap.size w w1 := ((Below.refl _ _).alloc (Nat.le_refl _) _).trans (hb.mono (by simp))
  have hz : w.heap.size < w1.heap.size := by have := hb.size; simp at this; omega
  go_wp2_with fail
  refine (itoa_any n _ a0 a1 (HT.out.below hB)).mono ?_
  rintro e w2 ⟨rfl, hb2⟩
  obtain ⟨hc2, hf2⟩ := bcell hb2
  go_wp2_with fail
  go_ret2
  exact ⟨rfl, hB.trans (hb2.mono hB.size)⟩

set_option maxHeartbeats 1000000 in
theorem ft_two (n d : Int) (w : World) (h : Fr.goodB n d = true) (hd : d ≠ 1) (ht : Tab w) :
    Calls Tryd.prog 19 #[.agg #[.int .i64 n, .int .i64 d]] w fun e w' => e = .returned (.tuple #[.string ⟨(Lib.itoa n ++ 47 :: Lib.itoa d).toArray⟩, .bool true]) ∧ Below w.heap.size w w' := by
  obtain ⟨a0, a1, a2, a3⟩ := Fr.good_bd n d h
  have l1 := Lib.itoa_length_le n (by omega) (by omega)
  have l2 := Lib.itoa_length_le d (by omega) (by omega)
  have s1 : ∀ w, (Op.stringOp .add ⟨#[47]⟩ ⟨(Lib.itoa d).toArray⟩).run Tryd.prog w = .ok (.string ⟨(47 :: Lib.itoa d).toArray⟩) w := add_run [47] (Lib.itoa d) _ (by simp) (by omega) rfl
  have s2 := add_run (Lib.itoa n) (47 :: Lib.itoa d) _ (by omega) (by simp; omega) rfl
  have hne : (d != 1) = true := by simpa using hd
  have H := hide h
  have HT := hide ht
  clear h ht hd
  go_enter Tryd.func19, Tryd.ntmps19
  go_wp2_with fail
  refine (good_yes H.out).mono ?_
  rintro e w1 ⟨rfl, hb⟩
  obtain ⟨hc, hf⟩ := bcell hb
  have hB : Below w.heap.size w w1 := ((Below.refl _ _).alloc (Nat.le_refl _) _).trans (hb.mono (by simp))
  have hz : w.heap.size < w1.heap.size := by have := hb.size; simp at this; omega
  go_wp2_with fail
  refine (itoa_any n _ a0 a1 (HT.out.below hB)).mono ?_
  rintro e w2 ⟨rfl, hb2⟩
  obtain ⟨hc2, hf2⟩ := bcell hb2
  have hB2 : Below w.heap.size w w2 := hB.trans (hb2.mono hB.size)
  go_wp2_with fail
  refine (itoa_any d _ (by omega) a3 (HT.out.below hB2)).mono ?_
  rintro e w3 ⟨rfl, hb3⟩
  go_wp2_with fail
  go_ret2
  exact ⟨rfl, hB2.trans (hb3.mono hB2.size)⟩

set_option maxHeartbeats 1000000 in
theorem sft_one (n : Int) (w : World) (h : Fr.goodB n 1 = true) :
    Calls Tryd.prog 20 #[.agg #[.int .i64 n, .int .i64 1]] w fun e w' => e = .returned (.tuple #[.string ⟨(Lib.itoa n).toArray⟩, .bool true]) ∧ Below w.heap.size w w' := by
  obtain ⟨a0, a1, a2, a3⟩ := Fr.good_bd n 1 h
  have H := hide h
  clear h
  go_enter Tryd.func20, Tryd.ntmps20
  go_wp2_with fail
  refine (sgood_yes H.out).mono ?_
  rintro e w1 ⟨rfl, hb⟩
  obtain ⟨hc, hf⟩ := bcell hb
  have hB : Below w.heap.size w w1 := ((Below.refl _ _).alloc (Nat.le_refl _) _).trans (hb.mono (by simp))
  go_wp2_with fail
  refine (text_all n _ a0 a1).mono ?_
  rintro e w2 ⟨rfl, hb2⟩
  go_wp2_with fail
  go_ret2
  exact ⟨rfl, hB.trans (hb2.mono hB.size)⟩

theorem held1 {w w1 w2 : World} {v0 v1 : Value} {b : Nat}
    (s : w1.cell? ⟨b, 0, none⟩ = some v0 ∧ w1.cell? ⟨b, 1, none⟩ = some v1 ∧ Below w.heap.size w w1 ∧ b < w1.heap.size) (hb : Below w1.heap.size w1 w2) :
    w2.cell? ⟨b, 0, none⟩ = some v0 ∧ w2.cell? ⟨b, 1, none⟩ = some v1 ∧ Below w.heap.size w w2 ∧ b < w2.heap.size := by
  obtain ⟨s0, s1, s2, s3⟩ := s
  obtain ⟨h, _⟩ := bcell hb
  exact ⟨(h _ _ s3).trans s0, (h _ _ s3).trans s1, s2.trans (hb.mono s2.size), Nat.lt_of_lt_of_le s3 hb.size⟩

set_option maxHeartbeats 1000000 in
theorem sft_two (n d : Int) (w : World) (h : Fr.goodB n d = true) (hd : d ≠ 1) :
    Calls Tryd.prog 20 #[.agg #[.int .i64 n, .int .i64 d]] w fun e w' => e = .returned (.tuple #[.string ⟨(Lib.itoa n ++ 47 :: Lib.itoa d).toArray⟩, .bool true]) ∧ Below w.heap.size w w' := by
  obtain ⟨a0, a1, a2, a3⟩ := Fr.good_bd n d h
  have l1 := Lib.itoa_length_le n (by omega) (by omega)
  have l2 := Lib.itoa_length_le d (by omega) (by omega)
  have s1 : ∀ w, (Op.stringOp .add ⟨(Lib.itoa n).toArray⟩ ⟨#[47]⟩).run Tryd.prog w = .ok (.string ⟨(Lib.itoa n ++ [47]).toArray⟩) w := add_run (Lib.itoa n) [47] _ (by omega) (by simp) rfl
  have s2 := add_run (Lib.itoa n ++ [47]) (Lib.itoa d) (Lib.itoa n ++ 47 :: Lib.itoa d) (by simp; omega) (by omega) (by simp)
  generalize Lib.itoa n ++ [47] = mid at s1 s2
  have hne : (d == 1) = false := by simpa using hd
  have H := hide h
  clear h hd
  go_enter Tryd.func20, Tryd.ntmps20
  go_wp2_with fail
  refine (sgood_yes H.out).mono ?_
  rintro e w1 ⟨rfl, hb⟩
  obtain ⟨hc, hf⟩ := bcell hb
  have hB : Below w.heap.size w w1 := ((Below.refl _ _).alloc (Nat.le_refl _) _).trans (hb.mono (by simp))
  have hz : w.heap.size < w1.heap.size := by have := hb.size; simp at this; omega
  have p0 : w1.cell? ⟨w.heap.size, 0, none⟩ = some (.int .i64 n) := (hc _ _ (by simp)).trans (by simp)
  have p1 : w1.cell? ⟨w.heap.size, 1, none⟩ = some (.int .i64 d) := (hc _ _ (by simp)).trans (by simp)
  clear hc hf hb
  go_wp2_with fail
  go_region_held3 (fun w' => w'.cell? ⟨w.heap.size, 0, none⟩ = some (.int .i64 n) ∧ w'.cell? ⟨w.heap.size, 1, none⟩ = some (.int .i64 d) ∧ Below w.heap.size w w' ∧ w.heap.size < w'.heap.size)
    (first | exact ⟨p0, p1, hB.drew, hz⟩ | assumption | exact held1 ‹_› (by assumption))
    (first
    | (go_at_call 36; refine (text_all n _ a0 a1).mono ?_; rintro e w2 ⟨rfl, hb2⟩)
    | (go_at_call 37; refine (num_all d _ (by omega) a3).mono ?_; rintro e w2 ⟨rfl, hb2⟩))
  obtain ⟨_, _, hB2, _⟩ := ‹_ ∧ _ ∧ _ ∧ _›
  go_wp2_with fail
  go_ret2
  exact ⟨rfl, hB2⟩
end Go.Proofs.YtdmdhmcnedmnbaaDoor
