/-
  What sameInts and numberOf of the laws answer.
-/
import Derived.Test.YtphfcephinnkoaaHt
import Derived.Test.YtphfcephinnkoaaMm11
namespace Go.Proofs.Ytphfcephinnkoaa
open Go.RowKit

set_option maxRecDepth 100000 in
set_option maxHeartbeats 400000 in
theorem si10_zero (a b : Option Addr) (c d : Nat) (w : World) :
    Calls Try.prog 14 #[.slice a 0 c, .slice b 0 d] w fun e w' => e = .returned (.bool true) ∧ w' = w := by
  go_enter Try.func14, Try.ntmps14
  go_wp2_with fail
  go_loop [13] (fun s => s = .int .i64 0) (fun s => 0)
  case atStart => rfl
  case round =>
    subst hrel
    go_wp2_with fail
    go_ret
    exact ⟨rfl, rfl⟩
theorem eq_upto {xs ys : List Int} {n : Nat} (hx : xs.length = n) (hy : ys.length = n) (h : ∀ j, j < n → xs.getD j 0 = ys.getD j 0) : xs = ys := by
  refine List.ext_getElem (by omega) fun i hi hi' => ?_
  have := h i (by omega)
  simp only [List.getD_eq_getElem?_getD, List.getElem?_eq_getElem hi, List.getElem?_eq_getElem hi', Option.getD_some] at this
  exact this
set_option maxRecDepth 100000 in
set_option maxHeartbeats 1000000 in
theorem si10_some (xs ys : List Int) (b o c b' o' c' n : Nat) (w : World) (hx : Hid (xs.length = n)) (hy : Hid (ys.length = n)) (hl : n ≤ 4000000000000) (h1 : ∀ i, i < xs.length → w.cell? ⟨b, o + i, none⟩ = some (.int .i64 (xs.getD i 0))) (h2 : ∀ i, i < ys.length → w.cell? ⟨b', o' + i, none⟩ = some (.int .i64 (ys.getD i 0))) :
    Calls Try.prog 14 #[.slice (some ⟨b, o, none⟩) n c, .slice (some ⟨b', o', none⟩) n c'] w fun e w' => e = .returned (.bool (decide (xs = ys))) ∧ ∃ m, w' = w.drewN m := by
  have hne : ((n : Int) != (n : Int)) = false := by simp
  rw [hx.out] at h1
  rw [hy.out] at h2
  have H1 := hide h1
  have H2 := hide h2
  clear h1 h2
  go_enter Try.func14, Try.ntmps14
  go_wp2_with fail
  go_loopw [13] (fun s wr => ∃ k : Nat, s = .int .i64 k ∧ k ≤ n ∧ Hid (∀ j, j < k → xs.getD j 0 = ys.getD j 0) ∧ ∃ m, wr = w.drewN m) (fun s _ => n - (intOf s).toNat)
  case atStart => exact ⟨0, rfl, Nat.zero_le _, hide (fun j h => by omega), 0, rfl⟩
  case round =>
    obtain ⟨k, rfl, hk, HE, m, rfl⟩ := hrel
    by_cases hlt : k < n
    · have r1 := H1.out k hlt
      have r2 := H2.out k hlt
      have i0 : (0 : Int) ≤ (k : Int) := by omega
      have i1 : (k : Int) < (n : Int) := by omega
      by_cases he : xs.getD k 0 = ys.getD k 0
      · have HE2 : Hid (∀ j, j < k + 1 → xs.getD j 0 = ys.getD j 0) := hide (fun j hj => by
          by_cases e : j = k
          · subst e; exact he
          · exact HE.out j (by omega))
        rw [← he] at r2
        generalize xs.getD k 0 = x at *
        have hxx : (x != x) = false := by simp
        clear he HE
        go_wp2_with fail
        go_region
        go_wp2_with fail
        exact ⟨⟨k + 1, by go_num, by omega, HE2, m + 1, rfl⟩, by simp only [intOf]; omega⟩
      · have HD : Hid (false = decide (xs = ys)) := hide (by
          symm; rw [decide_eq_false_iff_not]
          exact fun e => he (by rw [e]))
        have hxx : (xs.getD k 0 != ys.getD k 0) = true := by simpa using he
        generalize xs.getD k 0 = x at *
        generalize ys.getD k 0 = y at *
        clear he HE
        go_wp2_with fail
        go_region
        go_wp2_with fail
        go_ret
        exact ⟨ret_bool HD.out, m + 1, rfl⟩
    · have HD : Hid (true = decide (xs = ys)) := hide (by
        symm; rw [decide_eq_true_eq]
        exact eq_upto hx.out hy.out (fun j hj => HE.out j (by omega)))
      go_wp2_with fail
      go_ret
      exact ⟨ret_bool HD.out, m, rfl⟩
theorem si10 {a b : Option Addr} {c d n : Nat} {xs ys : List Int} {w : World} (hx : Hid (xs.length = n)) (hy : Hid (ys.length = n)) (hl : n ≤ 1048576) (h1 : ARow w a xs) (h2 : ARow w b ys) :
    Calls Try.prog 14 #[.slice a n c, .slice b n d] w fun e w' => e = .returned (.bool (decide (xs = ys))) ∧ Below w.heap.size w w' := by
  by_cases h0 : n = 0
  · subst h0
    have e1 := List.length_eq_zero_iff.1 hx.out
    have e2 := List.length_eq_zero_iff.1 hy.out
    subst e1 e2
    exact (si10_zero a b c d w).mono fun e w' ⟨h, hw⟩ => ⟨h, hw ▸ Below.refl _ _⟩
  · have lx := hx.out
    have ly := hy.out
    rcases h1 with rfl | ⟨b1, o1, rfl, hb1, c1⟩
    · simp at lx; omega
    · rcases h2 with rfl | ⟨b2, o2, rfl, hb2, c2⟩
      · simp at ly; omega
      · exact (si10_some xs ys b1 o1 c b2 o2 d n w hx hy (by omega) c1 c2).mono fun e w' ⟨h, m, hw⟩ => ⟨h, hw ▸ below_drewN (Below.refl _ _) m⟩
/-- Bytes as numbers. -/
def YRow (w : World) (a : Option Addr) (zs : List Int) : Prop := zs = [] ∨ ∃ b off, a = some ⟨b, off, none⟩ ∧ b < w.heap.size ∧ ∀ i, i < zs.length → w.cell? ⟨b, off + i, none⟩ = some (.int .u8 (zs.getD i 0)) ∧ 0 ≤ zs.getD i 0 ∧ zs.getD i 0 ≤ 255
theorem YRow.below {w w' : World} {a : Option Addr} {zs : List Int} (h : YRow w a zs) (hb : Below w.heap.size w w') : YRow w' a zs := by
  rcases h with h | ⟨b, off, ha, hl, hc⟩
  · exact Or.inl h
  · exact Or.inr ⟨b, off, ha, Nat.lt_of_lt_of_le hl hb.size, fun i hi => ⟨(hb.cell (p := ⟨b, off + i, none⟩) hl).trans (hc i hi).1, (hc i hi).2⟩⟩
def numY (zs : List Int) : Nat → Int
  | 0 => 0
  | k + 1 => (31 * numY zs k + zs.getD k 0) % 1000003
theorem numY_bd {zs : List Int} {n : Nat} : 0 ≤ numY zs n ∧ numY zs n < 1000003 := by
  cases n with
  | zero => exact ⟨by unfold numY; omega, by unfold numY; omega⟩
  | succ k => unfold numY; omega
theorem src_rowY {w : World} {a : Option Addr} {len : Nat} (h : Src w a len) : ∃ zs : List Int, zs.length = len ∧ YRow w a zs := by
  obtain ⟨hb, hl⟩ := h
  rcases hb with h0 | ⟨b, off, rfl, hc⟩
  · subst h0; exact ⟨[], rfl, Or.inl rfl⟩
  · by_cases h0 : len = 0
    · subst h0; exact ⟨[], rfl, Or.inl rfl⟩
    · refine ⟨(List.range len).map fun i => if hi : i < len then (hc i hi).choose else 0, by simp, Or.inr ⟨b, off, rfl, hl b off rfl (by omega), ?_⟩⟩
      intro i hi
      have hi' : i < len := by simpa using hi
      have e : ((List.range len).map fun i => if hi : i < len then (hc i hi).choose else 0).getD i 0 = (hc i hi').choose := by
        simp [List.getD_eq_getElem?_getD, hi']
      rw [e]
      exact (hc i hi').choose_spec
set_option maxRecDepth 100000 in
set_option maxHeartbeats 1000000 in
theorem num_y {a : Option Addr} {c n : Nat} {zs : List Int} {w : World} (hn : zs.length = n) (h : YRow w a zs) (hl : n ≤ 1048576) :
    Calls Try.prog 24 #[.slice a n c] w fun e w' => e = .returned (.int .i64 (numY zs n)) ∧ w' = w := by
  have H := hide h
  have HN := hide hn
  clear h hn
  go_enter Try.func24, Try.ntmps24
  go_wp2_with fail
  go_loop [3, 5, 8] (fun s3 _ s => ∃ (k : Nat) (x : Int), s3 = .int .i64 x ∧ s = .int .i64 k ∧ k ≤ n ∧ Hid (x = numY zs k) ∧ 0 ≤ x ∧ x ≤ 1000003) (fun _ _ s => n - (intOf s).toNat)
  case atStart => exact ⟨0, 0, rfl, rfl, Nat.zero_le _, hide rfl, by omega, by omega⟩
  case round =>
    obtain ⟨k, x, rfl, rfl, hk, HX, hx0, hx1⟩ := hrel
    by_cases hlt : k < n
    · rcases H.out with h0 | ⟨b, off, rfl, hb, hc⟩
      · have := HN.out; rw [h0] at this; simp at this; omega
      · obtain ⟨r1, y0, y1⟩ := hc k (by rw [HN.out]; exact hlt)
        have i0 : (0 : Int) ≤ (k : Int) := by omega
        have i1 : (k : Int) < (n : Int) := by omega
        have HS : Hid (numY zs (k + 1) = (31 * x + zs.getD k 0) % 1000003) := hide (by rw [HX.out]; rfl)
        generalize zs.getD k 0 = y at *
        have e1 : (31 * x + y).tmod 1000003 = (31 * x + y) % 1000003 := Int.tmod_eq_emod_of_nonneg (by omega)
        have e2 : IntKind.i64.wrap y = y := by rw [IntKind.wrap_i64]; omega
        have m0 := Int.emod_nonneg (31 * x + y) (show (1000003 : Int) ≠ 0 by omega)
        have m1 := Int.emod_lt_of_pos (31 * x + y) (show (0 : Int) < 1000003 by omega)
        clear hc
        go_wp2_with fail
        go_round
        case rel => exact ⟨k + 1, (31 * x + y) % 1000003, by go_num, by go_num, by omega, hide HS.out.symm, m0, by omega⟩
        case measure => simp only [intOf]; omega
    · have hke : k = n := by omega
      subst hke
      go_wp2_with fail
      go_ret
      exact ⟨ret_int HX.out, rfl⟩
/-- Some number: the same at each call. -/
theorem num_srcY {a : Option Addr} {len : Nat} {w : World} (h : Src w a len) (hl : len ≤ 1048576) : ∃ N : Int, 0 ≤ N ∧ N < 1000003 ∧ ∀ (W : World) (cap : Nat), Below w.heap.size w W → Calls Try.prog 24 #[.slice a len cap] W fun e w' => e = .returned (.int .i64 N) ∧ w' = W := by
  obtain ⟨zs, hz, hr⟩ := src_rowY h
  exact ⟨_, numY_bd.1, numY_bd.2, fun W cap hb => num_y hz (hr.below hb) hl⟩
theorem si_same {a b : Option Addr} {c d n : Nat} {xs : List Int} {w : World} (hx : Hid (xs.length = n)) (hl : n ≤ 1048576) (h1 : ARow w a xs) (h2 : ARow w b xs) :
    Calls Try.prog 14 #[.slice a n c, .slice b n d] w fun e w' => e = .returned (.bool true) ∧ Below w.heap.size w w' := by
  refine (si10 hx hx hl h1 h2).mono ?_
  rintro e w' ⟨rfl, hb⟩
  exact ⟨by simp, hb⟩
end Go.Proofs.Ytphfcephinnkoaa
