/-
  What isBetween, GoodProfile and sumOf of the program, and l1All, GoodProfile and l3Sum of the model answer, over lists of whole numbers in memory.
-/
import Derived.Test.YtlbagigghpiifaaXi
import Derived.Test.YtlbagigghpiifaaD
import Derived.Test.YtlbagigghpiifaaPf
namespace Go.Proofs.Ytlbagigghpiifaa
open Go.RowKit

/-- A slice of whole numbers, wherever it lies: its address, and what it holds. -/
def ARow (w : World) (a : Option Addr) (xs : List Int) : Prop := xs = [] ∨ ∃ b off, a = some ⟨b, off, none⟩ ∧ b < w.heap.size ∧ ∀ i, i < xs.length → w.cell? ⟨b, off + i, none⟩ = some (.int .i64 (xs.getD i 0))
theorem ARow.keep {w w' : World} {a : Option Addr} {xs : List Int} (h : ARow w a xs) (hs : w.heap.size ≤ w'.heap.size) (hB : ∀ b, b < w.heap.size → w'.heap[b]? = w.heap[b]?) : ARow w' a xs := by
  rcases h with h | ⟨b, off, ha, hb, hc⟩
  · exact Or.inl h
  · exact Or.inr ⟨b, off, ha, Nat.lt_of_lt_of_le hb hs, fun i hi => (World.cell?_of_block (w := w) (a := ⟨b, off + i, none⟩) (hB b hb)).trans (hc i hi)⟩
theorem ARow.below {w w' : World} {a : Option Addr} {xs : List Int} (h : ARow w a xs) (hB : Below w.heap.size w w') : ARow w' a xs := h.keep hB.size hB.block
theorem ARow.alloc {w : World} {a : Option Addr} {xs : List Int} (h : ARow w a xs) (o : Obj) : ARow (w.alloc o) a xs := h.below ((Below.refl _ _).alloc (Nat.le_refl _) _)
theorem ARow.drewN {w : World} {a : Option Addr} {xs : List Int} (h : ARow w a xs) (q : Nat) : ARow (w.drewN q) a xs := h
theorem ARow.at {w : World} {a : Option Addr} {xs : List Int} (h : ARow w a xs) {i : Nat} (hi : i < xs.length) : ∃ b off, a = some ⟨b, off, none⟩ ∧ w.cell? ⟨b, off + i, none⟩ = some (.int .i64 (xs.getD i 0)) := by
  rcases h with h | ⟨b, off, ha, _, hc⟩
  · rw [h] at hi; simp at hi
  · exact ⟨b, off, ha, hc i hi⟩
theorem ARow.at' {w : World} {a : Option Addr} {xs : List Int} (h : ARow w a xs) {i : Nat} (hi : i < xs.length) : ∃ b off, a = some ⟨b, off, none⟩ ∧ ∀ o, (w.alloc o).cell? ⟨b, off + i, none⟩ = some (.int .i64 (xs.getD i 0)) := by
  rcases h with h | ⟨b, off, ha, hb, hc⟩
  · rw [h] at hi; simp at hi
  · exact ⟨b, off, ha, fun o => (((Below.refl _ _).alloc (Nat.le_refl _) o).cell (p := ⟨b, off + i, none⟩) hb).trans (hc i hi)⟩
theorem arow_owns {w : World} {base e : Nat} {g n cap : Nat} {xs : List Int} (hn : n = xs.length) (h : w.ownsRow base e 1 (.slice (some ⟨g, 0, none⟩) n cap) n (ints xs)) : ARow w (some ⟨g, 0, none⟩) xs := by
  subst hn
  rcases irow_owns h with ⟨h, _⟩ | ⟨b, o, c, hv, hlt, hc⟩
  · exact Or.inl h
  · cases hv; exact Or.inr ⟨_, _, rfl, hlt, hc⟩

set_option maxHeartbeats 400000 in
theorem between_any (n lo hi : Int) (w : World) :
    Calls Try.prog 42 #[.int .i64 n, .int .i64 lo, .int .i64 hi] w fun e w' => e = .returned (.bool (Pf.inB n lo hi)) ∧ w' = w := by
  unfold Pf.inB
  by_cases h1 : lo ≤ n
  · by_cases h2 : n ≤ hi
    · go_enter Try.func42, Try.ntmps42
      go_wp2
      go_ret
      exact ⟨by simp [h1, h2], rfl⟩
    · go_enter Try.func42, Try.ntmps42
      go_wp2
      go_ret
      exact ⟨by simp [show ¬ n ≤ hi by omega], rfl⟩
  · go_enter Try.func42, Try.ntmps42
    go_wp2
    go_ret
    exact ⟨by simp [show ¬ lo ≤ n by omega], rfl⟩
theorem between_eq {n lo hi : Int} {w : World} {b : Bool} (h : Pf.inB n lo hi = b) :
    Calls Try.prog 42 #[.int .i64 n, .int .i64 lo, .int .i64 hi] w fun e w' => e = .returned (.bool b) ∧ w' = w := h ▸ between_any n lo hi w

set_option maxHeartbeats 1000000 in
theorem areb_any {a : Option Addr} {c : Nat} {xs : List Int} {lo hi : Int} {w : World} (h : ARow w a xs) (hl : xs.length ≤ 4000000000000) :
    Calls Try.prog 51 #[.slice a xs.length c, .int .i64 lo, .int .i64 hi] w fun e w' => e = .returned (.bool (Pf.allB xs lo hi)) ∧ w' = w := by
  have H := hide h
  clear h
  go_enter Try.func51, Try.ntmps51
  go_wp2_with fail
  go_loop [6, 8, 11] (fun s6 _ s => ∃ k : Nat, s6 = .bool false ∧ s = .int .i64 k ∧ k ≤ xs.length ∧ Hid (∀ i, i < k → Pf.inB (xs.getD i 0) lo hi = true)) (fun _ _ s => xs.length - (intOf s).toNat)
  case atStart => exact ⟨0, rfl, rfl, Nat.zero_le _, hide fun i hi => absurd hi (Nat.not_lt_zero _)⟩
  case round =>
    obtain ⟨k, rfl, rfl, hk, HA⟩ := hrel
    by_cases hlt : k < xs.length
    · obtain ⟨b, off, rfl, r1⟩ := H.out.at hlt
      have i0 : (0 : Int) ≤ (k : Int) := by omega
      have i1 : (k : Int) < (xs.length : Int) := by omega
      have HX := hide (rfl : xs.getD k 0 = xs.getD k 0)
      generalize hx : xs.getD k 0 = x at r1
      cases hb : Pf.inB x lo hi
      · have HN := hide (Pf.allB_not (lo := lo) (hi := hi) hlt (by rw [hx]; exact hb))
        clear hx
        go_wp2_with fail
        refine (between_eq hb).mono ?_
        rintro e w1 ⟨rfl, rfl⟩
        go_wp2_with fail
        go_ret
        exact ⟨ret_bool HN.out.symm, rfl⟩
      · have HY : Hid (∀ i, i < k + 1 → Pf.inB (xs.getD i 0) lo hi = true) := hide fun i hi => by
          by_cases e : i = k
          · subst e; rw [hx]; exact hb
          · exact HA.out i (by omega)
        clear hx
        go_wp2_with fail
        refine (between_eq hb).mono ?_
        rintro e w1 ⟨rfl, rfl⟩
        go_wp2_with fail
        go_round
        case rel => exact ⟨k + 1, rfl, by go_num, by omega, HY⟩
        case measure => simp only [intOf]; omega
    · have hke : k = xs.length := by omega
      subst hke
      have HY := hide (Pf.allB_of HA.out)
      go_wp2_with fail
      go_ret
      exact ⟨ret_bool HY.out.symm, rfl⟩
theorem areb_eqn {a : Option Addr} {n c : Nat} {xs : List Int} {lo hi : Int} {w : World} {r : Bool} (h : Hid (ARow w a xs)) (hn : Hid (xs.length = n)) (hl : n ≤ 1000) (hr : Hid (Pf.allB xs lo hi = r)) :
    Calls Try.prog 51 #[.slice a n c, .int .i64 lo, .int .i64 hi] w fun e w' => e = .returned (.bool r) ∧ w' = w := by
  have := hn.out
  subst this
  exact hr.out ▸ areb_any h.out (by omega)

theorem in_eq {n lo hi : Int} {w : World} {b : Bool} (h : Pf.inB n lo hi = b) :
    Calls Try.prog 60 #[.int .i64 n, .int .i64 lo, .int .i64 hi] w fun e w' => e = .returned (.bool b) ∧ w' = w := by
  cases b
  · exact in_no (Pf.inB_no h)
  · exact in_yes (Pf.inB_yes h).1 (Pf.inB_yes h).2

set_option maxHeartbeats 1000000 in
theorem all_any {a : Option Addr} {c : Nat} {xs : List Int} {lo hi : Int} {w : World} (h : ARow w a xs) (hl : xs.length ≤ 4000000000000) :
    Calls Try.prog 41 #[.slice a xs.length c, .int .i64 lo, .int .i64 hi] w fun e w' => e = .returned (.bool (Pf.allB xs lo hi)) ∧ w' = w := by
  have H := hide h
  clear h
  go_enter Try.func41, Try.ntmps41
  go_wp2_with fail
  go_loop [6, 8, 11] (fun s6 _ s => ∃ k : Nat, s6 = .bool false ∧ s = .int .i64 k ∧ k ≤ xs.length ∧ Hid (∀ i, i < k → Pf.inB (xs.getD i 0) lo hi = true)) (fun _ _ s => xs.length - (intOf s).toNat)
  case atStart => exact ⟨0, rfl, rfl, Nat.zero_le _, hide fun i hi => absurd hi (Nat.not_lt_zero _)⟩
  case round =>
    obtain ⟨k, rfl, rfl, hk, HA⟩ := hrel
    by_cases hlt : k < xs.length
    · obtain ⟨b, off, rfl, r1⟩ := H.out.at hlt
      have i0 : (0 : Int) ≤ (k : Int) := by omega
      have i1 : (k : Int) < (xs.length : Int) := by omega
      have HX := hide (rfl : xs.getD k 0 = xs.getD k 0)
      generalize hx : xs.getD k 0 = x at r1
      cases hb : Pf.inB x lo hi
      · have HN := hide (Pf.allB_not (lo := lo) (hi := hi) hlt (by rw [hx]; exact hb))
        clear hx
        go_wp2_with fail
        refine (in_eq hb).mono ?_
        rintro e w1 ⟨rfl, rfl⟩
        go_wp2_with fail
        go_ret
        exact ⟨ret_bool HN.out.symm, rfl⟩
      · have HY : Hid (∀ i, i < k + 1 → Pf.inB (xs.getD i 0) lo hi = true) := hide fun i hi => by
          by_cases e : i = k
          · subst e; rw [hx]; exact hb
          · exact HA.out i (by omega)
        clear hx
        go_wp2_with fail
        refine (in_eq hb).mono ?_
        rintro e w1 ⟨rfl, rfl⟩
        go_wp2_with fail
        go_round
        case rel => exact ⟨k + 1, rfl, by go_num, by omega, HY⟩
        case measure => simp only [intOf]; omega
    · have hke : k = xs.length := by omega
      subst hke
      have HY := hide (Pf.allB_of HA.out)
      go_wp2_with fail
      go_ret
      exact ⟨ret_bool HY.out.symm, rfl⟩
theorem all_eq {a : Option Addr} {c : Nat} {xs : List Int} {lo hi : Int} {w : World} {r : Bool} (h : ARow w a xs) (hl : xs.length ≤ 4000000000000) (hr : Pf.allB xs lo hi = r) :
    Calls Try.prog 41 #[.slice a xs.length c, .int .i64 lo, .int .i64 hi] w fun e w' => e = .returned (.bool r) ∧ w' = w := hr ▸ all_any h hl

set_option maxHeartbeats 1000000 in
theorem isum_any {a : Option Addr} {c : Nat} {xs : List Int} {w : World} (h : ARow w a xs) (hl : xs.length ≤ 1000) (hb : Pf.allB xs (-10000000) 10000000 = true) :
    Calls Try.prog 50 #[.slice a xs.length c] w fun e w' => e = .returned (.int .i64 xs.sum) ∧ w' = w := by
  have H := hide h
  have HB := hide hb
  clear h hb
  go_enter Try.func50, Try.ntmps50
  go_wp2_with fail
  go_loop [3, 5, 8] (fun s3 _ s => ∃ (k : Nat) (n : Int), s3 = .int .i64 n ∧ s = .int .i64 k ∧ k ≤ xs.length ∧ Hid (n = (xs.take k).sum) ∧ -10000000000 ≤ n ∧ n ≤ 10000000000) (fun _ _ s => xs.length - (intOf s).toNat)
  case atStart => exact ⟨0, 0, rfl, rfl, Nat.zero_le _, hide (by simp), by omega, by omega⟩
  case round =>
    obtain ⟨k, n, rfl, rfl, hk, HN, hn0, hn1⟩ := hrel
    by_cases hlt : k < xs.length
    · obtain ⟨b, off, rfl, r1⟩ := H.out.at hlt
      have i0 : (0 : Int) ≤ (k : Int) := by omega
      have i1 : (k : Int) < (xs.length : Int) := by omega
      have hs := Pf.take_sum_succ xs k hlt
      have hx := Pf.inB_yes (Pf.allB_get HB.out hlt)
      have ht := Pf.sum_bd (Pf.allB_take HB.out (k + 1))
      rw [show (xs.take (k + 1)).length = k + 1 by simp; omega] at ht
      rw [hs, ← HN.out] at ht
      rw [← HN.out] at hs
      have HS := hide hs
      generalize xs.getD k 0 = x at *
      clear hs
      obtain ⟨hx0, hx1⟩ := hx
      have ht0 : -10000000000 ≤ n + x := by omega
      have ht1 : n + x ≤ 10000000000 := by omega
      clear ht
      go_wp2_with fail
      go_round
      case rel => exact ⟨k + 1, n + x, by go_num, by go_num, by omega, hide HS.out.symm, by omega, by omega⟩
      case measure => simp only [intOf]; omega
    · have hke : k = xs.length := by omega
      subst hke
      have HE := HN.out
      rw [List.take_length] at HE
      have HE' := hide HE
      clear HE
      go_wp2_with fail
      go_ret
      exact ⟨ret_int HE'.out, rfl⟩
end Go.Proofs.Ytlbagigghpiifaa
