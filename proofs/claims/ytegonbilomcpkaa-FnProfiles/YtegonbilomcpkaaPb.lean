/-
  What GoodProfile and l3Sum of the model answer, over lists of whole numbers in memory.
-/
import Derived.Test.YtegonbilomcpkaaBase
namespace Go.Proofs.Ytegonbilomcpkaa
open Go.RowKit

set_option maxRecDepth 100000 in
set_option maxHeartbeats 1000000 in
theorem sisum_any {a : Option Addr} {c : Nat} {xs : List Int} {w : World} (h : ARow w a xs) (hl : xs.length ≤ 1000) (hb : Pf.allB xs (-10000000) 10000000 = true) :
    Calls Try.prog 52 #[.slice a xs.length c] w fun e w' => e = .returned (.int .i64 xs.sum) ∧ w' = w := by
  have H := hide h
  have HB := hide hb
  clear h hb
  go_enter Try.func52, Try.ntmps52
  go_wp2_with fail
  go_loop [3, 5, 8] (fun s3 _ s => ∃ (k : Nat) (n : Int), s3 = .int .i64 n ∧ s = .int .i64 k ∧ k ≤ xs.length ∧ Hid (n = (xs.take k).sum) ∧ -10000000000 ≤ n ∧ n ≤ 10000000000) (fun _ _ s => xs.length - (intOf s).toNat)
  case atStart => exact ⟨0, 0, rfl, rfl, Nat.zero_le _, hide (by simp), by omega, by omega⟩
  case round =>
    obtain ⟨k, n, rfl, rfl, hk, HN, hn0, hn1⟩ := hrel
    by_cases hlt : k < xs.length
    · obtain ⟨b, off, rfl, r1⟩ := H.out.at hlt
      have i0 : (0 : Int) ≤ (k : Int) := by omega
      have i1 : (k : Int) < (xs.length : Int) := by omega
      have hs := Pf.take_sum_succ xs k hlt
      have hx := Pf.inB_yes (Pf.allB_get HB.out hlt)
      have ht := Pf.sum_bd (Pf.allB_take HB.out (k + 1))
      rw [show (xs.take (k + 1)).length = k + 1 by simp; omega] at ht
      rw [hs, ← HN.out] at ht
      rw [← HN.out] at hs
      have HS := hide hs
      generalize xs.getD k 0 = x at *
      clear hs
      obtain ⟨hx0, hx1⟩ := hx
      have ht0 : -10000000000 ≤ n + x := by omega
      have ht1 : n + x ≤ 10000000000 := by omega
      clear ht
      go_wp2_with fail
      go_round
      case rel => exact ⟨k + 1, n + x, by go_num, by go_num, by omega, hide HS.out.symm, by omega, by omega⟩
      case measure => simp only [intOf]; omega
    · have hke : k = xs.length := by omega
      subst hke
      have HE := HN.out
      rw [List.take_length] at HE
      have HE' := hide HE
      clear HE
      go_wp2_with fail
      go_ret
      exact ⟨ret_int HE'.out, rfl⟩

set_option maxRecDepth 100000 in
set_option maxHeartbeats 1000000 in
theorem sgp_ne {a b : Option Addr} {n m c d : Nat} {w : World} (h : n ≠ m) :
    Calls Try.prog 17 #[.agg #[.slice a n c, .slice b m d]] w fun e w' => e = .returned (.bool false) ∧ Below w.heap.size w w' := by
  have h1 : ((n : Int) != (m : Int)) = true := by simp; omega
  go_enter Try.func17, Try.ntmps17
  go_wp2_with fail
  go_ret
  exact ⟨rfl, (Below.refl _ _).alloc (Nat.le_refl _) _⟩
set_option maxRecDepth 100000 in
set_option maxHeartbeats 1000000 in
theorem sgp_many {a b : Option Addr} {n c d : Nat} {w : World} (h : 12 < n) :
    Calls Try.prog 17 #[.agg #[.slice a n c, .slice b n d]] w fun e w' => e = .returned (.bool false) ∧ Below w.heap.size w w' := by
  have h1 : ((n : Int) != (n : Int)) = false := by simp
  have h2 : (12 : Int) < n := by omega
  go_enter Try.func17, Try.ntmps17
  go_wp2_with fail
  go_ret
  exact ⟨rfl, (Below.refl _ _).alloc (Nat.le_refl _) _⟩
theorem all_eq' {a : Option Addr} {n c : Nat} {xs : List Int} {lo hi : Int} {w : World} {r : Bool} (o : Obj) (h : Hid (ARow w a xs)) (hn : Hid (xs.length = n)) (hl : n ≤ 12) (hr : Hid (Pf.allB xs lo hi = r)) :
    Calls Try.prog 44 #[.slice a n c, .int .i64 lo, .int .i64 hi] (w.alloc o) fun e w' => e = .returned (.bool r) ∧ w' = w.alloc o := by
  have := hn.out
  subst this
  exact all_eq (h.out.alloc o) (by omega) hr.out
set_option maxRecDepth 100000 in
set_option maxHeartbeats 2000000 in
theorem sgp_np {a b : Option Addr} {n c d : Nat} {ps : List Int} {w : World} (hn : ps.length = n) (h12 : n ≤ 12) (ha : ARow w a ps) (hp : Pf.allB ps 0 10000 = false) :
    Calls Try.prog 17 #[.agg #[.slice a n c, .slice b n d]] w fun e w' => e = .returned (.bool false) ∧ Below w.heap.size w w' := by
  have h1 : ((n : Int) != (n : Int)) = false := by simp
  have h2 : ¬ (12 : Int) < n := by omega
  have HA := hide ha
  have HN := hide hn
  have HP := hide hp
  clear ha hn hp
  go_enter Try.func17, Try.ntmps17
  go_wp2_with ((go_at_call 44; refine (all_eq' _ HA HN h12 HP).mono ?_; rintro e w1 ⟨rfl, rfl⟩))
  go_ret
  exact ⟨rfl, (Below.refl _ _).alloc (Nat.le_refl _) _⟩
set_option maxRecDepth 100000 in
set_option maxHeartbeats 2000000 in
theorem sgp_nf {a b : Option Addr} {n c d : Nat} {ps fs : List Int} {w : World} (hn : ps.length = n) (hf : fs.length = n) (h12 : n ≤ 12) (ha : ARow w a ps) (hb : ARow w b fs) (hp : Pf.allB ps 0 10000 = true) (hq : Pf.allB fs 0 10000000 = false) :
    Calls Try.prog 17 #[.agg #[.slice a n c, .slice b n d]] w fun e w' => e = .returned (.bool false) ∧ Below w.heap.size w w' := by
  have h1 : ((n : Int) != (n : Int)) = false := by simp
  have h2 : ¬ (12 : Int) < n := by omega
  have HA := hide ha
  have HN := hide hn
  have HP := hide hp
  have HB := hide hb
  have HM := hide hf
  have HQ := hide hq
  clear ha hn hp hb hf hq
  generalize hva : Value.slice a n c = va
  generalize hvb : Value.slice b n d = vb
  go_enter Try.func17, Try.ntmps17
  subst hva hvb
  go_wp2_with (first
    | (go_at_call_of 44 (Value.slice a n c); refine (all_eq' _ HA HN h12 HP).mono ?_; rintro e w1 ⟨rfl, rfl⟩)
    | (go_at_call 44; refine (all_eq' _ HB HM h12 HQ).mono ?_; rintro e w1 ⟨rfl, rfl⟩))
  go_ret
  exact ⟨rfl, (Below.refl _ _).alloc (Nat.le_refl _) _⟩
set_option maxRecDepth 100000 in
set_option maxHeartbeats 4000000 in
theorem sgp_same {a b : Option Addr} {n c d : Nat} {ps fs : List Int} {w : World} (hn : ps.length = n) (hf : fs.length = n) (h12 : n ≤ 12) (ha : ARow w a ps) (hb : ARow w b fs) (hp : Pf.allB ps 0 10000 = true) (hq : Pf.allB fs 0 10000000 = true) :
    Calls Try.prog 17 #[.agg #[.slice a n c, .slice b n d]] w fun e w' => e = .returned (.bool (Pf.goodP ps fs)) ∧ Below w.heap.size w w' := by
  have h1 : ((n : Int) != (n : Int)) = false := by simp
  have h2 : ¬ (12 : Int) < n := by omega
  have HA := hide ha
  have HAn := hide hn
  have HP := hide hp
  have HB := hide hb
  have HFn := hide hf
  have HQ := hide hq
  clear ha hn hp hb hf hq
  go_enter Try.func17, Try.ntmps17
  go_wp2_with (first
    | (go_at_call_of 44 (Value.slice a n c); refine (all_eq' _ HA HAn h12 HP).mono ?_; rintro e w1 ⟨rfl, rfl⟩)
    | (go_at_call 44; refine (all_eq' _ HB HFn h12 HQ).mono ?_; rintro e w1 ⟨rfl, rfl⟩))
  go_loopw [2, 3, 32] (fun s2 _ s wr => ∃ (k m : Nat), s2 = .bool false ∧ s = .int .i64 k ∧ k ≤ n ∧ wr = (w.alloc (.cells #[.slice a n c, .slice b n d] 29)).drewN m ∧ Hid (∀ i, i < k → ((ps.getD i 0 == 0) == (fs.getD i 0 == 0)) = true)) (fun _ _ s _ => n - (intOf s).toNat)
  case atStart => exact ⟨0, 0, rfl, rfl, Nat.zero_le _, rfl, hide fun i hi => absurd hi (Nat.not_lt_zero _)⟩
  case round =>
    obtain ⟨k, m, rfl, rfl, hk, rfl, HG⟩ := hrel
    by_cases hlt : k < n
    · obtain ⟨ba, oa, rfl, r1⟩ := HA.out.at' (i := k) (by rw [HAn.out]; exact hlt)
      obtain ⟨bb, ob, rfl, r2⟩ := HB.out.at' (i := k) (by rw [HFn.out]; exact hlt)
      have i0 : (0 : Int) ≤ (k : Int) := by omega
      have i1 : (k : Int) < (n : Int) := by omega
      generalize hx : ps.getD k 0 = x at r1
      generalize hy : fs.getD k 0 = y at r2
      cases hz : ((x == 0) == (y == 0))
      · have HN := hide (Pf.goodP_nzero (ps := ps) (fs := fs) (i := k) (by rw [HAn.out]; exact hlt) (by rw [hx, hy]; exact hz))
        clear hx hy
        go_wp2_with fail
        go_region
        go_wp2_with fail
        go_ret
        exact ⟨ret_bool HN.out.symm, (below_drewN ((Below.refl _ _).alloc (Nat.le_refl _) _) _).drew⟩
      · have HY : Hid (∀ i, i < k + 1 → ((ps.getD i 0 == 0) == (fs.getD i 0 == 0)) = true) := hide fun i hi => by
          by_cases e : i = k
          · subst e; rw [hx, hy]; exact hz
          · exact HG.out i (by omega)
        clear hx hy
        go_wp2_with fail
        go_region
        go_wp2_with fail
        go_roundw
        case rel => exact ⟨k + 1, m + 1, rfl, by go_num, by omega, rfl, HY⟩
        case measure => simp only [intOf]; omega
    · have hke : k = n := by omega
      subst hke
      have HY := hide (Pf.goodP_split (HAn.out.trans HFn.out.symm) (by rw [HAn.out]; exact h12) HP.out HQ.out (fun i hi => HG.out i (by rw [← HAn.out]; exact hi)))
      go_wp2_with fail
      go_ret
      exact ⟨ret_bool HY.out.symm, below_drewN ((Below.refl _ _).alloc (Nat.le_refl _) _) _⟩
theorem sgp_any {a b : Option Addr} {c d : Nat} {ps fs : List Int} {w : World} (ha : ARow w a ps) (hb : ARow w b fs) :
    Calls Try.prog 17 #[.agg #[.slice a ps.length c, .slice b fs.length d]] w fun e w' => e = .returned (.bool (Pf.goodP ps fs)) ∧ Below w.heap.size w w' := by
  by_cases h1 : ps.length = fs.length
  · rw [← h1]
    by_cases h2 : ps.length ≤ 12
    · cases hp : Pf.allB ps 0 10000
      · rw [Pf.goodP_npicks hp]; exact sgp_np rfl h2 ha hp
      · cases hq : Pf.allB fs 0 10000000
        · rw [Pf.goodP_nflow hq]; exact sgp_nf rfl h1.symm h2 ha hb hp hq
        · exact sgp_same rfl h1.symm h2 ha hb hp hq
    · rw [Pf.goodP_many (by omega)]; exact sgp_many (by omega)
  · rw [Pf.goodP_ne h1]; exact sgp_ne h1
theorem sgp_eq {a b : Option Addr} {c d : Nat} {ps fs : List Int} {w : World} {r : Bool} (ha : ARow w a ps) (hb : ARow w b fs) (hr : Pf.goodP ps fs = r) :
    Calls Try.prog 17 #[.agg #[.slice a ps.length c, .slice b fs.length d]] w fun e w' => e = .returned (.bool r) ∧ Below w.heap.size w w' := hr ▸ sgp_any ha hb
end Go.Proofs.Ytegonbilomcpkaa
