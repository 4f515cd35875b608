/-
  The first box in which there is room; an item put into a box: the program's.
-/
import Derived.Test.YtoalcmfpbjmapaaIt12
import Derived.Deep.RegionLaw
import Derived.Shelf.Abstract
namespace Go.Proofs.Ytoalcmfpbjmapaa
open Go.RowKit

set_option maxHeartbeats 1000000 in
theorem pcl_any {a : Option Addr} {n c Q : Nat} {b : List (Int × Int)} {s : Int} {w : World} (hb : b.length = n) (hn : n ≤ 900) (hsz : ∀ x ∈ b, 1 ≤ x.2 ∧ x.2 ≤ 20) (ha : FRow w a b) (hQ : w.cell? ⟨Q, 1, none⟩ = some (.int .i64 s)) :
    Calls Try.prog 49 #[.slice a n c, .pointer (some ⟨Q, 0, none⟩)] w fun e w' => e = .returned (.bool (decide (s ≤ It.rm b))) ∧ Below w.heap.size w w' := by
  have HR := hide fun (W : World) (h : Below w.heap.size w W) => ri_any (w := W) (c := c) hb hn hsz (ha.below h)
  have hQl : Q < w.heap.size := World.block_lt_of_cell? w _ hQ
  have HQ := hide fun (W : World) (h : Below w.heap.size w W) => (h.cell (p := ⟨Q, 1, none⟩) hQl).trans hQ
  generalize It.rm b = r at *
  have HD := hide ((Below.refl w.heap.size w).drew)
  clear hb hsz ha
  by_cases hsr : s ≤ r
  · rw [show decide (s ≤ r) = true by simp [hsr]]
    go_enter Try.func49, Try.ntmps49
    go_upto_region 1 with fail
    go_region_with (first
      | (go_at_call 50; refine (HR.out _ HD.out).mono ?_; rintro e w1 ⟨rfl, hb1⟩; have q1 := HQ.out _ (HD.out.trans hb1); have B1 := hide (HD.out.trans hb1); clear hb1))
    all_goals
      go_wp2_with fail
      go_ret
      exact ⟨rfl, B1.out⟩
  · have hd : decide (s ≤ r) = false := decide_eq_false hsr
    have hrs : r < s := by omega
    rw [hd]
    go_enter Try.func49, Try.ntmps49
    go_upto_region 1 with fail
    go_region_with (first
      | (go_at_call 50; refine (HR.out _ HD.out).mono ?_; rintro e w1 ⟨rfl, hb1⟩; have q1 := HQ.out _ (HD.out.trans hb1); have B1 := hide (HD.out.trans hb1); clear hb1))
    all_goals
      go_wp2_with fail
      go_ret
      exact ⟨rfl, B1.out⟩
set_option maxHeartbeats 2000000 in
theorem ifT_any {base T G cap N Q : Nat} {us : List Value} {B : List (List (Int × Int))} {s : Int} {v : Value} {w : World} (h : LL w base T 51 2 ite v us B) (hN : B.length = N) (hn : N ≤ 900) (hb9 : ∀ i, i < N → (B.getD i []).length ≤ 900) (hsz : ∀ i, i < N → ∀ x ∈ B.getD i [], 1 ≤ x.2 ∧ x.2 ≤ 20) (hQ : w.cell? ⟨Q, 1, none⟩ = some (.int .i64 s)) (hv : v = .slice (some ⟨G, 0, none⟩) N cap ∨ N = 0) :
    Calls Try.prog 48 #[v, .func (.func 49) #[] #[.pointer (some ⟨Q, 0, none⟩)]] w fun e w' => e = .returned (.int .i64 (if It.atI B s < N then (It.atI B s : Int) else -1)) ∧ Below w.heap.size w w' := by
  obtain ⟨A, hA⟩ : ∃ A, (if It.atI B s < N then (It.atI B s : Int) else -1) = A := ⟨_, rfl⟩
  rw [hA]
  have HAA := hide hA
  clear hA
  have eg : ∀ args w, (callFunc 49 args).run Try.prog w = .ok (.enter 49 args) w := enters_of Try.func49 (by kernel_rfl) rfl
  obtain ⟨av, cv, ev⟩ := h.form
  rw [hN] at ev
  subst ev
  have HL := hide fun (W : World) (hW : Below w.heap.size w W) => h.below hW
  have hQl : Q < w.heap.size := World.block_lt_of_cell? w _ hQ
  have HQ := hide fun (W : World) (h : Below w.heap.size w W) => (h.cell (p := ⟨Q, 1, none⟩) hQl).trans hQ
  have HN := hide hN
  have HB9 := hide hb9
  have HSZ := hide hsz
  have HV := hide hv
  clear hv hN hb9 hsz h hQ
  go_enter Try.func48, Try.ntmps48
  go_wp2_with fail
  go_loopw [4, 5, 8] (fun s4 _ s8 wr => ∃ (k : Nat), s4 = .int .i64 0 ∧ s8 = .int .i64 k ∧ k ≤ N ∧ Hid (∀ t, t < k → It.rm (B.getD t []) < s) ∧ Hid (Below w.heap.size w wr)) (fun _ _ s8 _ => N - (intOf s8).toNat)
  case atStart => exact ⟨0, rfl, rfl, Nat.zero_le _, hide fun t ht => absurd ht (Nat.not_lt_zero _), hide (Below.refl _ _)⟩
  case round =>
    obtain ⟨k, rfl, rfl, hk, HNO, HB⟩ := hrel
    by_cases hlt : k < N
    · obtain rfl : av = some ⟨G, 0, none⟩ := by
        rcases HV.out with e | e
        · cases e; rfl
        · omega
      have LW := HL.out _ HB.out
      have i0 : (0 : Int) ≤ (k : Int) := by omega
      have i1 : (k : Int) < (N : Int) := by omega
      have hkB : k < B.length := by rw [HN.out]; exact hlt
      have q1 : wr.cell? ⟨G, k, none⟩ = some (us.getD k nilS) := by
        have LW' := LW
        rw [← HN.out] at LW'
        exact LW'.cell hkB
      obtain ⟨ar, cr, er, hr⟩ := own_items rfl (LW.2.1 k hkB)
      rw [er] at q1
      have HC := hide (pcl_any (c := cr) rfl (HB9.out k hlt) (HSZ.out k hlt) hr (HQ.out _ HB.out))
      generalize hL : (B.getD k []).length = len at *
      clear LW er hr hL
      by_cases hs : s ≤ It.rm (B.getD k [])
      · have HE : Hid (A = (k : Int)) := hide (by
          rw [← HAA.out, It.at_yes hkB hs (fun t ht => by have := HNO.out t ht; omega), if_pos hlt])
        rw [decide_eq_true hs] at HC
        go_wp2_with (go_at_fn 49; refine HC.out.mono ?_; rintro e w1 ⟨rfl, hb1⟩)
        go_ret
        exact ⟨ret_int HE.out.symm, HB.out.trans (hb1.mono HB.out.size)⟩
      · have HN1 : Hid (∀ t, t < k + 1 → It.rm (B.getD t []) < s) := hide fun t ht => by
          by_cases e : t = k
          · subst e; omega
          · exact HNO.out t (by omega)
        rw [decide_eq_false hs] at HC
        go_wp2_with (go_at_fn 49; refine HC.out.mono ?_; rintro e w1 ⟨rfl, hb1⟩)
        have HB1 := hide (HB.out.trans (hb1.mono HB.out.size))
        go_roundw
        case rel => exact ⟨k + 1, rfl, by go_num, by omega, HN1, HB1⟩
        case measure => simp only [intOf]; omega
    · have hke : k = N := by omega
      subst hke
      have HE : Hid (A = -1) := hide (by
        rw [← HAA.out, It.at_no (fun t ht => by have := HNO.out t (by rw [HN.out] at ht; exact ht); omega), if_neg (by rw [HN.out]; omega)])
      go_wp2_with fail
      go_ret
      exact ⟨ret_int HE.out.symm, HB.out⟩
end Go.Proofs.Ytoalcmfpbjmapaa
