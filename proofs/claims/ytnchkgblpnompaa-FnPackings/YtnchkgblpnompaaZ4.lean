/-
  In one: Wn12, Il12.
-/
import Derived.Test.YtnchkgblpnompaaZ3
import Derived.Test.YtnchkgblpnompaaZ1
import Derived.Laws.CopyRow
import Derived.Deep.RegionLaw
import Derived.Test.YtnchkgblpnompaaZ2
namespace Go.Proofs.Ytnchkgblpnompaa
open Go.RowKit

/-- The first k of n are -1. -/
def mixT (n k : Nat) : List Int := List.replicate k 20 ++ List.replicate (n - k) 0
theorem mixT_len (n k : Nat) (h : k ≤ n) : (mixT n k).length = n := by simp [mixT]; omega
theorem mixT_zero (n : Nat) : mixT n 0 = List.replicate n 0 := by simp [mixT]
theorem mixT_all (n : Nat) : mixT n n = List.replicate n 20 := by simp [mixT]
theorem mixT_get {n k j : Nat} (h : j < k) (hk : k ≤ n) : (ints (mixT n k))[j]? = some (.int .i64 20) := by
  rw [ints_get _ j (by rw [mixT_len n k hk]; omega)]
  simp [mixT, List.getElem?_append, h]
theorem mixT_copy {n k j : Nat} (_hj : k + j ≤ n) : (ints (mixT n k)).take k ++ ints (List.replicate j 20) ++ (ints (mixT n k)).drop (k + j) = ints (mixT n (k + j)) := by
  have e1 : (ints (mixT n k)).take k = ints (List.replicate k 20) := by simp [mixT, ints]
  have e2 : (ints (mixT n k)).drop (k + j) = ints (List.replicate (n - (k + j)) 0) := by
    unfold ints mixT
    rw [← List.map_drop, List.drop_append, List.drop_of_length_le (by simp)]
    simp; omega
  rw [e1, e2]
  unfold mixT ints
  rw [← List.map_append, ← List.map_append, List.replicate_append_replicate]
/-- What is copied from the front of a list to behind it, or from another list. -/
theorem cp_own12 {w : World} {base X n k j : Nat} {a : Addr} {sL sC : Nat} (hj : k + j ≤ n) (hmin : j = Nat.min sL (n - k)) (hX : w.ownsRow base 3 1 (.slice (some ⟨X, 0, none⟩) n n) n (ints (mixT n k))) (hs : ∀ i, i < j → w.cell? (a.add i) = some (.int .i64 20)) :
    ∃ w', (∀ ty, (Builtin.copy_ #[23, 23] ty #[.slice (some ⟨X, k, none⟩) (n - k) (n - k), .slice (some a) sL sC]).run Try.prog w = .ok (.int .i64 (j : Int)) w') ∧ w'.ownsRow base 3 1 (.slice (some ⟨X, 0, none⟩) n n) n (ints (mixT n (k + j))) ∧ w.grownBy w' (some X) := by
  rcases hX.2 with ⟨h, _⟩ | ⟨g, cap, cur, hv, hb, hg, hnc, hcm, hcs, htake⟩
  · cases h
  cases hv
  have hsz : (Try.prog.info? 3).map (·.size) = some 1 := by kernel_rfl
  have hl : (ints (List.replicate j 20)).length = j := by simp [ints]
  have hrun := fun ty => run_copy_row (P := Try.prog) w 23 23 ty 3 X k (n - k) (n - k) a sL sC cur 3 (ints (List.replicate j 20)) Try.underlying23 hsz hg (by rw [hl]; exact hmin) (fun i v hi => by
    have hij : i < j := by have := (List.getElem?_eq_some_iff.1 hi).1; omega
    have : v = .int .i64 20 := by simpa [ints, hij] using hi.symm
    rw [this]; exact hs i hij) (by rw [hl]; omega) (c_ints _)
  have hcur : cur.toList = ints (mixT n k) := by
    rw [← htake, List.take_of_length_le (by simp; omega)]
  rw [hl, hcur, mixT_copy hj] at hrun
  refine ⟨w.setRow X (ints (mixT n (k + j))).toArray, hrun, ⟨by simp [ints, mixT_len n (k + j) hj], .inr ⟨X, n, _, rfl, hb, setRow_heap w X _ _ _ _ hg, hnc, hcm, ?_, ?_⟩⟩, ⟨rfl, rfl, rfl, by simp [World.setRow], fun k _ hne => setRow_other w X k _ (by simpa using hne)⟩⟩
  · simp [ints, mixT_len n (k + j) hj]
  · rw [List.take_of_length_le (by simp [ints, mixT_len n (k + j) hj])]
theorem mul_c12 (n : Nat) (hn : n ≤ 10) (w : World) : Calls Try.prog 57 #[.int .u64 1, .int .u64 (n : Int)] w fun e w' => e = .returned (.tuple #[.int .u64 0, .int .u64 (n : Int)]) ∧ w' = w := by
  have := Try.bits_Mul 1 n (by omega) (by omega) w
  rw [Nat.one_mul, Nat.div_eq_of_lt (by omega), Nat.mod_eq_of_lt (by omega)] at this
  exact this
set_option maxRecDepth 20000 in
set_option maxHeartbeats 400000 in
theorem rp12 {B n : Nat} {w : World} (hn : n ≤ 10) (hc : w.cell? ⟨B, 0, none⟩ = some (.int .i64 20)) (hB : B < w.heap.size) :
    Calls Try.prog 35 #[.slice (some ⟨B, 0, none⟩) 1 1, .int .i64 (n : Int)] w fun e w' => e = .returned (.slice (some ⟨w.heap.size, 0, none⟩) n n) ∧ Below w.heap.size w w' ∧ w'.ownsRow w.heap.size 3 1 (.slice (some ⟨w.heap.size, 0, none⟩) n n) n (ints (List.replicate n 20)) := by
  have h1 : IntKind.u64.wrap (n : Int) = (n : Int) := by rw [IntKind.wrap_u64]; omega
  have h2 : IntKind.i64.wrap (n : Int) = (n : Int) := by rw [IntKind.wrap_i64]; omega
  have h3 : ¬ (9223372036854775807 : Int) < (n : Int) := by omega
  have h4 : ¬ (n : Int) < 0 := by omega
  have hmk := makeI_run n (by omega)
  have hM := made_own w n (by omega)
  rw [← mixT_zero] at hM
  have hcn : (w.alloc (.cells (madeCells #[.int .i64 0] n) 3)).cell? ⟨B, 0, none⟩ = some (.int .i64 20) := ((below_new w _).cell (p := ⟨B, 0, none⟩) hB).trans hc
  obtain ⟨j0, hj0, hj1⟩ : ∃ j0, j0 = Nat.min 1 (n - 0) ∧ 0 + j0 ≤ n := ⟨_, rfl, by simp only [Nat.min_def]; split <;> omega⟩
  have hj2 : n = 0 ∨ 1 ≤ j0 := by simp only [Nat.min_def] at hj0; split at hj0 <;> omega
  obtain ⟨w1, hr1, own1, hg1⟩ := cp_own12 (a := ⟨B, 0, none⟩) (sL := 1) (sC := 1) hj1 hj0 hM (fun i hi => by
    have : i = 0 := by simp only [Nat.min_def] at hj0; split at hj0 <;> omega
    subst this
    rw [add_plain']; exact hcn)
  simp only [Nat.zero_add, Nat.sub_zero] at hr1 own1
  have HB1 := hide ((below_new w (.cells (madeCells #[.int .i64 0] n) 3)).trans (grown_below' hg1 (Nat.le_refl _) (by simp)))
  have HO1 := hide own1
  have HJ := hide hj2
  clear own1 hg1 hM hc hcn hj0 hj2
  go_enter Try.func35, Try.ntmps35
  go_wp2_with fail
  refine (mul_c12 n hn _).mono ?_
  rintro e w0 ⟨rfl, hw0⟩
  obtain rfl : w = w0 := hw0.symm
  go_wp2_with (first | (at_builtin; refine wpList_copy_run8 rfl _ _ _ _ rfl _ _ rfl rfl _ _ (hr1 _) ?_))
  clear hr1 hmk h1 h2 h4
  go_loopw [8] (fun s8 wr => ∃ (k : Nat), s8 = .int .i64 k ∧ k ≤ n ∧ Hid (n = 0 ∨ 1 ≤ k) ∧ Hid (wr.ownsRow w.heap.size 3 1 (.slice (some ⟨w.heap.size, 0, none⟩) n n) n (ints (mixT n k))) ∧ Hid (Below w.heap.size w wr)) (fun s _ => n - (intOf s).toNat)
  case atStart => exact ⟨j0, rfl, by omega, HJ, HO1, HB1⟩
  case round =>
    clear HO1 HB1 HJ
    obtain ⟨k, rfl, hk, HJ, HO, HB⟩ := hrel
    by_cases hlt : k < n
    · have k1 : 1 ≤ k := by have := HJ.out; omega
      have i0 : (0 : Int) ≤ (k : Int) := by omega
      have i1 : (k : Int) < (n : Int) := by omega
      have i2 : (k : Int) ≤ (n : Int) := by omega
      have i3 : ¬ k = n := by omega
      have i5 : ¬ n = k := by omega
      have i4 : ¬ (k : Int) = (n : Int) := by omega
      obtain ⟨j, hj, hj1⟩ : ∃ j, j = Nat.min k (n - k) ∧ k + j ≤ n := ⟨_, rfl, by simp only [Nat.min_def]; split <;> omega⟩
      have hj2 : 1 ≤ j := by simp only [Nat.min_def] at hj; split at hj <;> omega
      have hjk : j ≤ k := by simp only [Nat.min_def] at hj; split at hj <;> omega
      obtain ⟨w2, hr2, own2, hg2⟩ := cp_own12 (w := wr.drew) (a := ⟨w.heap.size, 0, none⟩) (sL := k) (sC := n) hj1 hj HO.out.drew (fun i hi => by
        rw [add_plain', Nat.zero_add, HO.out.drew.cellAt i (by omega)]
        exact mixT_get (by omega) hk)
      have HO2 := hide own2
      have HB2 := hide (HB.out.trans (grown_below' (w := wr) ⟨hg2.os, hg2.tape, hg2.output, hg2.size, hg2.block⟩ (Nat.le_refl _) HB.out.size))
      have w1 : IntKind.i64.wrap ((k : Int) + (j : Int)) = (k : Int) + (j : Int) := by rw [IntKind.wrap_i64]; omega
      have HR2 : Hid (∀ ty, (Builtin.copy_ #[23, 23] ty #[.slice (if n = k then some ⟨w.heap.size, 0, none⟩ else some ⟨w.heap.size, k, none⟩) (n - k) (n - k), .slice (some ⟨w.heap.size, 0, none⟩) k n]).run Try.prog wr.drew = .ok (.int .i64 (j : Int)) w2) := hide fun ty => by rw [if_neg i5]; exact hr2 ty
      clear own2 hg2 hj hr2 i5 i3
      go_wp2_with fail
      go_region_law ((refine step_copy_run (w := wr.drew) (by rfl) (.tmp 41) (.tmp 44) 23 23 (by rfl) (.slice (if n = k then some ⟨w.heap.size, 0, none⟩ else some ⟨w.heap.size, k, none⟩) (n - k) (n - k)) (.slice (some ⟨w.heap.size, 0, none⟩) k n) (by simp [go_sem]) (by simp [go_sem]) (.int .i64 (j : Int)) w2 (HR2.out _) ?_))
      go_wp2_with fail
      go_roundw
      case rel => exact ⟨k + j, by go_num, hj1, (by show n = 0 ∨ 1 ≤ k + j; omega), HO2⟩
      case measure => simp only [intOf]; omega
    · have hke : k = n := by omega
      subst hke
      have HF : Hid (wr.ownsRow w.heap.size 3 1 (.slice (some ⟨w.heap.size, 0, none⟩) k k) k (ints (List.replicate k 20))) := hide (by rw [← mixT_all]; exact HO.out)
      go_wp2_with fail
      go_ret
      exact ⟨rfl, HB.out, HF.out⟩
end Go.Proofs.Ytnchkgblpnompaa
namespace Go.Proofs.Ytnchkgblpnompaa
open Go.RowKit

theorem gfL_sizes (l : List Int) : ((gfL l).map Prod.snd).Perm l := by
  have : (gfL l).map Prod.snd = (Rk.rank l).map fun i => l.getD i 0 := by simp [gfL, Function.comp_def]
  rw [this]
  exact It.rank_sizes l
theorem can_gf {l : List Int} (hg : It.goodB l = true) (m : Nat) : It.canB ((gfL l).map Prod.snd) (It.twenty m) = true ↔ It.Fit l (It.twenty m) := by
  rw [It.can_iff (fun x hx => It.good_pos hg x ((gfL_sizes l).subset hx)) (It.twenty_pos m)]
  exact ⟨fun h => h.perm (gfL_sizes l), fun h => h.perm (gfL_sizes l).symm⟩
set_option maxRecDepth 100000 in
set_option maxHeartbeats 2000000 in
theorem fb_no {a : Option Addr} {n c : Nat} {l : List Int} {w : World} (hx : l.length = n) (hg : It.goodB l = false) (ha : ARow w a l) :
    Calls Try.prog 10 #[.slice a n c] w fun e w' => e = .returned (.tuple #[.int .i64 0, .bool false]) ∧ Below w.heap.size w w' := by
  have HX := hide hx
  have HA := hide ha
  have HG := hide hg
  clear hx ha hg
  go_enter Try.func10, Try.ntmps10
  go_wp2_with fail
  refine (gi_eq HX HA HG).mono ?_
  rintro e w1 ⟨rfl, rfl⟩
  go_wp2_with fail
  refine bodyPost_ret (v := .tuple #[.int .i64 0, .bool false]) (by simp [results, Try.results10, go_sem]) rfl ?_
  exact ⟨rfl, Below.refl _ _⟩
set_option maxRecDepth 100000 in
set_option maxHeartbeats 4000000 in
theorem fb_yes {a : Option Addr} {n c : Nat} {l : List Int} {w : World} (hx : l.length = n) (hg : It.goodB l = true) (ha : ARow w a l) :
    Calls Try.prog 10 #[.slice a n c] w fun e w' => e = .returned (.tuple #[.int .i64 (It.fewN l : Nat), .bool true]) ∧ Below w.heap.size w w' := by
  have HX := hide hx
  have HG := hide hg
  have HA := hide fun (W : World) (h : Below w.heap.size w W) => ha.below h
  have h9 : n ≤ 9 := by have := It.good_len hg; omega
  have HGI := hide (gi_eq (c := c) HX (hide ha) HG)
  have HGF := hide (gf_any (c := c) hx (by omega) ha)
  have HLB := hide fun (W : World) (h : ARow W a l) => lb_any (c := c) HX (hide h) HG
  have hall : It.Fit l (It.twenty n) := by rw [← hx]; exact It.fit_all l (It.good_all20 hg)
  have l0 := It.lb_nonneg hg
  have l1 := It.lb_le hg hall
  have HLE := hide fun m (h : It.Fit l (It.twenty m)) => It.lb_le hg h
  obtain ⟨m0, hm0⟩ : ∃ m0 : Nat, It.lbI l = (m0 : Int) := ⟨(It.lbI l).toNat, by omega⟩
  rw [hm0] at l1 HLB HLE
  have HF := hide fun m => can_gf hg m
  have HFW := hide fun m (h1 : It.Fit l (It.twenty m)) (h2 : ∀ q, q < m → ¬ It.Fit l (It.twenty q)) => It.few_of (It.good_all20 hg) ⟨h1, fun q hq => Nat.le_of_not_lt fun hlt => h2 q hlt hq⟩
  have HALL := hide hall
  have HSZ : Hid (∀ x ∈ gfL l, 1 ≤ x.2 ∧ x.2 ≤ 20) := hide fun x hx' => It.good_mem hg ((gfL_sizes l).subset (List.mem_map.2 ⟨x, hx', rfl⟩))
  have HGL : Hid ((gfL l).length = n) := hide (by rw [gfL_len, hx])
  generalize It.fewN l = R at *
  clear hx ha hg l0 hm0 hall
  go_enter Try.func10, Try.ntmps10
  go_wp2_with fail
  refine HGI.out.mono ?_
  rintro e w1 ⟨rfl, hw1⟩
  obtain rfl : w = w1 := hw1.symm
  go_wp2_with fail
  refine HGF.out.mono ?_
  rintro e w1 ⟨ag, cg, rfl, hcg, rg, hb1⟩
  have HB1 := hide hb1
  have HRG := hide fun (W : World) (h : Below w1.heap.size w1 W) => rg.below h
  clear hb1 rg HGF HGI
  go_wp2_with fail
  refine (HLB.out _ (HA.out _ HB1.out)).mono ?_
  rintro e w2 ⟨rfl, hw2⟩
  obtain rfl : w1 = w2 := hw2.symm
  clear HLB
  go_wp2_with fail
  go_loopw [5] (fun s5 wr => ∃ m : Nat, s5 = .int .i64 m ∧ m ≤ n ∧ Hid (∀ q, q < m → ¬ It.Fit l (It.twenty q)) ∧ Hid (Below w1.heap.size w1 wr)) (fun s5 _ => n - (intOf s5).toNat)
  case atStart => exact ⟨m0, rfl, by omega, hide fun q hq h => by have := HLE.out q h; omega, hide (Below.refl _ _)⟩
  case round =>
    obtain ⟨m, rfl, hm, HNO, HB⟩ := hrel
    have HA2 := hide (below_alloc wr (.cells #[.int .i64 20] 3))
    have q1 : (wr.alloc (.cells #[.int .i64 20] 3)).cell? ⟨wr.heap.size, 0, none⟩ = some (.int .i64 20) := by simp
    have HRP := hide (rp12 (B := wr.heap.size) (n := m) (w := wr.alloc (.cells #[.int .i64 20] 3)) (by omega) q1 (by simp))
    clear q1
    go_wp2_with fail
    refine HRP.out.mono ?_
    rintro e w3 ⟨rfl, hb3, own3⟩
    have hb3' : Below wr.heap.size wr w3 := HA2.out.trans (hb3.mono HA2.out.size)
    have B3 := hide (HB.out.trans (hb3'.mono HB.out.size))
    have hsz : (wr.alloc (.cells #[.int .i64 20] 3)).heap.size = wr.heap.size + 1 := by simp
    rw [hsz] at own3
    have HCF := hide (cf12 (wr.heap.size + 1) m m (wr.heap.size + 1) (gfL l) ag n cg (It.twenty m) w3 HGL.out (by omega) hcg HSZ.out (It.twenty_len m) (by omega) (It.twenty_pos m) (fun b hb => by rw [It.twenty_at hb]; exact Int.le_refl _) (((HRG.out _ HB.out).far (Nat.le_succ _)).below hb3') own3)
    obtain ⟨T, hT⟩ : ∃ T, It.canB ((gfL l).map Prod.snd) (It.twenty m) = T := ⟨_, rfl⟩
    rw [hT] at HCF
    have HT := hide hT
    rw [hsz]
    clear hb3 own3 HRP HA2 hT hsz
    go_wp2_with fail
    refine HCF.out.mono ?_
    rintro e w4 ⟨rfl, _, hg4⟩
    have hz := hb3'.size
    have B4 := hide (B3.out.trans ⟨hg4.os, hg4.tape, hg4.output, hg4.size, fun b hb => hg4.block b (by have := B3.out.size; omega) (by have := HB.out.size; simp; omega)⟩)
    clear hb3' hg4 HCF B3 hz
    cases T
    · have HN1 : Hid (∀ q, q < m + 1 → ¬ It.Fit l (It.twenty q)) := hide fun q hq h => by
        by_cases e : q = m
        · subst e
          have := (HF.out q).2 h
          rw [HT.out] at this; cases this
        · exact HNO.out q (by omega) h
      have hmn : m < n := by
        rcases Nat.lt_or_ge m n with h | h
        · exact h
        · exact absurd HALL.out (HN1.out n (by omega))
      go_wp2_with fail
      go_roundw
      case rel => exact ⟨m + 1, by go_num, by omega, HN1, B4⟩
      case measure => simp only [intOf]; omega
    · have HE := hide (HFW.out m ((HF.out m).1 HT.out) HNO.out)
      go_wp2_with fail
      refine bodyPost_ret (v := .tuple #[.int .i64 (m : Nat), .bool true]) (by simp [results, Try.results10, go_sem]) rfl ?_
      exact ⟨by rw [HE.out], HB1.out.trans (B4.out.mono HB1.out.size)⟩
theorem fb_w {a : Option Addr} {n c : Nat} {l : List Int} {w : World} (hx : l.length = n) (ha : ARow w a l) :
    Calls Try.prog 10 #[.slice a n c] w fun e w' => e = .returned (.tuple #[.int .i64 (It.fbI l), .bool (It.goodB l)]) ∧ Below w.heap.size w w' := by
  unfold It.fbI
  cases hg : It.goodB l
  · exact fb_no hx hg ha
  · exact fb_yes hx hg ha
end Go.Proofs.Ytnchkgblpnompaa
