/-
  What FewestBoxes of the program answers.
-/
import Derived.Test.YtoalcmfpbjmapaaIi12
import Derived.Test.YtoalcmfpbjmapaaIj12
import Derived.Test.YtoalcmfpbjmapaaIk12
import Derived.Test.YtoalcmfpbjmapaaWn12
namespace Go.Proofs.Ytoalcmfpbjmapaa
open Go.RowKit

theorem gfL_sizes (l : List Int) : ((gfL l).map Prod.snd).Perm l := by
  have : (gfL l).map Prod.snd = (Rk.rank l).map fun i => l.getD i 0 := by simp [gfL, Function.comp_def]
  rw [this]
  exact It.rank_sizes l
theorem can_gf {l : List Int} (hg : It.goodB l = true) (m : Nat) : It.canB ((gfL l).map Prod.snd) (It.twenty m) = true ↔ It.Fit l (It.twenty m) := by
  rw [It.can_iff (fun x hx => It.good_pos hg x ((gfL_sizes l).subset hx)) (It.twenty_pos m)]
  exact ⟨fun h => h.perm (gfL_sizes l), fun h => h.perm (gfL_sizes l).symm⟩
set_option maxHeartbeats 2000000 in
theorem fb_no {a : Option Addr} {n c : Nat} {l : List Int} {w : World} (hx : l.length = n) (hg : It.goodB l = false) (ha : ARow w a l) :
    Calls Try.prog 22 #[.slice a n c] w fun e w' => e = .returned (.tuple #[.int .i64 0, .bool false]) ∧ Below w.heap.size w w' := by
  have HX := hide hx
  have HA := hide ha
  have HG := hide hg
  clear hx ha hg
  go_enter Try.func22, Try.ntmps22
  go_wp2_with fail
  refine (gi_eq HX HA HG).mono ?_
  rintro e w1 ⟨rfl, rfl⟩
  go_wp2_with fail
  refine bodyPost_ret (v := .tuple #[.int .i64 0, .bool false]) (by simp [results, Try.results22, go_sem]) rfl ?_
  exact ⟨rfl, Below.refl _ _⟩
set_option maxHeartbeats 4000000 in
theorem fb_yes {a : Option Addr} {n c : Nat} {l : List Int} {w : World} (hx : l.length = n) (hg : It.goodB l = true) (ha : ARow w a l) :
    Calls Try.prog 22 #[.slice a n c] w fun e w' => e = .returned (.tuple #[.int .i64 (It.fewN l : Nat), .bool true]) ∧ Below w.heap.size w w' := by
  have HX := hide hx
  have HG := hide hg
  have HA := hide fun (W : World) (h : Below w.heap.size w W) => ha.below h
  have h9 : n ≤ 9 := by have := It.good_len hg; omega
  have HGI := hide (gi_eq (c := c) HX (hide ha) HG)
  have HGF := hide (gf_any (c := c) hx (by omega) ha)
  have HLB := hide fun (W : World) (h : ARow W a l) => lb_any (c := c) HX (hide h) HG
  have hall : It.Fit l (It.twenty n) := by rw [← hx]; exact It.fit_all l (It.good_all20 hg)
  have l0 := It.lb_nonneg hg
  have l1 := It.lb_le hg hall
  have HLE := hide fun m (h : It.Fit l (It.twenty m)) => It.lb_le hg h
  obtain ⟨m0, hm0⟩ : ∃ m0 : Nat, It.lbI l = (m0 : Int) := ⟨(It.lbI l).toNat, by omega⟩
  rw [hm0] at l1 HLB HLE
  have HF := hide fun m => can_gf hg m
  have HFW := hide fun m (h1 : It.Fit l (It.twenty m)) (h2 : ∀ q, q < m → ¬ It.Fit l (It.twenty q)) => It.few_of (It.good_all20 hg) ⟨h1, fun q hq => Nat.le_of_not_lt fun hlt => h2 q hlt hq⟩
  have HALL := hide hall
  have HSZ : Hid (∀ x ∈ gfL l, 1 ≤ x.2 ∧ x.2 ≤ 20) := hide fun x hx' => It.good_mem hg ((gfL_sizes l).subset (List.mem_map.2 ⟨x, hx', rfl⟩))
  have HGL : Hid ((gfL l).length = n) := hide (by rw [gfL_len, hx])
  generalize It.fewN l = R at *
  clear hx ha hg l0 hm0 hall
  go_enter Try.func22, Try.ntmps22
  go_wp2_with fail
  refine HGI.out.mono ?_
  rintro e w1 ⟨rfl, hw1⟩
  obtain rfl : w = w1 := hw1.symm
  go_wp2_with fail
  refine HGF.out.mono ?_
  rintro e w1 ⟨ag, cg, rfl, hcg, rg, hb1⟩
  have HB1 := hide hb1
  have HRG := hide fun (W : World) (h : Below w1.heap.size w1 W) => rg.below h
  clear hb1 rg HGF HGI
  go_wp2_with fail
  refine (HLB.out _ (HA.out _ HB1.out)).mono ?_
  rintro e w2 ⟨rfl, hw2⟩
  obtain rfl : w1 = w2 := hw2.symm
  clear HLB
  go_wp2_with fail
  go_loopw [5] (fun s5 wr => ∃ m : Nat, s5 = .int .i64 m ∧ m ≤ n ∧ Hid (∀ q, q < m → ¬ It.Fit l (It.twenty q)) ∧ Hid (Below w1.heap.size w1 wr)) (fun s5 _ => n - (intOf s5).toNat)
  case atStart => exact ⟨m0, rfl, by omega, hide fun q hq h => by have := HLE.out q h; omega, hide (Below.refl _ _)⟩
  case round =>
    obtain ⟨m, rfl, hm, HNO, HB⟩ := hrel
    have HA2 := hide (below_alloc wr (.cells #[.int .i64 20] 3))
    have q1 : (wr.alloc (.cells #[.int .i64 20] 3)).cell? ⟨wr.heap.size, 0, none⟩ = some (.int .i64 20) := by simp
    have HRP := hide (rp12 (B := wr.heap.size) (n := m) (w := wr.alloc (.cells #[.int .i64 20] 3)) (by omega) q1 (by simp))
    clear q1
    go_wp2_with fail
    refine HRP.out.mono ?_
    rintro e w3 ⟨rfl, hb3, own3⟩
    have hb3' : Below wr.heap.size wr w3 := HA2.out.trans (hb3.mono HA2.out.size)
    have B3 := hide (HB.out.trans (hb3'.mono HB.out.size))
    have hsz : (wr.alloc (.cells #[.int .i64 20] 3)).heap.size = wr.heap.size + 1 := by simp
    rw [hsz] at own3
    have HCF := hide (cf12 (wr.heap.size + 1) m m (wr.heap.size + 1) (gfL l) ag n cg (It.twenty m) w3 HGL.out (by omega) hcg HSZ.out (It.twenty_len m) (by omega) (It.twenty_pos m) (fun b hb => by rw [It.twenty_at hb]; exact Int.le_refl _) (((HRG.out _ HB.out).far (Nat.le_succ _)).below hb3') own3)
    obtain ⟨T, hT⟩ : ∃ T, It.canB ((gfL l).map Prod.snd) (It.twenty m) = T := ⟨_, rfl⟩
    rw [hT] at HCF
    have HT := hide hT
    rw [hsz]
    clear hb3 own3 HRP HA2 hT hsz
    go_wp2_with fail
    refine HCF.out.mono ?_
    rintro e w4 ⟨rfl, _, hg4⟩
    have hz := hb3'.size
    have B4 := hide (B3.out.trans ⟨hg4.os, hg4.tape, hg4.output, hg4.size, fun b hb => hg4.block b (by have := B3.out.size; omega) (by have := HB.out.size; simp; omega)⟩)
    clear hb3' hg4 HCF B3 hz
    cases T
    · have HN1 : Hid (∀ q, q < m + 1 → ¬ It.Fit l (It.twenty q)) := hide fun q hq h => by
        by_cases e : q = m
        · subst e
          have := (HF.out q).2 h
          rw [HT.out] at this; cases this
        · exact HNO.out q (by omega) h
      have hmn : m < n := by
        rcases Nat.lt_or_ge m n with h | h
        · exact h
        · exact absurd HALL.out (HN1.out n (by omega))
      go_wp2_with fail
      go_roundw
      case rel => exact ⟨m + 1, by go_num, by omega, HN1, B4⟩
      case measure => simp only [intOf]; omega
    · have HE := hide (HFW.out m ((HF.out m).1 HT.out) HNO.out)
      go_wp2_with fail
      refine bodyPost_ret (v := .tuple #[.int .i64 (m : Nat), .bool true]) (by simp [results, Try.results22, go_sem]) rfl ?_
      exact ⟨by rw [HE.out], HB1.out.trans (B4.out.mono HB1.out.size)⟩
theorem fb_w {a : Option Addr} {n c : Nat} {l : List Int} {w : World} (hx : l.length = n) (ha : ARow w a l) :
    Calls Try.prog 22 #[.slice a n c] w fun e w' => e = .returned (.tuple #[.int .i64 (It.fbI l), .bool (It.goodB l)]) ∧ Below w.heap.size w w' := by
  unfold It.fbI
  cases hg : It.goodB l
  · exact fb_no hx hg ha
  · exact fb_yes hx hg ha
end Go.Proofs.Ytoalcmfpbjmapaa
