/-
  What the drawn laws of chapter 8 lean on: sameInts and has of the laws, and what holds of the answers.
-/
import Derived.Test.YtfmdahpldjkifaaJu
import Derived.Test.YtfmdahpldjkifaaJr
import Derived.Test.YtfmdahpldjkifaaJg
import Derived.Test.YtfmdahpldjkifaaJt
namespace Go.Proofs.Ytfmdahpldjkifaa
open Go.RowKit

set_option maxRecDepth 100000 in
set_option maxHeartbeats 400000 in
theorem sam8_zero (a b : Option Addr) (c d : Nat) (w : World) :
    Calls Try.prog 10 #[.slice a 0 c, .slice b 0 d] w fun e w' => e = .returned (.bool true) ∧ w' = w := by
  go_enter Try.func10, Try.ntmps10
  go_wp2_with fail
  go_loop [13] (fun s => s = .int .i64 0) (fun s => 0)
  case atStart => rfl
  case round =>
    subst hrel
    go_wp2_with fail
    go_ret
    exact ⟨rfl, rfl⟩
set_option maxRecDepth 100000 in
set_option maxHeartbeats 1000000 in
theorem sam8_some (xs : List Int) (b o c b' o' c' : Nat) (w : World) (hl : xs.length ≤ 4000000000000) (h1 : ∀ i, i < xs.length → w.cell? ⟨b, o + i, none⟩ = some (.int .i64 (xs.getD i 0))) (h2 : ∀ i, i < xs.length → w.cell? ⟨b', o' + i, none⟩ = some (.int .i64 (xs.getD i 0))) :
    Calls Try.prog 10 #[.slice (some ⟨b, o, none⟩) xs.length c, .slice (some ⟨b', o', none⟩) xs.length c'] w fun e w' => e = .returned (.bool true) ∧ ∃ m, w' = w.drewN m := by
  have hne : ((xs.length : Int) != (xs.length : Int)) = false := by simp
  have H1 := hide h1
  have H2 := hide h2
  clear h1 h2
  go_enter Try.func10, Try.ntmps10
  go_wp2_with fail
  go_loopw [13] (fun s wr => ∃ k : Nat, s = .int .i64 k ∧ k ≤ xs.length ∧ ∃ m, wr = w.drewN m) (fun s _ => xs.length - (intOf s).toNat)
  case atStart => exact ⟨0, rfl, Nat.zero_le _, 0, rfl⟩
  case round =>
    obtain ⟨k, rfl, hk, m, rfl⟩ := hrel
    by_cases hlt : k < xs.length
    · have r1 := H1.out k hlt
      have r2 := H2.out k hlt
      have i0 : (0 : Int) ≤ (k : Int) := by omega
      have i1 : (k : Int) < (xs.length : Int) := by omega
      generalize xs.getD k 0 = x at *
      have hxx : (x != x) = false := by simp
      go_wp2_with fail
      go_region
      go_wp2_with fail
      exact ⟨⟨k + 1, by go_num, by omega, m + 1, rfl⟩, by simp only [intOf]; omega⟩
    · go_wp2_with fail
      go_ret
      exact ⟨rfl, m, rfl⟩
theorem sam8 {a b : Option Addr} {c d n : Nat} {xs : List Int} {w : World} (hn : Hid (xs.length = n)) (hl : n ≤ 1048576) (h1 : ARow w a xs) (h2 : ARow w b xs) :
    Calls Try.prog 10 #[.slice a n c, .slice b n d] w fun e w' => e = .returned (.bool true) ∧ Below w.heap.size w w' := by
  have := hn.out
  subst this
  rcases h1 with rfl | ⟨b1, o1, rfl, hb1, c1⟩
  · exact (sam8_zero a b c d w).mono fun e w' ⟨h, hw⟩ => ⟨h, hw ▸ Below.refl _ _⟩
  · rcases h2 with rfl | ⟨b2, o2, rfl, hb2, c2⟩
    · exact (sam8_zero _ b c d w).mono fun e w' ⟨h, hw⟩ => ⟨h, hw ▸ Below.refl _ _⟩
    · exact (sam8_some xs b1 o1 c b2 o2 d w (by omega) c1 c2).mono fun e w' ⟨h, m, hw⟩ => ⟨h, hw ▸ below_drewN (Below.refl _ _) m⟩
set_option maxRecDepth 100000 in
set_option maxHeartbeats 1000000 in
theorem lhas_any {a : Option Addr} {n c : Nat} {xs : List Int} {x : Int} {w : World} (hx : xs.length = n) (hn : n ≤ 1000) (ha : ARow w a xs) :
    Calls Try.prog 14 #[.slice a n c, .int .i64 x] w fun e w' => e = .returned (.bool (xs.contains x)) ∧ w' = w := by
  have HA := hide ha
  have HX := hide hx
  clear ha hx
  go_enter Try.func14, Try.ntmps14
  go_wp2_with fail
  go_loop [4, 6, 9] (fun s4 _ s => ∃ (k : Nat), s4 = .bool false ∧ s = .int .i64 k ∧ k ≤ n ∧ Hid ((xs.take k).contains x = false)) (fun _ _ s => n - (intOf s).toNat)
  case atStart => exact ⟨0, rfl, rfl, Nat.zero_le _, hide (by simp)⟩
  case round =>
    obtain ⟨k, rfl, rfl, hk, HK⟩ := hrel
    by_cases hlt : k < n
    · obtain ⟨b, off, rfl, r1⟩ := HA.out.at (i := k) (by rw [HX.out]; exact hlt)
      have i0 : (0 : Int) ≤ (k : Int) := by omega
      have i1 : (k : Int) < (n : Int) := by omega
      have HS := hide (has_step (x := x) (by rw [HX.out]; exact hlt) HK.out)
      have HY := hide (has_yes (x := x) (k := k) (xs := xs) (by rw [HX.out]; exact hlt))
      generalize xs.getD k 0 = y at *
      cases hb : (y == x)
      · have H1 := hide (HS.out hb)
        go_wp2_with fail
        go_round
        case rel => exact ⟨k + 1, rfl, by go_num, by omega, H1⟩
        case measure => simp only [intOf]; omega
      · have H1 := hide (HY.out hb)
        go_wp2_with fail
        go_ret
        exact ⟨ret_bool (H1.out.symm.trans (List.contains_eq_mem ..)), rfl⟩
    · have hke : k = n := by omega
      subst hke
      have H1 := hide (show xs.contains x = false by have := HK.out; rwa [← HX.out, List.take_length] at this)
      go_wp2_with fail
      go_ret
      exact ⟨ret_bool (H1.out.symm.trans (List.contains_eq_mem ..)), rfl⟩
theorem lhas_eq {a : Option Addr} {n c : Nat} {xs : List Int} {x : Int} {w : World} {r : Bool} (hx : Hid (xs.length = n)) (hn : n ≤ 1000) (ha : Hid (ARow w a xs)) (h : Hid (xs.contains x = r)) :
    Calls Try.prog 14 #[.slice a n c, .int .i64 x] w fun e w' => e = .returned (.bool r) ∧ w' = w := h.out ▸ lhas_any hx.out hn ha.out
/-- What holds of a cover and a matching of good fits. -/
theorem co_facts {F : List (List Bool)} (h : Ma.goodB F = true) : Ma.cntB (mtL F) = true ∧ Ma.cntI (mtL F) = ((cvA F).length : Int) + ((cvB F).length : Int) ∧ Ma.icB F (cvA F) (cvB F) = true ∧ Ma.icI F (cvA F) (cvB F) = true := by
  have e0 : mtL F = Ma.mat F := by unfold mtL; rw [if_pos h]
  have e1 : cvA F = Ma.those (Ma.rL F (Ma.mat F)) false := by unfold cvA; rw [if_pos h]
  have e2 : cvB F = Ma.those (Ma.rB F (Ma.mat F)) true := by unfold cvB; rw [if_pos h]
  have hc := Ma.mat_cntB h (Ma.mat_is h)
  obtain ⟨k1, k2⟩ := Ma.cover_is h
  rw [e0, e1, e2]
  refine ⟨hc, ?_, k1, ?_⟩
  · unfold Ma.cntI; rw [if_pos hc, Ma.strong h]; simp
  · rw [icI_cov k1]; exact k2
theorem co_weak {F : List (List Bool)} {xs ys : List Int} (h1 : Ma.icB F xs ys = true) (h2 : Ma.icI F xs ys = true) : Ma.goodB F = true ∧ Ma.cntB (mtL F) = true ∧ Ma.cntI (mtL F) ≤ (xs.length : Int) + (ys.length : Int) := by
  have hg : Ma.goodB F = true := by simp only [Ma.icB, Bool.and_eq_true] at h1; exact h1.1
  have e0 : mtL F = Ma.mat F := by unfold mtL; rw [if_pos hg]
  have hc := Ma.mat_cntB hg (Ma.mat_is hg)
  rw [icI_cov h1] at h2
  have := Ma.weak (Ma.mat_is hg) h2
  rw [e0]
  refine ⟨hg, hc, ?_⟩
  unfold Ma.cntI; rw [if_pos hc]; omega
/-- What holds of the matching of good fits, and of any other. -/
theorem ma_facts {F : List (List Bool)} (h : Ma.goodB F = true) : Ma.imB F (mtL F) = true ∧ Ma.cntB (mtL F) = true ∧ (F.length : Int) - Ma.cntI (mtL F) = ((lkL F).length : Int) - ((cvB F).length : Int) := by
  have e0 : mtL F = Ma.mat F := by unfold mtL; rw [if_pos h]
  have e1 : lkL F = Ma.those (Ma.rL F (Ma.mat F)) true := by unfold lkL; rw [if_pos h]
  have e2 : cvB F = Ma.those (Ma.rB F (Ma.mat F)) true := by unfold cvB; rw [if_pos h]
  have hc := Ma.mat_cntB h (Ma.mat_is h)
  have s1 := Ma.come_len h
  have hl := (Ma.inv_mat h).mo.lm
  have s2 := Ma.ul_cnt (Ma.mat F) F.length (by omega)
  rw [← hl, Ma.cntTo_all, hl] at s2
  rw [e0, e1, e2]
  refine ⟨?_, hc, ?_⟩
  · unfold Ma.imB; rw [if_pos h]; exact Ma.mat_is h
  · unfold Ma.cntI; rw [if_pos hc]; omega
theorem ma_weak {F : List (List Bool)} {ms : List Int} (h1 : Ma.goodB F = true) (h2 : Ma.imB F ms = true) : Ma.cntB ms = true ∧ Ma.cntB (mtL F) = true ∧ Ma.cntI ms ≤ Ma.cntI (mtL F) := by
  have hm : Ma.matB F ms = true := by unfold Ma.imB at h2; rwa [if_pos h1] at h2
  have hc := Ma.mat_cntB h1 hm
  have e0 : mtL F = Ma.mat F := by unfold mtL; rw [if_pos h1]
  have hc2 := Ma.mat_cntB h1 (Ma.mat_is h1)
  rw [e0]
  refine ⟨hc, hc2, ?_⟩
  unfold Ma.cntI
  rw [if_pos hc, if_pos hc2, Ma.strong h1]
  have := Ma.weak hm (Ma.cover_is h1).2
  omega
end Go.Proofs.Ytfmdahpldjkifaa
