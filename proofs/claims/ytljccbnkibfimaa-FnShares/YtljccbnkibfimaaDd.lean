/-
  What sameInts of the laws answers over lists of whole numbers in memory.
-/
import Derived.Test.YtljccbnkibfimaaSn
import Derived.Test.YtljccbnkibfimaaDc
import Derived.Test.YtljccbnkibfimaaSp
import Derived.Test.YtljccbnkibfimaaOa
namespace Go.Proofs.Ytljccbnkibfimaa
open Go.RowKit

set_option maxRecDepth 100000 in
set_option maxHeartbeats 400000 in
theorem sameI_zero (a b : Option Addr) (c d : Nat) (w : World) :
    Calls Try.prog 11 #[.slice a 0 c, .slice b 0 d] w fun e w' => e = .returned (.bool true) ∧ w' = w := by
  go_enter Try.func11, Try.ntmps11
  go_wp2_with fail
  go_loop [13] (fun s => s = .int .i64 0) (fun s => 0)
  case atStart => rfl
  case round =>
    subst hrel
    go_wp2_with fail
    go_ret
    exact ⟨rfl, rfl⟩
set_option maxRecDepth 100000 in
set_option maxHeartbeats 1000000 in
theorem sameI_some (xs : List Int) (b o c b' o' c' : Nat) (w : World) (hl : xs.length ≤ 4000000000000) (h1 : ∀ i, i < xs.length → w.cell? ⟨b, o + i, none⟩ = some (.int .i64 (xs.getD i 0))) (h2 : ∀ i, i < xs.length → w.cell? ⟨b', o' + i, none⟩ = some (.int .i64 (xs.getD i 0))) :
    Calls Try.prog 11 #[.slice (some ⟨b, o, none⟩) xs.length c, .slice (some ⟨b', o', none⟩) xs.length c'] w fun e w' => e = .returned (.bool true) ∧ ∃ m, w' = w.drewN m := by
  have hne : ((xs.length : Int) != (xs.length : Int)) = false := by simp
  have H1 := hide h1
  have H2 := hide h2
  clear h1 h2
  go_enter Try.func11, Try.ntmps11
  go_wp2_with fail
  go_loopw [13] (fun s wr => ∃ k : Nat, s = .int .i64 k ∧ k ≤ xs.length ∧ ∃ m, wr = w.drewN m) (fun s _ => xs.length - (intOf s).toNat)
  case atStart => exact ⟨0, rfl, Nat.zero_le _, 0, rfl⟩
  case round =>
    obtain ⟨k, rfl, hk, m, rfl⟩ := hrel
    by_cases hlt : k < xs.length
    · have r1 := H1.out k hlt
      have r2 := H2.out k hlt
      have i0 : (0 : Int) ≤ (k : Int) := by omega
      have i1 : (k : Int) < (xs.length : Int) := by omega
      generalize xs.getD k 0 = x at *
      have hxx : (x != x) = false := by simp
      go_wp2_with fail
      go_region
      go_wp2_with fail
      exact ⟨⟨k + 1, by go_num, by omega, m + 1, rfl⟩, by simp only [intOf]; omega⟩
    · go_wp2_with fail
      go_ret
      exact ⟨rfl, m, rfl⟩
theorem sameI_b {a b : Option Addr} {c d n : Nat} {xs : List Int} {w : World} (hn : xs.length = n) (hl : n ≤ 1048576) (h1 : ARow w a xs) (h2 : ARow w b xs) :
    Calls Try.prog 11 #[.slice a n c, .slice b n d] w fun e w' => e = .returned (.bool true) ∧ Below w.heap.size w w' := by
  subst hn
  rcases h1 with rfl | ⟨b1, o1, rfl, hb1, c1⟩
  · exact (sameI_zero a b c d w).mono fun e w' ⟨h, hw⟩ => ⟨h, hw ▸ Below.refl _ _⟩
  · rcases h2 with rfl | ⟨b2, o2, rfl, hb2, c2⟩
    · exact (sameI_zero _ b c d w).mono fun e w' ⟨h, hw⟩ => ⟨h, hw ▸ Below.refl _ _⟩
    · exact (sameI_some xs b1 o1 c b2 o2 d w (by omega) c1 c2).mono fun e w' ⟨h, m, hw⟩ => ⟨h, hw ▸ below_drewN (Below.refl _ _) m⟩
/-- Counts moved from one kind to another one. -/
theorem moved {n : Nat} {ys : List Int} {A B : Nat} (hl : ys.length = n) (h1 : ∀ i, i < n → 1 ≤ ys.getD i 0) (hA : A < n) (hB : B < n) (h2 : 1 < ys.getD A 0) :
    let zs := (ys.set A (ys.getD A 0 - 1)).set B ((ys.set A (ys.getD A 0 - 1)).getD B 0 + 1)
    zs.length = n ∧ (∀ i, i < n → 1 ≤ zs.getD i 0) ∧ zs.sum = ys.sum := by
  refine ⟨by simp [hl], fun i hi => ?_, ?_⟩
  · rw [Sh.set_get _ _ _ _ (by simp; omega), Sh.set_get _ _ _ _ (by omega), Sh.set_get _ _ _ _ (by omega)]
    have := h1 i hi
    have := h1 B hB
    split <;> split <;> omega
  · rw [Sh.set_sum _ _ _ (by simp; omega), Sh.set_sum _ _ _ (by omega)]
    omega
theorem share_step (fs : List Int) (h : 0 < fs.length) (t k : Nat) : (Sh.share fs t).getD k 0 ≤ (Sh.share fs (t + 1)).getD k 0 := by
  rw [Sh.share, Sh.set_get _ _ _ _ (by rw [Sh.share_len]; exact Sh.next_lt _ h)]
  split
  · rename_i e; subst e; omega
  · exact Int.le_refl _
end Go.Proofs.Ytljccbnkibfimaa
