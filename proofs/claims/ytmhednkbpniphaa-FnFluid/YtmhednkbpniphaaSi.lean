/-
  What countsFor of the program, l4Share of the model, and both ShareOut answer: counts in memory of their own.
-/
import Derived.Test.YtmhednkbpniphaaSd
import Derived.Test.YtmhednkbpniphaaYf
namespace Go.Proofs.Ytmhednkbpniphaa
open Go.RowKit

theorem infI : (Try.prog.info? 3).map (fun i => (i.zero, i.size, i.bytes)) = some (some (.int .i64 0), 1, 8) := by kernel_rfl
theorem intI_cells (xs : List Int) : ∀ u ∈ ints xs, u.oneCell' = true := by
  intro u hu
  simp only [ints, List.mem_map] at hu
  obtain ⟨x, _, rfl⟩ := hu; rfl
theorem newI_one (w : World) (x : Int) {H : Nat} (hH : w.heap.size = H) : ∀ (j : Nat) (u : Value), (ints [x])[j]? = some u → (w.alloc (.cells #[.int .i64 x] 3)).cell? ((⟨H, 0, none⟩ : Addr).add j) = some u := by
  intro j u hj
  subst hH
  match j, hj with
  | 0, hj => simp [ints] at hj; subst hj; simp [Addr.add]
theorem own_some {w : World} {base e s n : Nat} {v : Value} {xs : List Value} (h : w.ownsRow base e s v n xs) (hn : n ≠ 0) : ∃ g cap, v = .slice (some ⟨g, 0, none⟩) n cap ∧ base ≤ g ∧ g < w.heap.size := by
  rcases h.2 with ⟨_, h0⟩ | ⟨g, cap, cur, hv, hb, hg, _⟩
  · exact absurd h0 hn
  · exact ⟨g, cap, hv, hb, (Array.getElem?_eq_some_iff.1 hg).1⟩
theorem ones_snoc (k : Nat) : ints (List.replicate (k + 1) 1) = ints (List.replicate k 1) ++ ints [1] := by
  rw [List.replicate_succ']; simp [ints]
theorem ones_set (ys : List Int) (k n : Nat) (hy : ys.length = n) (hk : k < n) (h : ys.take k = List.replicate k 1) : (ys.set k 1).take (k + 1) = List.replicate (k + 1) 1 := by
  rw [List.take_add_one, List.take_set_of_le (Nat.le_refl _), h, List.replicate_succ']
  congr 1
  simp [hk, hy]
/-- One more for the kind with the greatest gain, in an owned list. -/
theorem more_own {w : World} {base g n cap : Nat} {fs : List Int} {K : Nat} (hn : fs.length = n) (h0 : 0 < n) (own : w.ownsRow base 3 1 (.slice (some ⟨g, 0, none⟩) n cap) n (ints (Sh.share fs K))) :
    ∃ j x, Sh.next fs (Sh.share fs K) = j ∧ j < n ∧ w.cell? ⟨g, j, none⟩ = some (.int .i64 x) ∧ w.frozen? ⟨g, j, none⟩ = false ∧ x = (Sh.share fs K).getD j 0 ∧
      (w.setCell ⟨g, j, none⟩ (.int .i64 (x + 1))).ownsRow base 3 1 (.slice (some ⟨g, 0, none⟩) n cap) n (ints (Sh.share fs (K + 1))) := by
  have hl := Sh.next_lt (Sh.share fs K) (show 0 < fs.length by omega)
  have hsl := Sh.share_len fs K
  refine ⟨_, _, rfl, by omega, ?_, own.frozenAt _, rfl, ?_⟩
  · rw [own.cellAt _ (by omega), ints_get _ _ (by omega)]
  · obtain ⟨st1, st2⟩ := own.stored (Sh.next fs (Sh.share fs K)) (.int .i64 ((Sh.share fs K).getD (Sh.next fs (Sh.share fs K)) 0 + 1))
    rw [ints_set] at st1
    exact st1

def shareL (fs : List Int) (p : Int) : List Int := Sh.share fs (p - fs.length).toNat
theorem shareL_of {fs : List Int} {n K : Nat} {p : Int} (hn : Hid (fs.length = n)) (hK : (K : Int) = p - n) : Sh.share fs K = shareL fs p := by
  unfold shareL; rw [hn.out, ← hK]; rfl
theorem shareL_len (fs : List Int) (p : Int) : (shareL fs p).length = fs.length := Sh.share_len _ _
end Go.Proofs.Ytmhednkbpniphaa
