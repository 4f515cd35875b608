/-
  What OrderFor answers, the program's and the model's: the most used at the nearest.
-/
import Derived.Test.YtlbagigghpiifaaHc
import Derived.Test.YtlbagigghpiifaaHv
import Derived.Test.YtlbagigghpiifaaPf1
namespace Go.Proofs.Ytlbagigghpiifaa
open Go.RowKit Go.Sort

theorem rk_nth_lt {vs : List Int} {k : Nat} (hk : k < vs.length) : (Rk.rank vs).getD k 0 < vs.length := by
  have hl : k < (Rk.rank vs).length := by rw [Rk.rank_len]; exact hk
  rw [Pf.getD_lt _ 0 hl]
  exact Rk.rank_mem (List.getElem_mem hl)
/-- Goods put at places, one by one. -/
def putTo (gs ps : List Nat) (n : Nat) : Nat → List Int
  | 0 => List.replicate n 0
  | k + 1 => (putTo gs ps n k).set (ps.getD k 0) ((gs.getD k 0 : Nat) : Int)
theorem putTo_len (gs ps : List Nat) (n : Nat) : ∀ k, (putTo gs ps n k).length = n
  | 0 => by simp [putTo]
  | k + 1 => by simp [putTo, putTo_len gs ps n k]
theorem ints_app7 (xs ys : List Int) : ints (xs ++ ys) = ints xs ++ ints ys := by simp [ints]
def negs (ws : List Int) : List Int := ws.map fun x => -x
theorem negs_len (ws : List Int) : (negs ws).length = ws.length := by simp [negs]
theorem negs_val (ws : List Int) (i : Nat) : Rk.val (negs ws) i = - ws.getD i 0 := by
  simp only [Rk.val, negs, List.getD_eq_getElem?_getD, List.getElem?_map]
  cases ws[i]? <;> simp
/-- The order with the most used at the nearest. -/
def ofL (us ws : List Int) : List Int := putTo (Rk.rank us) (Rk.rank (negs ws)) us.length us.length
theorem ofL_len (us ws : List Int) : (ofL us ws).length = us.length := putTo_len _ _ _ _
theorem cmp_negs (ws : List Int) (i j : Nat) : cmpI (ws.getD i 0) (ws.getD j 0) = cmpI (Rk.val (negs ws) j) (Rk.val (negs ws) i) := by
  rw [negs_val, negs_val]; unfold cmpI
  simp only [Int.neg_lt_neg_iff]
theorem own_at7 {w : World} {base n g cap : Nat} {xs : List Value} (h : w.ownsRow base 3 1 (.slice (some ⟨g, 0, none⟩) n cap) n xs) : base ≤ g ∧ g < w.heap.size := by
  rcases h.2 with ⟨h0, _⟩ | ⟨g', cap', cur, hv, h2, h3, _⟩
  · cases h0
  · cases hv; exact ⟨h2, (Array.getElem?_eq_some_iff.1 h3).1⟩
theorem own_any7 {w : World} {base n : Nat} {v : Value} {xs : List Int} (hx : xs.length = n) (h : w.ownsRow base 3 1 v n (ints xs)) : ∃ a cap, v = .slice a n cap ∧ ARow w a xs := by
  rcases h.2 with ⟨rfl, hn⟩ | ⟨g, cap, cur, rfl, _⟩
  · subst hn; exact ⟨none, 0, rfl, Or.inl (List.length_eq_zero_iff.1 hx)⟩
  · exact ⟨_, _, rfl, arow_owns hx.symm h⟩
/-- A list that a call made, in a block of its own. -/
def Ow (w : World) (g n : Nat) (xs : List Int) : Prop := g < w.heap.size ∧ ∃ base, base ≤ g ∧ w.ownsRow base 3 1 (.slice (some ⟨g, 0, none⟩) n n) n (ints xs)
theorem Ow.below {w w' : World} {g n : Nat} {xs : List Int} (h : Ow w g n xs) (hb : Below w.heap.size w w') : Ow w' g n xs := by
  obtain ⟨h1, base, h2, h3⟩ := h
  exact ⟨Nat.lt_of_lt_of_le h1 hb.size, base, h2, owns_keep h3 (hb.block g h1)⟩
theorem Ow.grown {w w' : World} {g n q : Nat} {xs : List Int} (h : Ow w g n xs) (hg : w.grownBy w' (some q)) (hne : g ≠ q) : Ow w' g n xs := by
  obtain ⟨h1, base, h2, h3⟩ := h
  exact ⟨Nat.lt_of_lt_of_le h1 hg.size, base, h2, owns_keep h3 (hg.block g h1 (by simpa using hne))⟩
theorem Ow.row {w : World} {g n : Nat} {xs : List Int} (h : Ow w g n xs) (hx : xs.length = n) : ARow w (some ⟨g, 0, none⟩) xs := by
  obtain ⟨_, base, _, h3⟩ := h
  exact arow_owns hx.symm h3
theorem Ow.mk' {w : World} {base g n : Nat} {xs : List Int} (h : w.ownsRow base 3 1 (.slice (some ⟨g, 0, none⟩) n n) n (ints xs)) : Ow w g n xs ∧ base ≤ g := by
  obtain ⟨h1, h2⟩ := own_at7 h
  exact ⟨⟨h2, base, h1, h⟩, h1⟩
set_option maxHeartbeats 1000000 in
theorem near_any {W : World} {B b off c n i j : Nat} {x y : Int} (hi : i < n) (hj : j < n) (hB : W.cell? ⟨B, 0, none⟩ = some (.slice (some ⟨b, off, none⟩) n c))
    (hx : W.cell? ⟨b, off + i, none⟩ = some (.int .i64 x)) (hy : W.cell? ⟨b, off + j, none⟩ = some (.int .i64 y)) :
    Calls Try.prog 64 #[.int .i64 i, .int .i64 j, .pointer (some ⟨B, 0, none⟩)] W fun e w' => e = .returned (.int .i64 (cmpI x y)) ∧ ∃ q, w' = W.drewN q := by
  have i0 : (0 : Int) ≤ (i : Int) := by omega
  have i1 : (i : Int) < (n : Int) := by omega
  have j0 : (0 : Int) ≤ (j : Int) := by omega
  have j1 : (j : Int) < (n : Int) := by omega
  clear hi hj
  go_enter Try.func64, Try.ntmps64
  go_wp2_with fail
  go_quiet ((go_at_call 65; exact Calls.quiet_of_same (compare_any _ _ _)))
  go_wp2_with fail
  go_ret
  exact ⟨rfl, _, rfl⟩
theorem near_cmp {a : Option Addr} {n c : Nat} {ws : List Int} {w : World} (hv : ws.length = n) (ha : ARow w a ws) :
    CmpBy 64 #[.pointer (some ⟨w.heap.size, 0, none⟩)] (negs ws) (w.heap.size + 1) (w.alloc (.cells #[.slice a n c] 22)) := by
  intro W hW i j hi hj
  rw [negs_len] at hi hj
  obtain ⟨b, off, rfl, hb, hc⟩ : ∃ b off, a = some ⟨b, off, none⟩ ∧ b < w.heap.size ∧ ∀ i, i < ws.length → w.cell? ⟨b, off + i, none⟩ = some (.int .i64 (ws.getD i 0)) := by
    rcases ha with h | h
    · rw [h] at hi; simp at hi
    · exact h
  have hB : W.cell? ⟨w.heap.size, 0, none⟩ = some (.slice (some ⟨b, off, none⟩) n c) := (hW _ _ (by simp) (by omega)).trans (by simp)
  have hx : ∀ k, k < ws.length → W.cell? ⟨b, off + k, none⟩ = some (.int .i64 (ws.getD k 0)) := fun k hk =>
    (hW _ _ (by simp; omega) (by omega)).trans ((((Below.refl w.heap.size w).alloc (Nat.le_refl _) _).cell (p := ⟨b, off + k, none⟩) hb).trans (hc k hk))
  rw [← cmp_negs]
  exact near_any (by omega) (by omega) hB (hx i hi) (hx j hj)
set_option maxHeartbeats 2000000 in
/-- The slots from the nearest one on. -/
theorem nf_any {a : Option Addr} {n c : Nat} {ws : List Int} {w : World} (hv : ws.length = n) (hn : n ≤ 12) (ha : ARow w a ws) :
    Calls Try.prog 43 #[.slice a n c] w fun e w' => e = .returned (.slice (some ⟨w.heap.size + 1, 0, none⟩) n n) ∧ Below w.heap.size w w' ∧ w'.ownsRow w.heap.size 3 1 (.slice (some ⟨w.heap.size + 1, 0, none⟩) n n) n (ints (nats (Rk.rank (negs ws)))) := by
  have HS := hide (sn_any (w := w.alloc (.cells #[.slice a n c] 22)) (cb := #[.pointer (some ⟨w.heap.size, 0, none⟩)]) (vs := negs ws) (by rw [negs_len]; exact hv) hn (enters_of Try.func64 (by kernel_rfl) rfl) (by simpa using near_cmp (c := c) hv ha))
  have hB := (Below.refl w.heap.size w).alloc (Nat.le_refl _) (.cells #[.slice a n c] 22)
  have hsz : (w.alloc (.cells #[.slice a n c] 22)).heap.size = w.heap.size + 1 := by simp
  rw [hsz] at HS
  have HB := hide hB
  have HZ := hide hsz
  clear hv ha hB hsz
  go_enter Try.func43, Try.ntmps43
  go_wp2_with fail
  refine HS.out.mono ?_
  rintro e w1 ⟨rfl, hb1, own1⟩
  go_wp2_with fail
  go_ret
  exact ⟨rfl, HB.out.trans (hb1.mono (by omega)), owns_base own1 (by omega)⟩
theorem negs_step (ws : List Int) {k : Nat} (h : k < ws.length) : ints ((negs ws).take (k + 1)) = ints ((negs ws).take k) ++ [.int .i64 (- ws.getD k 0)] := by
  rw [List.take_add_one, ints_app7]
  congr 1
  simp [negs, h, ints]
end Go.Proofs.Ytlbagigghpiifaa
