/-
  What DrawSumFracs hands out: some list of at most 51 fractions, in memory of its own.
-/
import Derived.Test.YtdmdhmcnedmnbaaJ
import Derived.Test.YtdmdhmcnedmnbaaS
import Derived.OwnWalk
import Derived.Laws.AppendOwn
namespace Go.Proofs.Ytdmdhmcnedmnbaa
open Go.RowKit

theorem Cur.of_blocks {w w' : World} {c len cap N : Nat} {a : Option Addr} (h : Cur w c a len cap N) (hs : w.heap.size ≤ w'.heap.size) (hc : w'.heap[c]? = w.heap[c]?)
    (hb : ∀ b off, a = some ⟨b, off, none⟩ → 0 < len → w'.heap[b]? = w.heap[b]?) : Cur w' c a len cap N := by
  obtain ⟨h0, h1, ⟨x, h2, h2'⟩, ⟨y, h3, h3', h3''⟩, h4, h5, h6, h7⟩ := h
  have ec : ∀ o, w'.cell? ⟨c, o, none⟩ = w.cell? ⟨c, o, none⟩ := fun o => World.cell?_of_block (w := w) hc
  have ef : ∀ o, w'.frozen? ⟨c, o, none⟩ = w.frozen? ⟨c, o, none⟩ := fun o => World.frozen?_of_block (w := w) hc
  refine ⟨Nat.lt_of_lt_of_le h0 hs, (ec 0).trans h1, ⟨x, (ec 1).trans h2, h2'⟩, ⟨y, (ec 2).trans h3, h3', h3''⟩, (ef 1).trans h4, (ef 2).trans h5, ?_, ?_⟩
  · rcases h6 with h | ⟨b, off, rfl, hbb⟩
    · exact Or.inl h
    · refine Or.inr ⟨b, off, rfl, fun i hi => ?_⟩
      obtain ⟨z, hz, hz'⟩ := hbb i hi
      exact ⟨z, (World.cell?_of_block (w := w) (hb b off rfl (by omega))).trans hz, hz'⟩
  · intro b off e hl
    obtain ⟨hne, hlt⟩ := h7 b off e hl
    exact ⟨hne, Nat.lt_of_lt_of_le hlt hs⟩

def flat : List (Int × Int) → List Value
  | [] => []
  | x :: r => .int .i64 x.1 :: .int .i64 x.2 :: flat r
theorem flat_len (xs : List (Int × Int)) : (flat xs).length = xs.length * 2 := by
  induction xs with
  | nil => rfl
  | cons x r ih => simp [flat, ih]; omega
theorem flat_snoc (xs : List (Int × Int)) (n d : Int) : flat (xs ++ [(n, d)]) = flat xs ++ [.int .i64 n, .int .i64 d] := by
  induction xs with
  | nil => rfl
  | cons x r ih => simp [flat, ih]
theorem flat_get (xs : List (Int × Int)) (i : Nat) (h : i < xs.length) : (flat xs)[i * 2]? = some (.int .i64 (xs.getD i (0, 0)).1) ∧ (flat xs)[i * 2 + 1]? = some (.int .i64 (xs.getD i (0, 0)).2) := by
  induction xs generalizing i with
  | nil => simp at h
  | cons x r ih =>
    cases i with
    | zero => simp [flat]
    | succ i =>
      have := ih i (by simpa using h)
      rw [show (i + 1) * 2 = i * 2 + 2 by omega]
      simpa [flat] using this

theorem row_of_owns {w : World} {base e : Nat} {v : Value} {xs : List (Int × Int)} (h : w.ownsRow base e 2 v xs.length (flat xs)) :
    (v = .slice none 0 0 ∧ xs = []) ∨ ∃ g cap, v = .slice (some ⟨g, 0, none⟩) xs.length cap ∧ base ≤ g ∧ g < w.heap.size ∧ xs.length ≤ cap ∧ RowAt w g 0 xs := by
  rcases h.2 with ⟨rfl, hn⟩ | ⟨g, cap, cur, rfl, hb, hg, hn, hm, hsz, htake⟩
  · exact Or.inl ⟨rfl, List.length_eq_zero_iff.1 hn⟩
  · refine Or.inr ⟨g, cap, rfl, hb, ?_, hn, ?_⟩
    · rcases Nat.lt_or_ge g w.heap.size with h' | h'
      · exact h'
      · rw [Array.getElem?_eq_none h'] at hg; cases hg
    · intro i hi
      have hcell : ∀ j, j < xs.length * 2 → w.cell? ⟨g, j, none⟩ = (flat xs)[j]? := by
        intro j hj
        rw [← htake, List.getElem?_take]
        simp [World.cell?, hg, hj]
      obtain ⟨f0, f1⟩ := flat_get xs i hi
      refine ⟨?_, ?_⟩
      · rw [Nat.zero_add, hcell _ (by omega), f0]
      · rw [Nat.zero_add, hcell _ (by omega), f1]

theorem owns_kp {w w' : World} {c base e n : Nat} {v : Value} {xs : List Value} (h : w.ownsRow base e 2 v n xs) (hk : Kp c w w') (hc : c < base) : w'.ownsRow base e 2 v n xs := by
  refine ⟨h.1, ?_⟩
  rcases h.2 with h0 | ⟨g, cap, cur, hv, hb, hg, r⟩
  · exact Or.inl h0
  · have hlt : g < w.heap.size := by
      rcases Nat.lt_or_ge g w.heap.size with h' | h'
      · exact h'
      · rw [Array.getElem?_eq_none h'] at hg; cases hg
    exact Or.inr ⟨g, cap, cur, hv, hb, (hk.block g hlt (by omega)).trans hg, r⟩

theorem own_ne {w : World} {base e n k : Nat} {v : Value} {xs : List Value} (h : w.ownsRow base e 2 v n xs) (hk : k < base) : some k ≠ v.ownBlock := by
  rcases h.2 with ⟨rfl, _⟩ | ⟨g, cap, cur, rfl, hb, _⟩
  · simp [Value.ownBlock]
  · simp [Value.ownBlock]; omega
theorem sum_round {w w3 w4 : World} {a : Option Addr} {len cap N e n : Nat} {v v' : Value} {xs ys : List Value} {o : Obj} (hc : Cur w3 w.heap.size a len cap N) (hsrc : ∀ b off, a = some ⟨b, off, none⟩ → 0 < len → b < w.heap.size)
    (own : w3.ownsRow (w.heap.size + 1) e 2 v n xs) (_own' : w4.ownsRow (w.heap.size + 1) e 2 v' (n + 1) ys) (hg : (w3.alloc o).grownBy w4 v.ownBlock) (hB : Below w.heap.size w w3) :
    Hid (Cur w4 w.heap.size a len cap N) ∧ Below w.heap.size w w4 := by
  have hc' := hc.below (below_alloc w3 o)
  have hs : w.heap.size < w3.heap.size := hc.1
  have hblk : ∀ k, k ≤ w.heap.size → w4.heap[k]? = (w3.alloc o).heap[k]? := fun k hk => hg.block k (by simp; omega) (own_ne own (by omega))
  refine ⟨hc'.of_blocks hg.size (hblk _ (Nat.le_refl _)) (fun b off e hl => hblk b (Nat.le_of_lt (hsrc b off e hl))), ?_⟩
  refine (hB.alloc hB.size o).trans ⟨hg.os, hg.tape, hg.output, hg.size, fun k hk => hblk k (Nat.le_of_lt hk)⟩

set_option maxHeartbeats 1000000 in
theorem drawSum_any (a : Option Addr) (len cap : Nat) (w : World) (hs : Src w a len) :
    Calls Try.prog 13 #[.slice a len cap] w fun e w' => ∃ v xs, e = .returned v ∧ xs.length ≤ 51 ∧ Below w.heap.size w w' ∧ w'.ownsRow (w.heap.size + 1) 24 2 v xs.length (flat xs) := by
  have hinfo : (Try.prog.info? 24).map (fun i => (i.zero, i.size, i.bytes)) = some (some (.agg #[.int .i64 0, .int .i64 0]), 2, 16) := by kernel_rfl
  obtain ⟨i0, hi, hz0, hz1, hz2⟩ := info_parts hinfo
  have hsrc : ∀ b off, a = some ⟨b, off, none⟩ → 0 < len → b < w.heap.size := hs.2
  have HC := hide (cur_new (cap := cap) hs)
  have HSRC := hide hsrc
  clear hs hsrc hinfo
  go_enter Try.func13, Try.ntmps13
  go_wp2_with fail
  refine (pick_any 8 (by omega) HC.out (by omega)).mono ?_
  rintro e w1 ⟨r1, rfl, p0, p1, hc1, hk1⟩
  have HC1 := hide hc1
  have hB1 : Below w.heap.size w w1 := ((Below.refl _ _).alloc (Nat.le_refl _) _).trans (hk1.below (Nat.le_refl _) (by simp))
  clear hc1 hk1
  go_wp2_with fail
  refine (one_any 20 (by omega) HC1.out (by omega)).mono ?_
  rintro e w2 ⟨r2, rfl, hc2, hk2⟩
  have HC2 := hide hc2
  have hB2 : Below w.heap.size w w2 := hB1.trans (hk2.below (Nat.le_refl _) hB1.size)
  clear hc2 hk2
  obtain ⟨k0, rfl⟩ := Int.eq_ofNat_of_zero_le p0
  cases r2
  · go_wp2_with fail
    go_loopw [4, 5] (fun v s wr => ∃ (k : Nat) (xs : List (Int × Int)), s = .int .i64 k ∧ xs.length + k ≤ 51 ∧ wr.ownsRow (w.heap.size + 1) 24 2 v xs.length (flat xs) ∧ Hid (Cur wr w.heap.size a len cap (100 + 10 * xs.length)) ∧ Below w.heap.size w wr) (fun _ s _ => (intOf s).toNat)
    case atStart => exact ⟨k0, [], rfl, by simp; omega, World.ownsRow_nil _ _ _ _, hide (HC2.out.le (by simp)), hB2⟩
    case round =>
      obtain ⟨k, xs, rfl, hlen, hown, HCUR, hB⟩ := hrel
      by_cases hk : 0 < k
      · go_wp2_with fail
        refine (frac_any HCUR.out (by omega)).mono ?_
        rintro e w3 ⟨n, d, rfl, hc3, hk3⟩
        have hB3 : Below w.heap.size w w3 := hB.trans (hk3.below (Nat.le_refl _) hB.size)
        have own3 := owns_kp hown hk3 (Nat.lt_succ_self _)
        have HC3 := hide hc3
        have hs3 := hB3.size
        clear hc3 hk3
        go_wp2_with (first
          | (at_builtin; refine wpList_append_own _ rfl _ _ 34 rfl (w.heap.size + 1) 24 i0 (.agg #[.int .i64 0, .int .i64 0]) 2 16 Try.underlying34 hi hz0 hz1 hz2 rfl (by decide) _ _ _ rfl (own3.alloc _) ⟨w3.heap.size, 0, none⟩ 1 1 [.int .i64 n, .int .i64 d] rfl rfl ?c1 ?c2 ?c3 ?c4 ?c5 ?_))
        case c1 =>
          intro j u hj
          match j, hj with
          | 0, hj => simp at hj; subst hj; simp [Addr.add]
          | 1, hj => simp at hj; subst hj; simp [Addr.add]
        case c2 => intro u hu; simp at hu; rcases hu with rfl | rfl <;> rfl
        case c3 => unfold maxLen; omega
        case c4 => omega
        case c5 => simp; have := HC3.out.1; omega
        · intro v' w4 hown' hgrow _
          have hfin := sum_round HC3.out HSRC.out own3 hown' hgrow hB3
          go_wp2_with fail
          go_roundw
          case rel =>
            refine ⟨k - 1, xs ++ [(n, d)], ?_, by simp; omega, ?_, ?_, hfin.2⟩
            · congr 1; omega
            · simpa [flat_snoc] using hown'
            · exact hide (hfin.1.out.le (by simp; omega))
          case measure => simp only [intOf]; omega
      · go_wp2_with fail
        go_ret
        exact ⟨_, xs, rfl, by omega, hB, hown⟩
  · go_wp2_with fail
    refine (pick_any 2 (by omega) HC2.out (by omega)).mono ?_
    rintro e w5 ⟨r5, rfl, q0, q1, hc5, hk5⟩
    obtain ⟨k2, rfl⟩ := Int.eq_ofNat_of_zero_le q0
    have HC5 := hide hc5
    have hB5 : Below w.heap.size w w5 := hB2.trans (hk5.below (Nat.le_refl _) hB2.size)
    clear hc5 hk5
    go_wp2_with fail
    go_loopw [4, 5] (fun v s wr => ∃ (k : Nat) (xs : List (Int × Int)), s = .int .i64 k ∧ xs.length + k ≤ 51 ∧ wr.ownsRow (w.heap.size + 1) 24 2 v xs.length (flat xs) ∧ Hid (Cur wr w.heap.size a len cap (100 + 10 * xs.length)) ∧ Below w.heap.size w wr) (fun _ s _ => (intOf s).toNat)
    case atStart => exact ⟨50 + k2, [], rfl, by simp; omega, World.ownsRow_nil _ _ _ _, hide (HC5.out.le (by simp)), hB5⟩
    case round =>
      obtain ⟨k, xs, rfl, hlen, hown, HCUR, hB⟩ := hrel
      by_cases hk : 0 < k
      · go_wp2_with fail
        refine (frac_any HCUR.out (by omega)).mono ?_
        rintro e w3 ⟨n, d, rfl, hc3, hk3⟩
        have hB3 : Below w.heap.size w w3 := hB.trans (hk3.below (Nat.le_refl _) hB.size)
        have own3 := owns_kp hown hk3 (Nat.lt_succ_self _)
        have HC3 := hide hc3
        have hs3 := hB3.size
        clear hc3 hk3
        go_wp2_with (first
          | (at_builtin; refine wpList_append_own _ rfl _ _ 34 rfl (w.heap.size + 1) 24 i0 (.agg #[.int .i64 0, .int .i64 0]) 2 16 Try.underlying34 hi hz0 hz1 hz2 rfl (by decide) _ _ _ rfl (own3.alloc _) ⟨w3.heap.size, 0, none⟩ 1 1 [.int .i64 n, .int .i64 d] rfl rfl ?c1 ?c2 ?c3 ?c4 ?c5 ?_))
        case c1 =>
          intro j u hj
          match j, hj with
          | 0, hj => simp at hj; subst hj; simp [Addr.add]
          | 1, hj => simp at hj; subst hj; simp [Addr.add]
        case c2 => intro u hu; simp at hu; rcases hu with rfl | rfl <;> rfl
        case c3 => unfold maxLen; omega
        case c4 => omega
        case c5 => simp; have := HC3.out.1; omega
        · intro v' w4 hown' hgrow _
          have hfin := sum_round HC3.out HSRC.out own3 hown' hgrow hB3
          go_wp2_with fail
          go_roundw
          case rel =>
            refine ⟨k - 1, xs ++ [(n, d)], ?_, by simp; omega, ?_, ?_, hfin.2⟩
            · congr 1; omega
            · simpa [flat_snoc] using hown'
            · exact hide (hfin.1.out.le (by simp; omega))
          case measure => simp only [intOf]; omega
      · go_wp2_with fail
        go_ret
        exact ⟨_, xs, rfl, by omega, hB, hown⟩
end Go.Proofs.Ytdmdhmcnedmnbaa
