/-
  Trades in memory: which are good, of both; trades of the laws: sizes, copies, comparing, marks.
-/
import Derived.Test.YticekgjgknfloaaAa14
import Derived.Test.YticekgjgknfloaaJm10
namespace Go.Proofs.Yticekgjgknfloaa
open Go.RowKit

theorem below_box (w : World) (o : Obj) : Below w.heap.size w (w.alloc o) := below_new w o
set_option maxHeartbeats 2000000 in
theorem gt_any {a : Option Addr} {n c : Nat} {xs : List Int} {S K : Int} {w : World} (hx : Hid (xs.length = n)) (HA : Hid (ARow w a xs)) :
    Calls Try.prog 12 #[.agg #[.slice a n c, .int .i64 S, .int .i64 K]] w fun e w' => e = .returned (.bool (Lo.goodB xs S K)) ∧ Below w.heap.size w w' := by
  have HG : Hid (Lo.goodB xs S K = (Pf.inB (n : Int) 1 10 && (Pf.allB xs 0 20 && (Pf.inB S 0 100 && Pf.inB K 0 10)))) := hide (by rw [Lo.goodB, hx.out])
  have HR := hide (HA.out.alloc (.cells #[.slice a n c, .int .i64 S, .int .i64 K] 27))
  have HB := hide (below_box w (.cells #[.slice a n c, .int .i64 S, .int .i64 K] 27))
  generalize Lo.goodB xs S K = G at *
  clear HA
  cases h1 : Pf.inB (n : Int) 1 10
  · have HN : Hid (G = false) := hide (by rw [HG.out, h1]; rfl)
    go_enter Try.func12, Try.ntmps12
    go_wp2_with fail
    refine (between_eq h1).mono ?_
    rintro e w1 ⟨rfl, hw1⟩
    obtain rfl := hw1.symm
    go_wp2_with fail
    go_ret
    exact ⟨ret_bool HN.out.symm, HB.out⟩
  · have hn : n ≤ 1000 := by have := Pf.inB_yes h1; omega
    cases h2 : Pf.allB xs 0 20
    · have HN : Hid (G = false) := hide (by rw [HG.out, h1, h2]; rfl)
      have H2 := hide h2
      clear h2
      go_enter Try.func12, Try.ntmps12
      go_wp2_with fail
      refine (between_eq h1).mono ?_
      rintro e w1 ⟨rfl, hw1⟩
      obtain rfl := hw1.symm
      go_wp2_with fail
      refine (areb_eqn HR hx hn H2).mono ?_
      rintro e w1 ⟨rfl, hw1⟩
      obtain rfl := hw1.symm
      go_wp2_with fail
      go_ret
      exact ⟨ret_bool HN.out.symm, HB.out⟩
    · have H2 := hide h2
      cases h3 : Pf.inB S 0 100
      · have HN : Hid (G = false) := hide (by rw [HG.out, h1, h2, h3]; rfl)
        clear h2
        go_enter Try.func12, Try.ntmps12
        go_wp2_with fail
        refine (between_eq h1).mono ?_
        rintro e w1 ⟨rfl, hw1⟩
        obtain rfl := hw1.symm
        go_wp2_with fail
        refine (areb_eqn HR hx hn H2).mono ?_
        rintro e w1 ⟨rfl, hw1⟩
        obtain rfl := hw1.symm
        go_wp2_with fail
        refine (between_eq h3).mono ?_
        rintro e w1 ⟨rfl, hw1⟩
        obtain rfl := hw1.symm
        go_wp2_with fail
        go_ret
        exact ⟨ret_bool HN.out.symm, HB.out⟩
      · obtain ⟨b, hb⟩ : ∃ b, Pf.inB K 0 10 = b := ⟨_, rfl⟩
        have HN : Hid (G = b) := hide (by rw [HG.out, h1, h2, h3, hb]; rfl)
        clear h2
        go_enter Try.func12, Try.ntmps12
        go_wp2_with fail
        refine (between_eq h1).mono ?_
        rintro e w1 ⟨rfl, hw1⟩
        obtain rfl := hw1.symm
        go_wp2_with fail
        refine (areb_eqn HR hx hn H2).mono ?_
        rintro e w1 ⟨rfl, hw1⟩
        obtain rfl := hw1.symm
        go_wp2_with fail
        refine (between_eq h3).mono ?_
        rintro e w1 ⟨rfl, hw1⟩
        obtain rfl := hw1.symm
        go_wp2_with fail
        refine (between_eq hb).mono ?_
        rintro e w1 ⟨rfl, hw1⟩
        obtain rfl := hw1.symm
        go_wp2_with fail
        go_ret
        exact ⟨ret_bool HN.out.symm, HB.out⟩
theorem gt_eq {a : Option Addr} {n c : Nat} {xs : List Int} {S K : Int} {w : World} {r : Bool} (hx : Hid (xs.length = n)) (HA : Hid (ARow w a xs)) (hr : Hid (Lo.goodB xs S K = r)) :
    Calls Try.prog 12 #[.agg #[.slice a n c, .int .i64 S, .int .i64 K]] w fun e w' => e = .returned (.bool r) ∧ Below w.heap.size w w' := hr.out ▸ gt_any hx HA
theorem all_hid {a : Option Addr} {n c : Nat} {xs : List Int} {lo hi : Int} {w : World} {r : Bool} (h : Hid (ARow w a xs)) (hn : Hid (xs.length = n)) (hl : n ≤ 1048576) (hr : Hid (Pf.allB xs lo hi = r)) :
    Calls Try.prog 31 #[.slice a n c, .int .i64 lo, .int .i64 hi] w fun e w' => e = .returned (.bool r) ∧ w' = w := by
  have := hn.out
  subst this
  exact all_eq h.out (by omega) hr.out
set_option maxHeartbeats 2000000 in
theorem sgt_any {a : Option Addr} {n c : Nat} {xs : List Int} {S K : Int} {w : World} (hx : Hid (xs.length = n)) (HA : Hid (ARow w a xs)) :
    Calls Try.prog 10 #[.agg #[.slice a n c, .int .i64 S, .int .i64 K]] w fun e w' => e = .returned (.bool (Lo.goodB xs S K)) ∧ Below w.heap.size w w' := by
  have HG : Hid (Lo.goodB xs S K = (Pf.inB (n : Int) 1 10 && (Pf.allB xs 0 20 && (Pf.inB S 0 100 && Pf.inB K 0 10)))) := hide (by rw [Lo.goodB, hx.out])
  have HR := hide (HA.out.alloc (.cells #[.slice a n c, .int .i64 S, .int .i64 K] 27))
  have HB := hide (below_box w (.cells #[.slice a n c, .int .i64 S, .int .i64 K] 27))
  generalize Lo.goodB xs S K = G at *
  clear HA
  cases h1 : Pf.inB (n : Int) 1 10
  · have HN : Hid (G = false) := hide (by rw [HG.out, h1]; rfl)
    go_enter Try.func10, Try.ntmps10
    go_wp2_with fail
    refine (in_eq h1).mono ?_
    rintro e w1 ⟨rfl, hw1⟩
    obtain rfl := hw1.symm
    go_wp2_with fail
    go_ret
    exact ⟨ret_bool HN.out.symm, HB.out⟩
  · have hn : n ≤ 1048576 := by have := Pf.inB_yes h1; omega
    cases h2 : Pf.allB xs 0 20
    · have HN : Hid (G = false) := hide (by rw [HG.out, h1, h2]; rfl)
      have H2 := hide h2
      clear h2
      go_enter Try.func10, Try.ntmps10
      go_wp2_with fail
      refine (in_eq h1).mono ?_
      rintro e w1 ⟨rfl, hw1⟩
      obtain rfl := hw1.symm
      go_wp2_with fail
      refine (all_hid HR hx hn H2).mono ?_
      rintro e w1 ⟨rfl, hw1⟩
      obtain rfl := hw1.symm
      go_wp2_with fail
      go_ret
      exact ⟨ret_bool HN.out.symm, HB.out⟩
    · have H2 := hide h2
      cases h3 : Pf.inB S 0 100
      · have HN : Hid (G = false) := hide (by rw [HG.out, h1, h2, h3]; rfl)
        clear h2
        go_enter Try.func10, Try.ntmps10
        go_wp2_with fail
        refine (in_eq h1).mono ?_
        rintro e w1 ⟨rfl, hw1⟩
        obtain rfl := hw1.symm
        go_wp2_with fail
        refine (all_hid HR hx hn H2).mono ?_
        rintro e w1 ⟨rfl, hw1⟩
        obtain rfl := hw1.symm
        go_wp2_with fail
        refine (in_eq h3).mono ?_
        rintro e w1 ⟨rfl, hw1⟩
        obtain rfl := hw1.symm
        go_wp2_with fail
        go_ret
        exact ⟨ret_bool HN.out.symm, HB.out⟩
      · obtain ⟨b, hb⟩ : ∃ b, Pf.inB K 0 10 = b := ⟨_, rfl⟩
        have HN : Hid (G = b) := hide (by rw [HG.out, h1, h2, h3, hb]; rfl)
        clear h2
        go_enter Try.func10, Try.ntmps10
        go_wp2_with fail
        refine (in_eq h1).mono ?_
        rintro e w1 ⟨rfl, hw1⟩
        obtain rfl := hw1.symm
        go_wp2_with fail
        refine (all_hid HR hx hn H2).mono ?_
        rintro e w1 ⟨rfl, hw1⟩
        obtain rfl := hw1.symm
        go_wp2_with fail
        refine (in_eq h3).mono ?_
        rintro e w1 ⟨rfl, hw1⟩
        obtain rfl := hw1.symm
        go_wp2_with fail
        refine (in_eq hb).mono ?_
        rintro e w1 ⟨rfl, hw1⟩
        obtain rfl := hw1.symm
        go_wp2_with fail
        go_ret
        exact ⟨ret_bool HN.out.symm, HB.out⟩
theorem sgt_eq {a : Option Addr} {n c : Nat} {xs : List Int} {S K : Int} {w : World} {r : Bool} (hx : Hid (xs.length = n)) (HA : Hid (ARow w a xs)) (hr : Hid (Lo.goodB xs S K = r)) :
    Calls Try.prog 10 #[.agg #[.slice a n c, .int .i64 S, .int .i64 K]] w fun e w' => e = .returned (.bool r) ∧ Below w.heap.size w w' := hr.out ▸ sgt_any hx HA
set_option maxHeartbeats 1000000 in
theorem szT_yes {a : Option Addr} {n c : Nat} {S K : Int} {w : World} (h : n ≤ 1048576) :
    Calls Try.prog 9 #[.agg #[.slice a n c, .int .i64 S, .int .i64 K], .int .i64 1048576] w fun e w' => e = .returned (.int .i64 (1048576 - n)) ∧ Below w.heap.size w w' := by
  have hz1 : ¬ (1048576 : Int) - (n : Int) < 0 := by omega
  go_enter Try.func9, Try.ntmps9
  go_wp2_with fail
  refine (szI_yes a n c 1048576 _ (by omega) (by omega) (by omega)).mono ?_
  rintro e w1 ⟨rfl, hw1⟩
  obtain rfl := hw1.symm
  go_wp2_with fail
  go_ret
  exact ⟨rfl, below_box _ _⟩
set_option maxHeartbeats 1000000 in
theorem szT_no {a : Option Addr} {n c : Nat} {S K : Int} {w : World} (hm : n ≤ maxLen) (h : 1048576 < n) :
    Calls Try.prog 9 #[.agg #[.slice a n c, .int .i64 S, .int .i64 K], .int .i64 1048576] w fun e w' => e = .returned (.int .i64 (-1)) ∧ Below w.heap.size w w' := by
  go_enter Try.func9, Try.ntmps9
  go_wp2_with fail
  refine (szI_no a n c 1048576 _ (by omega) (by omega) hm (by omega)).mono ?_
  rintro e w1 ⟨rfl, hw1⟩
  obtain rfl := hw1.symm
  go_wp2_with fail
  go_ret
  exact ⟨rfl, below_box _ _⟩
set_option maxHeartbeats 2000000 in
theorem toT_any {a : Option Addr} {n c : Nat} {xs : List Int} {S K : Int} {w : World} (HN : Hid (xs.length = n)) (h1 : n ≤ 1048576) (HA : Hid (ARow w a xs)) :
    Calls Try.prog 11 #[.agg #[.slice a n c, .int .i64 S, .int .i64 K]] w fun e w' => ∃ x, e = .returned (.agg #[.slice (some ⟨x, 0, none⟩) n n, .int .i64 S, .int .i64 K]) ∧ Below w.heap.size w w' ∧ AV w' w.heap.size w'.heap.size (.slice (some ⟨x, 0, none⟩) n n) n xs := by
  go_enter Try.func11, Try.ntmps11
  go_wp2_with fail
  refine (toI_own a c n xs _ HN.out h1 (((HA.out.alloc _).alloc _).alloc _)).mono ?_
  rintro e w1 ⟨rfl, hb1, hz1, own1⟩
  simp only [World.size_alloc] at hb1 hz1 own1
  have hBw : Below w.heap.size w w1 := ((((Below.refl _ _).alloc (Nat.le_refl _) _).alloc (by simp) _).alloc (by simp; omega) _).trans (hb1.mono (by omega))
  have q0 : w1.cell? ⟨w.heap.size, 1, none⟩ = some (.int .i64 S) := (hb1.cell (p := ⟨w.heap.size, 1, none⟩) (by show w.heap.size < _; omega)).trans (by simp [go_sem])
  have q1 : w1.cell? ⟨w.heap.size, 2, none⟩ = some (.int .i64 K) := (hb1.cell (p := ⟨w.heap.size, 2, none⟩) (by show w.heap.size < _; omega)).trans (by simp [go_sem])
  have q2 : w1.cell? ⟨w.heap.size + 1 + 1, 0, none⟩ = some (.slice none 0 0) := (hb1.cell (p := ⟨w.heap.size + 1 + 1, 0, none⟩) (by show w.heap.size + 1 + 1 < _; omega)).trans (by simp [go_sem])
  have q3 : w1.cell? ⟨w.heap.size + 1 + 1, 1, none⟩ = some (.int .i64 0) := (hb1.cell (p := ⟨w.heap.size + 1 + 1, 1, none⟩) (by show w.heap.size + 1 + 1 < _; omega)).trans (by simp [go_sem])
  have q4 : w1.cell? ⟨w.heap.size + 1 + 1, 2, none⟩ = some (.int .i64 0) := (hb1.cell (p := ⟨w.heap.size + 1 + 1, 2, none⟩) (by show w.heap.size + 1 + 1 < _; omega)).trans (by simp [go_sem])
  have p2 : w1.cell? ⟨w.heap.size + 1, 0, none⟩ = some (.slice none 0 0) := (hb1.cell (p := ⟨w.heap.size + 1, 0, none⟩) (by show w.heap.size + 1 < _; omega)).trans (by simp [go_sem])
  have p3 : w1.cell? ⟨w.heap.size + 1, 1, none⟩ = some (.int .i64 0) := (hb1.cell (p := ⟨w.heap.size + 1, 1, none⟩) (by show w.heap.size + 1 < _; omega)).trans (by simp [go_sem])
  have p4 : w1.cell? ⟨w.heap.size + 1, 2, none⟩ = some (.int .i64 0) := (hb1.cell (p := ⟨w.heap.size + 1, 2, none⟩) (by show w.heap.size + 1 < _; omega)).trans (by simp [go_sem])
  have g2 : ∀ i, w1.frozen? ⟨w.heap.size + 1 + 1, i, none⟩ = false := fun i => (hb1.frozen (p := ⟨w.heap.size + 1 + 1, i, none⟩) (by show w.heap.size + 1 + 1 < _; omega)).trans (by simp [go_sem])
  have g4 : ∀ i, w1.frozen? ⟨w.heap.size + 1, i, none⟩ = false := fun i => (hb1.frozen (p := ⟨w.heap.size + 1, i, none⟩) (by show w.heap.size + 1 < _; omega)).trans (by simp [go_sem])
  have HO1 := hide own1
  have HB := hide hBw
  clear own1 hBw hb1
  go_wp2_with fail
  refine bodyPost_ret (v := .agg #[.slice (some ⟨w.heap.size + 1 + 1 + 1, 0, none⟩) n n, .int .i64 S, .int .i64 K]) (by simp [results, Try.results11, go_sem, p2, p3, p4]) rfl ⟨w.heap.size + 1 + 1 + 1, rfl, ?_, ?_, ?_, ?_⟩
  · exact (((((HB.out.setCell (by show w.heap.size ≤ w.heap.size + 1 + 1; omega) _).setCell (by show w.heap.size ≤ w.heap.size + 1 + 1; omega) _).setCell (by show w.heap.size ≤ w.heap.size + 1 + 1; omega) _).setCell (by show w.heap.size ≤ w.heap.size + 1; omega) _).setCell (by show w.heap.size ≤ w.heap.size + 1; omega) _).setCell (by show w.heap.size ≤ w.heap.size + 1; omega) _
  · exact owns_low (ownsRow_setCell_below (ownsRow_setCell_below (ownsRow_setCell_below (ownsRow_setCell_below (ownsRow_setCell_below (ownsRow_setCell_below HO1.out (by show w.heap.size + 1 + 1 < _; omega) _) (by show w.heap.size + 1 + 1 < _; omega) _) (by show w.heap.size + 1 + 1 < _; omega) _) (by show w.heap.size + 1 < _; omega) _) (by show w.heap.size + 1 < _; omega) _) (by show w.heap.size + 1 < _; omega) _) (by omega)
  · intro g hg
    cases hg
    simpa using hz1
  · exact Nat.le_refl _
set_option maxHeartbeats 2000000 in
theorem eqT_any {a a' : Option Addr} {n c c' : Nat} {xs : List Int} {S K : Int} {w : World} (hn : Hid (xs.length = n)) (h1 : n ≤ 1048576) (ha : ARow w a xs) (ha' : ARow w a' xs) :
    Calls Try.prog 13 #[.agg #[.slice a n c, .int .i64 S, .int .i64 K], .agg #[.slice a' n c', .int .i64 S, .int .i64 K]] w fun e w' => e = .returned (.bool true) ∧ Below w.heap.size w w' := by
  have HA := hide ((ha.alloc (.cells #[.slice a n c, .int .i64 S, .int .i64 K] 27)).alloc (.cells #[.slice a' n c', .int .i64 S, .int .i64 K] 27))
  have HA' := hide ((ha'.alloc (.cells #[.slice a n c, .int .i64 S, .int .i64 K] 27)).alloc (.cells #[.slice a' n c', .int .i64 S, .int .i64 K] 27))
  have e1 : (S != S) = false := by simp
  have e2 : (K != K) = false := by simp
  clear ha ha'
  go_enter Try.func13, Try.ntmps13
  go_wp2_with fail
  refine (eqI_any hn.out h1 HA.out HA'.out).mono ?_
  rintro e w1 ⟨rfl, q, rfl⟩
  go_wp2_with fail
  go_ret
  have hB := below_drewN (((Below.refl w.heap.size w).alloc (Nat.le_refl _) (.cells #[.slice a n c, .int .i64 S, .int .i64 K] 27)).alloc (by simp) (.cells #[.slice a' n c', .int .i64 S, .int .i64 K] 27)) q
  exact ⟨rfl, by simpa using hB⟩
theorem eqT_av {lo hi lo' hi' n : Nat} {x x' : Nat} {xs : List Int} {S K : Int} {w : World} (hn : Hid (xs.length = n)) (h1 : n ≤ 1048576) (ha : AV w lo hi (.slice (some ⟨x, 0, none⟩) n n) n xs) (ha' : AV w lo' hi' (.slice (some ⟨x', 0, none⟩) n n) n xs) :
    Calls Try.prog 13 #[.agg #[.slice (some ⟨x, 0, none⟩) n n, .int .i64 S, .int .i64 K], .agg #[.slice (some ⟨x', 0, none⟩) n n, .int .i64 S, .int .i64 K]] w fun e w' => e = .returned (.bool true) ∧ Below w.heap.size w w' :=
  eqT_any hn h1 (arow_owns hn.out.symm ha.1) (arow_owns hn.out.symm ha'.1)
set_option maxHeartbeats 2000000 in
theorem markT_av {lo hi n x : Nat} {xs : List Int} {S K k : Int} {w : World} (hx : Hid (xs.length = n)) (hn : n ≤ 1048576) (k0 : 0 ≤ k) (k1 : k ≤ 1000000000) (h : AV w lo hi (.slice (some ⟨x, 0, none⟩) n n) n xs) :
    Calls Try.prog 20 #[.agg #[.slice (some ⟨x, 0, none⟩) n n, .int .i64 S, .int .i64 K], .int .i64 k] w fun e w' => e = .returned (.int .i64 (k + n)) ∧ w.grownBy w' (some x) := by
  have bn := below_new w (.cells #[.slice (some ⟨x, 0, none⟩) n n, .int .i64 S, .int .i64 K] 27)
  have HM := hide (mark_av (k := k) hx hn k0 k1 (h.below bn))
  have HB := hide bn
  clear bn h
  go_enter Try.func20, Try.ntmps20
  go_wp2_with fail
  refine HM.out.mono ?_
  rintro e w1 ⟨rfl, _, hg⟩
  have HG := hide hg
  clear hg
  go_wp2_with fail
  go_ret
  refine ⟨rfl, ?_⟩
  have hb := HB.out
  have hg := HG.out
  exact ⟨hg.os.trans hb.os, hg.tape.trans hb.tape, hg.output.trans hb.output, Nat.le_trans hb.size hg.size, fun b hl hne => (hg.block b (Nat.lt_of_lt_of_le hl hb.size) (by simpa [Value.ownBlock] using hne)).trans (hb.block b hl)⟩
end Go.Proofs.Yticekgjgknfloaa
