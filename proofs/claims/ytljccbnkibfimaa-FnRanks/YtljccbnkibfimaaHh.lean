/-
  What OrderFor answers, the program's and the model's: the most used at the nearest.
-/
import Derived.Test.YtljccbnkibfimaaHc
import Derived.Test.YtljccbnkibfimaaHv
import Derived.Test.YtljccbnkibfimaaPf1
namespace Go.Proofs.Ytljccbnkibfimaa
open Go.RowKit Go.Sort

theorem rk_nth_lt {vs : List Int} {k : Nat} (hk : k < vs.length) : (Rk.rank vs).getD k 0 < vs.length := by
  have hl : k < (Rk.rank vs).length := by rw [Rk.rank_len]; exact hk
  rw [Pf.getD_lt _ 0 hl]
  exact Rk.rank_mem (List.getElem_mem hl)
/-- Goods put at places, one by one. -/
def putTo (gs ps : List Nat) (n : Nat) : Nat → List Int
  | 0 => List.replicate n 0
  | k + 1 => (putTo gs ps n k).set (ps.getD k 0) ((gs.getD k 0 : Nat) : Int)
theorem putTo_len (gs ps : List Nat) (n : Nat) : ∀ k, (putTo gs ps n k).length = n
  | 0 => by simp [putTo]
  | k + 1 => by simp [putTo, putTo_len gs ps n k]
theorem ints_app7 (xs ys : List Int) : ints (xs ++ ys) = ints xs ++ ints ys := by simp [ints]
def negs (ws : List Int) : List Int := ws.map fun x => -x
theorem negs_len (ws : List Int) : (negs ws).length = ws.length := by simp [negs]
theorem negs_val (ws : List Int) (i : Nat) : Rk.val (negs ws) i = - ws.getD i 0 := by
  simp only [Rk.val, negs, List.getD_eq_getElem?_getD, List.getElem?_map]
  cases ws[i]? <;> simp
/-- The order with the most used at the nearest. -/
def ofL (us ws : List Int) : List Int := putTo (Rk.rank us) (Rk.rank (negs ws)) us.length us.length
theorem ofL_len (us ws : List Int) : (ofL us ws).length = us.length := putTo_len _ _ _ _
theorem cmp_negs (ws : List Int) (i j : Nat) : cmpI (ws.getD i 0) (ws.getD j 0) = cmpI (Rk.val (negs ws) j) (Rk.val (negs ws) i) := by
  rw [negs_val, negs_val]; unfold cmpI
  simp only [Int.neg_lt_neg_iff]
theorem own_at7 {w : World} {base n g cap : Nat} {xs : List Value} (h : w.ownsRow base 3 1 (.slice (some ⟨g, 0, none⟩) n cap) n xs) : base ≤ g ∧ g < w.heap.size := by
  rcases h.2 with ⟨h0, _⟩ | ⟨g', cap', cur, hv, h2, h3, _⟩
  · cases h0
  · cases hv; exact ⟨h2, (Array.getElem?_eq_some_iff.1 h3).1⟩
theorem own_any7 {w : World} {base n : Nat} {v : Value} {xs : List Int} (hx : xs.length = n) (h : w.ownsRow base 3 1 v n (ints xs)) : ∃ a cap, v = .slice a n cap ∧ ARow w a xs := by
  rcases h.2 with ⟨rfl, hn⟩ | ⟨g, cap, cur, rfl, _⟩
  · subst hn; exact ⟨none, 0, rfl, Or.inl (List.length_eq_zero_iff.1 hx)⟩
  · exact ⟨_, _, rfl, arow_owns hx.symm h⟩
/-- A list that a call made, in a block of its own. -/
def Ow (w : World) (g n : Nat) (xs : List Int) : Prop := g < w.heap.size ∧ ∃ base, base ≤ g ∧ w.ownsRow base 3 1 (.slice (some ⟨g, 0, none⟩) n n) n (ints xs)
theorem Ow.below {w w' : World} {g n : Nat} {xs : List Int} (h : Ow w g n xs) (hb : Below w.heap.size w w') : Ow w' g n xs := by
  obtain ⟨h1, base, h2, h3⟩ := h
  exact ⟨Nat.lt_of_lt_of_le h1 hb.size, base, h2, owns_keep h3 (hb.block g h1)⟩
theorem Ow.grown {w w' : World} {g n q : Nat} {xs : List Int} (h : Ow w g n xs) (hg : w.grownBy w' (some q)) (hne : g ≠ q) : Ow w' g n xs := by
  obtain ⟨h1, base, h2, h3⟩ := h
  exact ⟨Nat.lt_of_lt_of_le h1 hg.size, base, h2, owns_keep h3 (hg.block g h1 (by simpa using hne))⟩
theorem Ow.row {w : World} {g n : Nat} {xs : List Int} (h : Ow w g n xs) (hx : xs.length = n) : ARow w (some ⟨g, 0, none⟩) xs := by
  obtain ⟨_, base, _, h3⟩ := h
  exact arow_owns hx.symm h3
theorem Ow.mk' {w : World} {base g n : Nat} {xs : List Int} (h : w.ownsRow base 3 1 (.slice (some ⟨g, 0, none⟩) n n) n (ints xs)) : Ow w g n xs ∧ base ≤ g := by
  obtain ⟨h1, h2⟩ := own_at7 h
  exact ⟨⟨h2, base, h1, h⟩, h1⟩
set_option maxRecDepth 100000 in
set_option maxHeartbeats 1000000 in
theorem near_any {W : World} {B b off c n i j : Nat} {x y : Int} (hi : i < n) (hj : j < n) (hB : W.cell? ⟨B, 0, none⟩ = some (.slice (some ⟨b, off, none⟩) n c))
    (hx : W.cell? ⟨b, off + i, none⟩ = some (.int .i64 x)) (hy : W.cell? ⟨b, off + j, none⟩ = some (.int .i64 y)) :
    Calls Try.prog 103 #[.int .i64 i, .int .i64 j, .pointer (some ⟨B, 0, none⟩)] W fun e w' => e = .returned (.int .i64 (cmpI x y)) ∧ ∃ q, w' = W.drewN q := by
  have i0 : (0 : Int) ≤ (i : Int) := by omega
  have i1 : (i : Int) < (n : Int) := by omega
  have j0 : (0 : Int) ≤ (j : Int) := by omega
  have j1 : (j : Int) < (n : Int) := by omega
  clear hi hj
  go_enter Try.func103, Try.ntmps103
  go_wp2_with fail
  go_quiet ((go_at_call 102; exact Calls.quiet_of_same (compare_any _ _ _)))
  go_wp2_with fail
  go_ret
  exact ⟨rfl, _, rfl⟩
theorem near_cmp {a : Option Addr} {n c : Nat} {ws : List Int} {w : World} (hv : ws.length = n) (ha : ARow w a ws) :
    CmpBy 103 #[.pointer (some ⟨w.heap.size, 0, none⟩)] (negs ws) (w.heap.size + 1) (w.alloc (.cells #[.slice a n c] 23)) := by
  intro W hW i j hi hj
  rw [negs_len] at hi hj
  obtain ⟨b, off, rfl, hb, hc⟩ : ∃ b off, a = some ⟨b, off, none⟩ ∧ b < w.heap.size ∧ ∀ i, i < ws.length → w.cell? ⟨b, off + i, none⟩ = some (.int .i64 (ws.getD i 0)) := by
    rcases ha with h | h
    · rw [h] at hi; simp at hi
    · exact h
  have hB : W.cell? ⟨w.heap.size, 0, none⟩ = some (.slice (some ⟨b, off, none⟩) n c) := (hW _ _ (by simp) (by omega)).trans (by simp)
  have hx : ∀ k, k < ws.length → W.cell? ⟨b, off + k, none⟩ = some (.int .i64 (ws.getD k 0)) := fun k hk =>
    (hW _ _ (by simp; omega) (by omega)).trans ((((Below.refl w.heap.size w).alloc (Nat.le_refl _) _).cell (p := ⟨b, off + k, none⟩) hb).trans (hc k hk))
  rw [← cmp_negs]
  exact near_any (by omega) (by omega) hB (hx i hi) (hx j hj)
set_option maxHeartbeats 2000000 in
/-- The slots from the nearest one on. -/
theorem nf_any {a : Option Addr} {n c : Nat} {ws : List Int} {w : World} (hv : ws.length = n) (hn : n ≤ 12) (ha : ARow w a ws) :
    Calls Try.prog 77 #[.slice a n c] w fun e w' => e = .returned (.slice (some ⟨w.heap.size + 1, 0, none⟩) n n) ∧ Below w.heap.size w w' ∧ w'.ownsRow w.heap.size 3 1 (.slice (some ⟨w.heap.size + 1, 0, none⟩) n n) n (ints (nats (Rk.rank (negs ws)))) := by
  have HS := hide (sn_any (w := w.alloc (.cells #[.slice a n c] 23)) (cb := #[.pointer (some ⟨w.heap.size, 0, none⟩)]) (vs := negs ws) (by rw [negs_len]; exact hv) hn (enters_of Try.func103 (by kernel_rfl) rfl) (by simpa using near_cmp (c := c) hv ha))
  have hB := (Below.refl w.heap.size w).alloc (Nat.le_refl _) (.cells #[.slice a n c] 23)
  have hsz : (w.alloc (.cells #[.slice a n c] 23)).heap.size = w.heap.size + 1 := by simp
  rw [hsz] at HS
  have HB := hide hB
  have HZ := hide hsz
  clear hv ha hB hsz
  go_enter Try.func77, Try.ntmps77
  go_wp2_with fail
  refine HS.out.mono ?_
  rintro e w1 ⟨rfl, hb1, own1⟩
  go_wp2_with fail
  go_ret
  exact ⟨rfl, HB.out.trans (hb1.mono (by omega)), owns_base own1 (by omega)⟩
set_option maxRecDepth 100000 in
set_option maxHeartbeats 1000000 in
theorem of_no {a b : Option Addr} {n m c d : Nat} {us ws : List Int} {w : World} (HU : Hid (us.length = n)) (HW : Hid (ws.length = m)) (HA : Hid (ARow w a us)) (HB : Hid (ARow w b ws)) (HG : Hid (Od.waysB us ws = false)) :
    Calls Try.prog 29 #[.slice a n c, .slice b m d] w fun e w' => e = .returned (.tuple #[.slice none 0 0, .bool false]) ∧ Below w.heap.size w w' := by
  go_enter Try.func29, Try.ntmps29
  go_wp2_with fail
  refine (uw_eq HU HW HA HB HG).mono ?_
  rintro e w1 ⟨rfl, rfl⟩
  go_wp2_with fail
  go_ret2
  exact ⟨rfl, Below.refl _ _⟩
set_option maxRecDepth 100000 in
set_option maxHeartbeats 4000000 in
theorem of_yes {a b : Option Addr} {n c d : Nat} {us ws : List Int} {w : World} (hn : n ≤ 10) (HU : Hid (us.length = n)) (HW : Hid (ws.length = n)) (HA : Hid (ARow w a us)) (HB : Hid (ARow w b ws)) (HG : Hid (Od.waysB us ws = true)) :
    Calls Try.prog 29 #[.slice a n c, .slice b n d] w fun e w' => ∃ g, e = .returned (.tuple #[.slice (some ⟨g, 0, none⟩) n n, .bool true]) ∧ Below w.heap.size w w' ∧ w.heap.size ≤ g ∧ Ow w' g n (ofL us ws) := by
  have hmk := makeI_run n (by omega)
  go_enter Try.func29, Try.ntmps29
  go_wp2_with fail
  refine (uw_eq HU HW HA HB HG).mono ?_
  rintro e w0 ⟨rfl, hw0⟩
  obtain rfl : w = w0 := hw0.symm
  go_wp2_with fail
  refine (rank_any HU.out (by omega) HA.out).mono ?_
  rintro e w2 ⟨rfl, hb2, own2⟩
  obtain ⟨O2, h12⟩ := Ow.mk' own2
  have HO2 := hide O2
  have HN2 := hide (HB.out.below hb2)
  have HBw2 := hide hb2
  have HM := hide (made_own w2 n (by omega))
  have HBm := hide ((Below.refl w2.heap.size w2).alloc (Nat.le_refl _) (.cells (madeCells #[.int .i64 0] n) 3))
  have HN3 := hide (HN2.out.below HBm.out)
  have HZ : Hid (w2.heap.size < (w2.alloc (.cells (madeCells #[.int .i64 0] n) 3)).heap.size) := hide (by simp)
  have HO3 := hide (HO2.out.below HBm.out)
  have h2g : w.heap.size + 1 < w2.heap.size := O2.1
  generalize w.heap.size + 1 = G2 at *
  clear own2 O2 hb2 HN2
  go_wp2_with fail
  generalize hW : w2.alloc (.cells (madeCells #[.int .i64 0] n) 3) = W at *
  clear hW hmk
  refine (nf_any HW.out (by omega) HN3.out).mono ?_
  rintro e w3 ⟨rfl, hb3, own3⟩
  obtain ⟨O3, h13⟩ := Ow.mk' own3
  have HO1 := hide O3
  have HBw3 := hide (HBm.out.trans (hb3.mono HBm.out.size))
  have HM3 := hide (owns_keep HM.out (hb3.block _ HZ.out))
  have HO4 := hide (HO3.out.below hb3)
  have hWG : w2.heap.size < W.heap.size + 1 := by have := HZ.out; omega
  generalize W.heap.size + 1 = G1 at *
  clear own3 O3 hb3 HM HBm HN3 HO2 HO3
  go_wp2_with fail
  go_loopw [8, 9, 22] (fun _ _ s wr => ∃ (q : Nat) (ys : List Int), s = .int .i64 q ∧ q ≤ n ∧ ys.length = n ∧ Hid (ys = putTo (Rk.rank us) (Rk.rank (negs ws)) n q) ∧ wr.ownsRow w2.heap.size 3 1 (.slice (some ⟨w2.heap.size, 0, none⟩) n n) n (ints ys) ∧ w3.grownBy wr (some w2.heap.size)) (fun _ _ s _ => n - (intOf s).toNat)
  case atStart => exact ⟨0, List.replicate n 0, rfl, Nat.zero_le _, by simp, hide rfl, HM3.out, World.grownBy.refl _ _⟩
  case round =>
    obtain ⟨q, ys, rfl, hq, hy, HT, hown, hg⟩ := hrel
    by_cases hql : q < n
    · have i0 : (0 : Int) ≤ (q : Int) := by omega
      have i1 : (q : Int) < (n : Int) := by omega
      obtain ⟨_, _, e1, r1⟩ := ((HO1.out.grown hg (by omega)).row (by rw [nats_len, Rk.rank_len, negs_len, HW.out])).at (i := q) (by rw [nats_len, Rk.rank_len, negs_len, HW.out]; exact hql)
      cases e1
      obtain ⟨_, _, e2, r2⟩ := ((HO4.out.grown hg (by omega)).row (by rw [nats_len, Rk.rank_len, HU.out])).at (i := q) (by rw [nats_len, Rk.rank_len, HU.out]; exact hql)
      cases e2
      rw [nats_get, Nat.zero_add] at r1 r2
      have hp : (Rk.rank (negs ws)).getD q 0 < n := by have := rk_nth_lt (vs := negs ws) (k := q) (by rw [negs_len, HW.out]; exact hql); rwa [negs_len, HW.out] at this
      have HST0 : Hid (ys.set ((Rk.rank (negs ws)).getD q 0) (((Rk.rank us).getD q 0 : Nat) : Int) = putTo (Rk.rank us) (Rk.rank (negs ws)) n (q + 1)) := hide (by rw [HT.out]; rfl)
      generalize (Rk.rank (negs ws)).getD q 0 = p at *
      generalize (Rk.rank us).getD q 0 = x at *
      have p0 : (0 : Int) ≤ (p : Int) := by omega
      have p1 : (p : Int) < (n : Int) := by omega
      have c0 : wr.cell? ⟨w2.heap.size, p, none⟩ = some (.int .i64 (ys.getD p 0)) := by rw [hown.cellAt p (by omega), ints_get ys p (by omega)]
      have f0 := hown.frozenAt p
      obtain ⟨st1, st2⟩ := hown.stored p (.int .i64 (x : Int))
      rw [ints_set] at st1
      have HST := hide st1
      have HG3 : Hid (w3.grownBy (wr.setCell ⟨w2.heap.size, p, none⟩ (.int .i64 (x : Int))) (some w2.heap.size)) := hide ⟨st2.os.trans hg.os, st2.tape.trans hg.tape, st2.output.trans hg.output, Nat.le_trans hg.size st2.size, fun b hb hne => (st2.block b (Nat.lt_of_lt_of_le hb hg.size) hne).trans (hg.block b hb hne)⟩
      clear st1 st2 hown hg
      go_wp2_with fail
      go_roundw
      case rel => exact ⟨q + 1, ys.set p (x : Int), by go_num, by omega, by simpa using hy, HST0, HST.out, HG3.out⟩
      case measure => simp only [intOf]; omega
    · have hke : q = n := by omega
      subst hke
      obtain ⟨O5, h5⟩ := Ow.mk' hown
      have hys : ys = ofL us ws := by rw [HT.out, ofL, HU.out]
      rw [hys] at O5
      have HO5 := hide O5
      have HBF := hide (HBw2.out.trans ((HBw3.out.trans (grown_below' hg (Nat.le_refl _) HBw3.out.size)).mono HBw2.out.size))
      clear hown O5 hys
      go_wp2_with fail
      go_ret2
      exact ⟨_, rfl, HBF.out, HBw2.out.size, HO5.out⟩
theorem negs_step (ws : List Int) {k : Nat} (h : k < ws.length) : ints ((negs ws).take (k + 1)) = ints ((negs ws).take k) ++ [.int .i64 (- ws.getD k 0)] := by
  rw [List.take_add_one, ints_app7]
  congr 1
  simp [negs, h, ints]
set_option maxRecDepth 100000 in
set_option maxHeartbeats 1000000 in
theorem sof_no {a b : Option Addr} {n m c d : Nat} {us ws : List Int} {w : World} (HU : Hid (us.length = n)) (HW : Hid (ws.length = m)) (HA : Hid (ARow w a us)) (HB : Hid (ARow w b ws)) (HG : Hid (Od.waysB us ws = false)) :
    Calls Try.prog 30 #[.slice a n c, .slice b m d] w fun e w' => e = .returned (.tuple #[.slice none 0 0, .bool false]) ∧ Below w.heap.size w w' := by
  go_enter Try.func30, Try.ntmps30
  go_wp2_with fail
  refine (suw_eq HU HW HA HB HG).mono ?_
  rintro e w1 ⟨rfl, rfl⟩
  go_wp2_with fail
  go_ret2
  exact ⟨rfl, Below.refl _ _⟩
set_option maxRecDepth 100000 in
set_option maxHeartbeats 4000000 in
theorem sof_yes {a b : Option Addr} {n c d : Nat} {us ws : List Int} {w : World} (hn : n ≤ 10) (HU : Hid (us.length = n)) (HW : Hid (ws.length = n)) (HA : Hid (ARow w a us)) (HB : Hid (ARow w b ws)) (HG : Hid (Od.waysB us ws = true)) :
    Calls Try.prog 30 #[.slice a n c, .slice b n d] w fun e w' => ∃ g, e = .returned (.tuple #[.slice (some ⟨g, 0, none⟩) n n, .bool true]) ∧ Below w.heap.size w w' ∧ w.heap.size ≤ g ∧ Ow w' g n (ofL us ws) := by
  have hmk := makeI_run n (by omega)
  have HGW := hide (Od.waysB_yes HG.out).2.2.2
  go_enter Try.func30, Try.ntmps30
  go_wp2_with fail
  refine (suw_eq HU HW HA HB HG).mono ?_
  rintro e w0 ⟨rfl, hw0⟩
  obtain rfl : w = w0 := hw0.symm
  go_wp2_with fail
  go_loopw [6, 8, 19] (fun s6 _ s wr => ∃ (k : Nat), s = .int .i64 k ∧ k ≤ n ∧ wr.ownsRow w.heap.size 3 1 s6 k (ints ((negs ws).take k)) ∧ Below w.heap.size w wr) (fun _ _ s _ => n - (intOf s).toNat)
  case atStart => exact ⟨0, rfl, Nat.zero_le _, World.ownsRow_nil _ _ _ _, Below.refl _ _⟩
  case round =>
    obtain ⟨k, rfl, hk, hown, hB⟩ := hrel
    by_cases hlt : k < n
    · obtain ⟨ba, oa, rfl, r1⟩ := (HB.out.below hB).at (i := k) (by rw [HW.out]; exact hlt)
      have i0 : (0 : Int) ≤ (k : Int) := by omega
      have i1 : (k : Int) < (n : Int) := by omega
      have hx := Pf.inB_yes (Pf.allB_get HGW.out (show k < ws.length by rw [HW.out]; exact hlt))
      obtain ⟨v', w3, hr3, own3, hg3⟩ := push_int (x := - ws.getD k 0) hown (by omega) hB.size
      rw [← negs_step ws (by rw [HW.out]; exact hlt)] at own3
      have HO3 := hide own3
      have HB3 := hide (hB.trans (grown_under' hg3 hown (Nat.le_refl _) hB.size))
      generalize ws.getD k 0 = x at *
      have nx : wrap64 (-x) = -x := by unfold wrap64; omega
      clear hmk own3 hg3 hown hx
      go_wp2_with (first | (at_builtin; refine Lib.wpList_append_run _ rfl _ _ _ _ rfl _ _ rfl rfl _ _ (hr3 _) ?_))
      go_roundw
      case rel => exact ⟨k + 1, by go_num, by omega, HO3.out, HB3.out⟩
      case measure => simp only [intOf]; omega
    · have hke : k = n := by omega
      subst hke
      rw [show (negs ws).take k = negs ws by rw [← HW.out, ← negs_len ws, List.take_length]] at hown
      obtain ⟨an, cn, rfl, hrn⟩ := own_any7 (by rw [negs_len, HW.out]) hown
      have HN := hide hrn
      have HA2 := hide (HA.out.below hB)
      have HBw := hide hB
      clear hown hrn hB
      go_wp2_with fail
      refine (srank_any HU.out (by omega) HA2.out).mono ?_
      rintro e w2 ⟨v2, rfl, hb2, own2⟩
      obtain ⟨ag, cg, rfl, hrg⟩ := own_any7 (by rw [nats_len, Rk.rank_len, HU.out]) own2
      have HRG := hide hrg
      have HN2 := hide (HN.out.below hb2)
      have HBw2 := hide (HBw.out.trans (hb2.mono HBw.out.size))
      have HM := hide (made_own w2 k (by omega))
      have HBm := hide ((Below.refl w2.heap.size w2).alloc (Nat.le_refl _) (.cells (madeCells #[.int .i64 0] k) 3))
      have HN3 := hide (HN2.out.below HBm.out)
      have HZ : Hid (w2.heap.size < (w2.alloc (.cells (madeCells #[.int .i64 0] k) 3)).heap.size) := hide (by simp)
      clear own2 hrg hb2 HN HA2 HN2
      go_wp2_with fail
      generalize hW : w2.alloc (.cells (madeCells #[.int .i64 0] k) 3) = W at *
      clear hW hmk
      refine (srank_any (by rw [negs_len, HW.out]) (by omega) HN3.out).mono ?_
      rintro e w3 ⟨v3, rfl, hb3, own3⟩
      obtain ⟨ap, cp, rfl, hrp⟩ := own_any7 (by rw [nats_len, Rk.rank_len, negs_len, HW.out]) own3
      have HBw3 := hide (HBm.out.trans (hb3.mono HBm.out.size))
      have HM3 := hide (owns_keep HM.out (hb3.block _ HZ.out))
      have HP : Hid (∀ w', w3.grownBy w' (some w2.heap.size) → ARow w' ap (nats (Rk.rank (negs ws)))) := hide fun w' hg => by
        have h := own3.kept hg (by
          right
          intro e
          have h1 := (own3.lt w2.heap.size e).1
          have h2 := HZ.out
          omega)
        obtain ⟨a', c', e, hr⟩ := own_any7 (by rw [nats_len, Rk.rank_len, negs_len, HW.out]) h
        cases e
        exact hr
      have HGD : Hid (∀ w', w3.grownBy w' (some w2.heap.size) → ARow w' ag (nats (Rk.rank us))) := hide fun w' hg => HRG.out.below (HBw3.out.trans (grown_below' hg (Nat.le_refl _) HBw3.out.size))
      clear own3 hrp hb3 HM HBm HN3 HRG
      go_wp2_with fail
      go_loopw [11, 12, 37] (fun _ _ s wr => ∃ (q : Nat) (ys : List Int), s = .int .i64 q ∧ q ≤ k ∧ ys.length = k ∧ Hid (ys = putTo (Rk.rank us) (Rk.rank (negs ws)) k q) ∧ wr.ownsRow w2.heap.size 3 1 (.slice (some ⟨w2.heap.size, 0, none⟩) k k) k (ints ys) ∧ w3.grownBy wr (some w2.heap.size)) (fun _ _ s _ => k - (intOf s).toNat)
      case atStart => exact ⟨0, List.replicate k 0, rfl, Nat.zero_le _, by simp, hide rfl, HM3.out, World.grownBy.refl _ _⟩
      case round =>
        obtain ⟨q, ys, rfl, hq, hy, HT, hown, hg⟩ := hrel
        by_cases hql : q < k
        · have i0 : (0 : Int) ≤ (q : Int) := by omega
          have i1 : (q : Int) < (k : Int) := by omega
          obtain ⟨bp, op, rfl, r1⟩ := (HP.out _ hg).at (i := q) (by rw [nats_len, Rk.rank_len, negs_len, HW.out]; exact hql)
          obtain ⟨bg, og, rfl, r2⟩ := (HGD.out _ hg).at (i := q) (by rw [nats_len, Rk.rank_len, HU.out]; exact hql)
          rw [nats_get] at r1 r2
          have hp : (Rk.rank (negs ws)).getD q 0 < k := by have := rk_nth_lt (vs := negs ws) (k := q) (by rw [negs_len, HW.out]; exact hql); rwa [negs_len, HW.out] at this
          have HST0 : Hid (ys.set ((Rk.rank (negs ws)).getD q 0) (((Rk.rank us).getD q 0 : Nat) : Int) = putTo (Rk.rank us) (Rk.rank (negs ws)) k (q + 1)) := hide (by rw [HT.out]; rfl)
          generalize (Rk.rank (negs ws)).getD q 0 = p at *
          generalize (Rk.rank us).getD q 0 = x at *
          have p0 : (0 : Int) ≤ (p : Int) := by omega
          have p1 : (p : Int) < (k : Int) := by omega
          have c0 : wr.cell? ⟨w2.heap.size, p, none⟩ = some (.int .i64 (ys.getD p 0)) := by rw [hown.cellAt p (by omega), ints_get ys p (by omega)]
          have f0 := hown.frozenAt p
          obtain ⟨st1, st2⟩ := hown.stored p (.int .i64 (x : Int))
          rw [ints_set] at st1
          have HST := hide st1
          have HG3 : Hid (w3.grownBy (wr.setCell ⟨w2.heap.size, p, none⟩ (.int .i64 (x : Int))) (some w2.heap.size)) := hide ⟨st2.os.trans hg.os, st2.tape.trans hg.tape, st2.output.trans hg.output, Nat.le_trans hg.size st2.size, fun b hb hne => (st2.block b (Nat.lt_of_lt_of_le hb hg.size) hne).trans (hg.block b hb hne)⟩
          clear st1 st2 hown hg
          go_wp2_with fail
          go_roundw
          case rel => exact ⟨q + 1, ys.set p (x : Int), by go_num, by omega, by simpa using hy, HST0, HST.out, HG3.out⟩
          case measure => simp only [intOf]; omega
        · have hke : q = k := by omega
          subst hke
          obtain ⟨O3, h3⟩ := Ow.mk' hown
          have hys : ys = ofL us ws := by rw [HT.out, ofL, HU.out]
          rw [hys] at O3
          have HO3 := hide O3
          have HBF := hide (HBw2.out.trans ((HBw3.out.trans (grown_below' hg (Nat.le_refl _) HBw3.out.size)).mono HBw2.out.size))
          clear hown O3 hys
          go_wp2_with fail
          go_ret2
          exact ⟨_, rfl, HBF.out, HBw2.out.size, HO3.out⟩
theorem of_y {a b : Option Addr} {n m c d : Nat} {us ws : List Int} {w : World} (HU : Hid (us.length = n)) (HW : Hid (ws.length = m)) (HA : Hid (ARow w a us)) (HB : Hid (ARow w b ws)) (HG : Hid (Od.waysB us ws = true)) :
    Calls Try.prog 29 #[.slice a n c, .slice b m d] w fun e w' => ∃ g, e = .returned (.tuple #[.slice (some ⟨g, 0, none⟩) n n, .bool true]) ∧ Below w.heap.size w w' ∧ w.heap.size ≤ g ∧ Ow w' g n (ofL us ws) := by
  obtain ⟨g1, g2, _⟩ := Od.waysB_yes HG.out
  obtain rfl : n = m := by have := HU.out; have := HW.out; omega
  exact of_yes (by have := HU.out; omega) HU HW HA HB HG
theorem sof_y {a b : Option Addr} {n m c d : Nat} {us ws : List Int} {w : World} (HU : Hid (us.length = n)) (HW : Hid (ws.length = m)) (HA : Hid (ARow w a us)) (HB : Hid (ARow w b ws)) (HG : Hid (Od.waysB us ws = true)) :
    Calls Try.prog 30 #[.slice a n c, .slice b m d] w fun e w' => ∃ g, e = .returned (.tuple #[.slice (some ⟨g, 0, none⟩) n n, .bool true]) ∧ Below w.heap.size w w' ∧ w.heap.size ≤ g ∧ Ow w' g n (ofL us ws) := by
  obtain ⟨g1, g2, _⟩ := Od.waysB_yes HG.out
  obtain rfl : n = m := by have := HU.out; have := HW.out; omega
  exact sof_yes (by have := HU.out; omega) HU HW HA HB HG
theorem sof_r {a b : Option Addr} {n m c d : Nat} {us ws : List Int} {w : World} (HU : Hid (us.length = n)) (HW : Hid (ws.length = m)) (HA : Hid (ARow w a us)) (HB : Hid (ARow w b ws)) (HG : Hid (Od.waysB us ws = true)) :
    Calls Try.prog 30 #[.slice a n c, .slice b m d] w fun e w' => ∃ v cv, e = .returned (.tuple #[.slice v n cv, .bool true]) ∧ Below w.heap.size w w' ∧ ARow w' v (ofL us ws) :=
  (sof_y HU HW HA HB HG).mono fun _ _ ⟨_, he, hb, _, o⟩ => ⟨_, _, he, hb, o.row ((ofL_len _ _).trans HU.out)⟩
end Go.Proofs.Ytljccbnkibfimaa
