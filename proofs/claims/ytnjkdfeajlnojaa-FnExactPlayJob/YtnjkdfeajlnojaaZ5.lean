/-
  In one: Kq16, Na10, Nb10.
-/
import Derived.Test.YtnjkdfeajlnojaaZ4
namespace Go.Proofs.Ytnjkdfeajlnojaa
open Go.RowKit

def newV (xs ws : List Int) : Jb.J := if Mx.sameB xs ws then Jb.newJ xs ws else zeroJ
theorem new_no {xs ws : List Int} (h : Mx.sameB xs ws = false) : newV xs ws = zeroJ := by unfold newV; rw [h]; rfl
theorem new_yes {xs ws : List Int} (h : Mx.sameB xs ws = true) : newV xs ws = Jb.newJ xs ws := by unfold newV; rw [h]; rfl
theorem JV.zero (w : World) (lo : Nat) : JV w lo (.slice none 0 0) (.slice none 0 0) (.slice none 0 0) (.slice none 0 0) zeroJ :=
  { oa := World.ownsRow_nil _ _ _ _, ob := World.ownsRow_nil _ _ _ _, ol := World.ownsRow_nil _ _ _ _, om := World.ownsRow_nil _ _ _ _, ab := fun g e => by simp [Value.ownBlock] at e, al := fun g e => by simp [Value.ownBlock] at e, am := fun g e => by simp [Value.ownBlock] at e, bl := fun g e => by simp [Value.ownBlock] at e, bm := fun g e => by simp [Value.ownBlock] at e, lm := fun g e => by simp [Value.ownBlock] at e }
theorem JV.jr {w : World} {lo : Nat} {a b l m : Value} {x : Jb.J} (h : JV w lo a b l m x) : JR w lo w.heap.size (.agg #[a, b, l, m, .int .i64 x.f]) x :=
  ⟨a, b, l, m, rfl, h.oa, h.ob, (mo_own rfl h.ol).mv, (mo_own rfl h.om).mv, fun g e => by
    rcases e with e | e | e | e
    · exact h.oa.lt g e
    · exact h.ob.lt g e
    · exact h.ol.lt g (moB_own e)
    · exact h.om.lt g (moB_own e), Nat.le_refl _, h.ab, fun g e e' => h.al g e (moB_own e'), fun g e e' => h.am g e (moB_own e'), fun g e e' => h.bl g e (moB_own e'), fun g e e' => h.bm g e (moB_own e'), fun g e e' => h.lm g (moB_own e) (moB_own e')⟩
theorem nj_end {w W w1 w2 w3 Wf : World} {n m : Nat} {va vb vl : Value} {xs ws : List Int} (hx : xs.length = n) (hy : ws.length = m) (hs : w.heap.size < W.heap.size) (h1 : W.heap.size ≤ w1.heap.size) (g2 : Below w1.heap.size w1 w2) (g3 : Below w2.heap.size w2 w3)
    (ol : w1.ownsRow W.heap.size 41 2 vl (Mx.pmL xs ws).length (mce (Mx.pmL xs ws))) (oa : w2.ownsRow w1.heap.size 3 1 va n (ints xs)) (ob : w3.ownsRow w2.heap.size 3 1 vb m (ints ws)) (hf : ∀ g, g ≠ w.heap.size → Wf.heap[g]? = w3.heap[g]?) :
    JV Wf w.heap.size va vb vl (.slice none 0 0) (Jb.newJ xs ws) := by
  subst hx
  subst hy
  have s2 := g2.size
  have l2 := own_b16 ol g2
  have l3 := own_b16 l2 g3
  have a3 := own_b16 oa g3
  have fin : ∀ {base e s n : Nat} {v : Value} {ys : List Value}, w3.ownsRow base e s v n ys → w.heap.size < base → Wf.ownsRow w.heap.size e s v n ys := fun h hb =>
    owns_low (own_keep2 h fun g e _ => hf g (by have := (h.lt g e).1; omega)) (by omega)
  exact { oa := fin a3 (by omega), ob := fin ob (by omega), ol := fin l3 (by omega), om := World.ownsRow_nil _ _ _ _,
          ab := dis_new16 oa ob, al := (dis_new16 ol oa).symm, am := fun g _ e => by simp [Value.ownBlock] at e, bl := (dis_new16 l2 ob).symm, bm := fun g _ e => by simp [Value.ownBlock] at e, lm := fun g _ e => by simp [Value.ownBlock] at e }
set_option maxHeartbeats 4000000 in
theorem nj_w {a b : Option Addr} {n m c d : Nat} {xs ws : List Int} {w : World} (hx : xs.length = n) (hy : ws.length = m) (hc : n ≤ c) (hd : m ≤ d) (ha : ARow w a xs) (hb : ARow w b ws) :
    Calls Try.prog 11 #[.slice a n c, .slice b m d] w fun e w' => ∃ va vb vl vm, e = .returned (.tuple #[.agg #[va, vb, vl, vm, .int .i64 0], .bool (Mx.sameB xs ws)]) ∧ Below w.heap.size w w' ∧ JV w' w.heap.size va vb vl vm (newV xs ws) := by
  have JR0 := JW.new w 25 (.slice none 0 0) (.slice none 0 0) (.slice none 0 0) (.slice none 0 0) (.int .i64 0)
  have BW := below_new w (.cells #[.slice none 0 0, .slice none 0 0, .slice none 0 0, .slice none 0 0, .int .i64 0] 25)
  have hsz : (w.alloc (.cells #[.slice none 0 0, .slice none 0 0, .slice none 0 0, .slice none 0 0, .int .i64 0] 25)).heap.size = w.heap.size + 1 := World.size_alloc _ _
  generalize hW : w.alloc (.cells #[.slice none 0 0, .slice none 0 0, .slice none 0 0, .slice none 0 0, .int .i64 0] 25) = W at *
  have HP := hide (pm_o (w := W) hx hy hc hd (ha.below BW) (hb.below BW))
  have HA := hide (⟨ha, hb⟩ : _ ∧ _)
  have HX := hide (⟨hx, hy⟩ : _ ∧ _)
  have HJR := hide JR0
  have HBW := hide BW
  have HSZ := hide hsz
  have HW := hide hW
  clear JR0 BW ha hb hx hy hsz hW
  go_enter Try.func11, Try.ntmps11
  go_upto_region 1 with fail
  rw [HW.out]
  clear HW
  go_wp2_with fail
  refine HP.out.mono ?_
  rintro e w1 ⟨vl, rfl, hb1, hol⟩
  obtain ⟨u3, t3, rfl⟩ := own_f16 hol
  clear HP
  cases hs : Mx.sameB xs ws
  · have e1 := new_no hs
    have HBF := hide ((HBW.out.trans (hb1.mono HBW.out.size)).trans (put5_below (w := w1) (B := w.heap.size) (a := .slice none 0 0) (b := .slice none 0 0) (l := .slice none 0 0) (m := .slice none 0 0) (f := .int .i64 0) (Nat.le_refl _)))
    have J1 := HJR.out.below hb1
    obtain ⟨q0, q1, q2, q3, q4⟩ := J1.cells
    have z0 := J1.fz 0
    have z1 := J1.fz 1
    have z2 := J1.fz 2
    have z3 := J1.fz 3
    have z4 := J1.fz 4
    have HJ9 := hide (J1.put5 (.slice none 0 0) (.slice none 0 0) (.slice none 0 0) (.slice none 0 0) (.int .i64 0)).cells
    clear hb1 J1 hol
    go_wp2_with fail
    show bodyPost _ _ _ _ _ (put5 w1 w.heap.size (.slice none 0 0) (.slice none 0 0) (.slice none 0 0) (.slice none 0 0) (.int .i64 0))
    generalize put5 w1 w.heap.size (.slice none 0 0) (.slice none 0 0) (.slice none 0 0) (.slice none 0 0) (.int .i64 0) = Wf at *
    obtain ⟨k0, k1, k2, k3, k4⟩ := HJ9.out
    exact bodyPost_ret (v := .tuple #[.agg #[.slice none 0 0, .slice none 0 0, .slice none 0 0, .slice none 0 0, .int .i64 0], .bool false]) (by simp [results, Try.results11, go_sem, k0, k1, k2, k3, k4]) rfl ⟨_, _, _, _, by rw [hs], HBF.out, by rw [e1]; exact JV.zero _ _⟩
  · have e1 := new_yes hs
    have hl := Mx.good_len (Mx.same_good hs).1
    have hl2 := (Mx.same_good hs).2.2.length_eq
    obtain ⟨x1, x2⟩ := HX.out
    obtain ⟨b1, o1, rfl, g1, hc1⟩ := (HA.out.1).resolve_left (fun e => by rw [e] at hl; simp at hl)
    have hl3 : 1 ≤ ws.length := by omega
    obtain ⟨b2, o2, rfl, g2, hc2⟩ := (HA.out.2).resolve_left (fun e => by rw [e] at hl3; simp at hl3)
    have B1 := HBW.out.trans (hb1.mono HBW.out.size)
    have HC1 := hide (clone_any (c := c) (w := w1) (b := b1) (o := o1) x1 (by omega) fun i hi => (B1.cell (p := ⟨b1, o1 + i, none⟩) g1).trans (hc1 i hi))
    have HC2 := hide fun (W' : World) (h : Below w1.heap.size w1 W') => clone_any (c := d) (w := W') (b := b2) (o := o2) x2 (by omega) fun i hi => ((B1.trans (h.mono B1.size)).cell (p := ⟨b2, o2 + i, none⟩) g2).trans (hc2 i hi)
    have J1 := hide (HJR.out.below hb1)
    have HB1 := hide B1
    have HL1 := hide hol
    have HN := hide (⟨x1, x2⟩ : _ ∧ _)
    clear B1 hc1 hc2 g1 g2 hol hl hl2 x1 x2 HX HA
    have HSL := hide (show W.heap.size ≤ w1.heap.size from hb1.size)
    clear hb1
    go_wp2_with fail
    refine HC1.out.mono ?_
    rintro e w2 ⟨va, rfl, gb2, oa⟩
    obtain ⟨u1, t1, rfl⟩ := own_f16 oa
    have HC3 := hide (HC2.out w2 gb2)
    have G2 := hide gb2
    have OA := hide oa
    have J2 := hide (J1.out.below gb2)
    clear gb2 oa HC1 HC2 J1
    go_wp2_with fail
    refine HC3.out.mono ?_
    rintro e w3 ⟨vb, rfl, gb3, ob⟩
    obtain ⟨u2, t2, rfl⟩ := own_f16 ob
    have J3 := J2.out.below gb3
    have HBF := hide (((HB1.out.trans (G2.out.mono HB1.out.size)).trans (gb3.mono (Nat.le_trans HB1.out.size G2.out.size))).trans (put5_below (w := w3) (B := w.heap.size) (a := .slice u1 n t1) (b := .slice u2 m t2) (l := .slice u3 (Mx.pmL xs ws).length t3) (m := .slice none 0 0) (f := .int .i64 0) (Nat.le_refl _)))
    have hjv := nj_end (Wf := put5 w3 w.heap.size (.slice u1 n t1) (.slice u2 m t2) (.slice u3 (Mx.pmL xs ws).length t3) (.slice none 0 0) (.int .i64 0)) HN.out.1 HN.out.2 (by have := HSZ.out; omega) HSL.out G2.out gb3 HL1.out OA.out ob (fun g hg => put5_same hg)
    have HJV := hide hjv
    obtain ⟨q0, q1, q2, q3, q4⟩ := J3.cells
    have z0 := J3.fz 0
    have z1 := J3.fz 1
    have z2 := J3.fz 2
    have z3 := J3.fz 3
    have z4 := J3.fz 4
    have HJ9 := hide (J3.put5 (.slice u1 n t1) (.slice u2 m t2) (.slice u3 (Mx.pmL xs ws).length t3) (.slice none 0 0) (.int .i64 0)).cells
    clear gb3 ob J3 hjv HC3 J2 OA G2
    go_wp2_with fail
    show bodyPost _ _ _ _ _ (put5 w3 w.heap.size (.slice u1 n t1) (.slice u2 m t2) (.slice u3 (Mx.pmL xs ws).length t3) (.slice none 0 0) (.int .i64 0))
    generalize put5 w3 w.heap.size (.slice u1 n t1) (.slice u2 m t2) (.slice u3 (Mx.pmL xs ws).length t3) (.slice none 0 0) (.int .i64 0) = Wf at *
    obtain ⟨k0, k1, k2, k3, k4⟩ := HJ9.out
    exact bodyPost_ret (v := .tuple #[.agg #[.slice u1 n t1, .slice u2 m t2, .slice u3 (Mx.pmL xs ws).length t3, .slice none 0 0, .int .i64 0], .bool true]) (by simp [results, Try.results11, go_sem, k0, k1, k2, k3, k4]) rfl ⟨_, _, _, _, by rw [hs], HBF.out, by rw [e1]; exact HJV.out⟩
end Go.Proofs.Ytnjkdfeajlnojaa
namespace Go.Proofs.Ytnjkdfeajlnojaa
open Go.RowKit

theorem home_gt {xs ws : List Int} {n k : Nat} (h2 : Mv.Two n (Mx.fn xs) (Mx.fn ws)) (hk : k < n) : Mx.homeAt xs ws k = (decide (0 < ws.getD k 0) && (xs.getD k 0 == 0)) := by
  have := h2.sb.ge k hk
  have h' : 0 ≤ ws.getD k 0 := this
  unfold Mx.homeAt
  by_cases h : ws.getD k 0 = 0
  · rw [h]; simp
  · rw [show (ws.getD k 0 != 0) = true from bne_iff_ne.2 h, show decide (0 < ws.getD k 0) = true by simp only [decide_eq_true_eq]; omega]
theorem aside_gt {xs ws : List Int} {n k : Nat} (h2 : Mv.Two n (Mx.fn xs) (Mx.fn ws)) (hk : k < n) (hh : Mx.homeAt xs ws k = false) : Mx.asideAt xs ws k = (decide (0 < xs.getD k 0) && (ws.getD k 0 != xs.getD k 0)) := by
  have hx' : 0 ≤ xs.getD k 0 := h2.sa.ge k hk
  unfold Mx.homeAt at hh
  unfold Mx.asideAt
  by_cases h : xs.getD k 0 = 0
  · rw [h] at hh ⊢
    have hw : ws.getD k 0 = 0 := by
      rw [Bool.and_eq_false_iff] at hh
      rcases hh with hh | hh
      · exact bne_eq_false_iff_eq.1 hh
      · simp at hh
    rw [hw]; simp
  · rw [show decide (0 < xs.getD k 0) = true by simp only [decide_eq_true_eq]; omega, Bool.true_and]
    by_cases e : xs.getD k 0 = ws.getD k 0
    · rw [e]
    · rw [bne_iff_ne.2 e, bne_iff_ne.2 (Ne.symm e)]
def NsP (w : World) (o : Option (Int × Int)) (e : Ending) (w' : World) : Prop := ∃ F T, e = .returned (.agg #[.int .i64 F, .int .i64 T]) ∧ ((o = some (F, T) ∧ 0 ≤ F) ∨ (o = none ∧ F = -1)) ∧ Below w.heap.size w w'
set_option maxHeartbeats 4000000 in
theorem ln_any {a b : Option Addr} {n c d : Nat} {xs ws : List Int} {w : World} (hx : xs.length = n) (hy : ws.length = n) (hn : n ≤ 1000) (h2 : Mv.Two n (Mx.fn xs) (Mx.fn ws)) (ha : ARow w a xs) (hbw : ARow w b ws) :
    Calls Try.prog 58 #[.slice a n c, .slice b n d] w (NsP w (Mx.nextM xs ws)) := by
  have hb := below_new w (.cells #[.int .i64 0, .int .i64 0] 41)
  have r0 : (w.alloc (.cells #[.int .i64 0, .int .i64 0] 41)).cell? ⟨w.heap.size, 0, none⟩ = some (.int .i64 0) := by simp
  have r1 : (w.alloc (.cells #[.int .i64 0, .int .i64 0] 41)).cell? ⟨w.heap.size, 1, none⟩ = some (.int .i64 0) := by simp
  have r2 : (w.alloc (.cells #[.int .i64 0, .int .i64 0] 41)).frozen? ⟨w.heap.size, 0, none⟩ = false := by simp [go_sem]
  have r3 : (w.alloc (.cells #[.int .i64 0, .int .i64 0] 41)).frozen? ⟨w.heap.size, 1, none⟩ = false := by simp [go_sem]
  obtain ⟨W2, hW2⟩ : ∃ W, W = w.alloc (.cells #[.int .i64 0, .int .i64 0] 41) := ⟨_, rfl⟩
  rw [← hW2] at hb r0 r1 r2 r3
  have HA := hide (ha.below hb)
  have HBB := hide (hbw.below hb)
  have HB := hide hb
  have HW2 := hide hW2.symm
  obtain ⟨B, hB⟩ : ∃ B, B = w.heap.size := ⟨_, rfl⟩
  rw [← hB] at r0 r1 r2 r3
  have HBe := hide hB.symm
  have HBS := hide fun (x y : Value) => ((hb.setCell (p := ⟨B, 0, none⟩) (by show w.heap.size ≤ B; omega) x).setCell (p := ⟨B, 1, none⟩) (by show w.heap.size ≤ B; omega) y)
  have HX := hide hx
  have HY := hide hy
  have HT := hide h2
  have HNXT := hide fun (m : Int × Int) (h : Mx.nextM xs ws = some m) => show 0 ≤ m.1 by
    obtain ⟨⟨f, t, hq⟩, _⟩ := Mx.next_yes hx hy h2 h
    rw [hq.e]; simp
  have HNH := hide fun (m : Int × Int) (h : homeM xs ws = some m) => next_h h
  have HNA := hide fun (h : homeM xs ws = none) => next_a h
  generalize Mx.nextM xs ws = ON at *
  clear hb hW2 hB ha hbw hx hy h2
  go_enter Try.func58, Try.ntmps58
  go_upto_region 1 with fail
  rw [HW2.out, HBe.out]
  clear HW2 HBe
  go_wp2_with fail
  go_loop [5, 6, 11] (fun _ _ s => ∃ k : Nat, s = .int .i64 k ∧ k ≤ n ∧ Hid (∀ j, j < k → Mx.homeAt xs ws j = false)) (fun _ _ s => n - (intOf s).toNat)
  case atStart => exact ⟨0, rfl, Nat.zero_le _, hide fun j hj => absurd hj (Nat.not_lt_zero _)⟩
  case round =>
    obtain ⟨k, rfl, hk, HK⟩ := hrel
    by_cases hlt : k < n
    · obtain ⟨b1, o1, rfl, q1⟩ := HBB.out.at (i := k) (by rw [HY.out]; exact hlt)
      obtain ⟨b2, o2, rfl, q2⟩ := HA.out.at (i := k) (by rw [HX.out]; exact hlt)
      have i0 : (0 : Int) ≤ (k : Int) := by omega
      have i1 : (k : Int) < (n : Int) := by omega
      have HNX := hide fun (h : Mx.homeAt xs ws k = false) => show ∀ j, j < k + 1 → Mx.homeAt xs ws j = false from fun j hj => by
        by_cases e : j = k
        · subst e; exact h
        · exact HK.out j (by omega)
      have HYS := hide fun (h : Mx.homeAt xs ws k = true) => HNH.out _ (home_is HY.out hlt h HK.out)
      have HDF := hide (home_gt HT.out hlt)
      have HIX := hide (sp_any (w := W2) (c := c) (x := ws.getD k 0) HX.out (by omega) HA.out)
      generalize Ma.idx xs (ws.getD k 0) = J at *
      generalize ws.getD k 0 = g at *
      generalize xs.getD k 0 = x at *
      by_cases hg : 0 < g
      · have hg' : decide (0 < g) = true := by simp [hg]
        cases hx0 : (x == 0)
        · have H1 := hide (HNX.out (by rw [HDF.out, hx0]; simp))
          clear hg'
          go_wp2_with fail
          go_round
          case rel => exact ⟨k + 1, by go_num, by omega, H1⟩
          case measure => simp only [intOf]; omega
        · have H1 := hide (HYS.out (by rw [HDF.out, hg', hx0]; rfl))
          have H2 := hide (HNXT.out _ H1.out)
          have HFIN := hide (HBS.out (.int .i64 J) (.int .i64 (k : Int)))
          clear hg'
          go_wp2_with fail
          refine HIX.out.mono ?_
          rintro e w3 ⟨rfl, hw3⟩
          obtain rfl : W2 = w3 := hw3.symm
          go_wp2_with fail
          exact bodyPost_ret (v := .agg #[.int .i64 J, .int .i64 (k : Int)]) (by simp [results, Try.results58, go_sem, *]) rfl ⟨J, (k : Int), rfl, Or.inl ⟨H1.out, H2.out⟩, HFIN.out⟩
      · have hg' : decide (0 < g) = false := by simp; omega
        have H1 := hide (HNX.out (by rw [HDF.out, hg']; rfl))
        clear hg'
        go_wp2_with fail
        go_round
        case rel => exact ⟨k + 1, by go_num, by omega, H1⟩
        case measure => simp only [intOf]; omega
    · have hke : k = n := by omega
      subst hke
      have HNO := hide (HNA.out (home_no HY.out HK.out))
      clear HNH HNA
      go_wp2_with fail
      go_loop [7, 8, 33] (fun _ _ s => ∃ i : Nat, s = .int .i64 i ∧ i ≤ k ∧ Hid (∀ j, j < i → Mx.asideAt xs ws j = false)) (fun _ _ s => k - (intOf s).toNat)
      case atStart => exact ⟨0, rfl, Nat.zero_le _, hide fun j hj => absurd hj (Nat.not_lt_zero _)⟩
      case round =>
        obtain ⟨i, rfl, hi, HI⟩ := hrel
        by_cases hli : i < k
        · obtain ⟨b1, o1, rfl, q1⟩ := HBB.out.at (i := i) (by rw [HY.out]; exact hli)
          obtain ⟨b2, o2, rfl, q2⟩ := HA.out.at (i := i) (by rw [HX.out]; exact hli)
          have i0 : (0 : Int) ≤ (i : Int) := by omega
          have i1 : (i : Int) < (k : Int) := by omega
          have HNX := hide fun (h : Mx.asideAt xs ws i = false) => show ∀ j, j < i + 1 → Mx.asideAt xs ws j = false from fun j hj => by
            by_cases e : j = i
            · subst e; exact h
            · exact HI.out j (by omega)
          have HYS := hide fun (h : Mx.asideAt xs ws i = true) => HNO.out.trans (aside_is HX.out hli h HI.out)
          have HDF := hide (aside_gt HT.out hli (HK.out i hli))
          have HIX := hide (sp_any (w := W2) (c := c) (x := 0) HX.out (by omega) HA.out)
          generalize Ma.idx xs 0 = J at *
          generalize ws.getD i 0 = g at *
          generalize xs.getD i 0 = x at *
          by_cases hg : 0 < x
          · have hg' : decide (0 < x) = true := by simp [hg]
            cases hx0 : (g != x)
            · have H1 := hide (HNX.out (by rw [HDF.out, hx0]; simp))
              clear hg'
              go_wp2_with fail
              go_round
              case rel => exact ⟨i + 1, by go_num, by omega, H1⟩
              case measure => simp only [intOf]; omega
            · have H1 := hide (HYS.out (by rw [HDF.out, hg', hx0]; rfl))
              have H2 := hide (HNXT.out _ H1.out)
              have HFIN := hide (HBS.out (.int .i64 (i : Int)) (.int .i64 J))
              clear hg'
              go_wp2_with fail
              refine HIX.out.mono ?_
              rintro e w3 ⟨rfl, hw3⟩
              obtain rfl : W2 = w3 := hw3.symm
              go_wp2_with fail
              exact bodyPost_ret (v := .agg #[.int .i64 (i : Int), .int .i64 J]) (by simp [results, Try.results58, go_sem, *]) rfl ⟨(i : Int), J, rfl, Or.inl ⟨H1.out, H2.out⟩, HFIN.out⟩
          · have hg' : decide (0 < x) = false := by simp; omega
            have H1 := hide (HNX.out (by rw [HDF.out, hg']; rfl))
            clear hg'
            go_wp2_with fail
            go_round
            case rel => exact ⟨i + 1, by go_num, by omega, H1⟩
            case measure => simp only [intOf]; omega
        · have hie : i = k := by omega
          subst hie
          have H1 := hide (HNO.out.trans (aside_no HX.out HI.out))
          have HFIN := hide (HBS.out (.int .i64 (-1)) (.int .i64 0))
          go_wp2_with fail
          exact bodyPost_ret (v := .agg #[.int .i64 (-1), .int .i64 0]) (by simp [results, Try.results58, go_sem, *]) rfl ⟨-1, 0, rfl, Or.inr ⟨H1.out, rfl⟩, HFIN.out⟩
end Go.Proofs.Ytnjkdfeajlnojaa
namespace Go.Proofs.Ytnjkdfeajlnojaa
open Go.RowKit

theorem nx_can {n f t : Nat} {cur ws : List Int} {m : Int × Int} (hc : cur.length = n) (h : Mx.Nx n cur ws m f t) : Mx.canB cur m = true := by
  obtain ⟨rfl, hf, ht, hcan, _⟩ := h
  rw [can_at hc hf ht]
  have h1 : 0 < cur.getD f 0 := hcan.af
  have h2 : cur.getD t 0 = 0 := hcan.at0
  rw [h2, show (cur.getD f 0 != 0) = true from bne_iff_ne.2 (by omega)]; rfl
theorem set2_grown {w w' : World} {B : Nat} {x y : Value} (h : w' = (w.setCell ⟨B, 0, none⟩ x).setCell ⟨B, 1, none⟩ y) : w.grownBy w' (some B) := by
  subst h; exact grownF_set (grownF_set (World.grownBy.refl _ _))
theorem set2_cells {w : World} {B : Nat} {x y u v : Value} (h0 : w.cell? ⟨B, 0, none⟩ = some u) (h1 : w.cell? ⟨B, 1, none⟩ = some v) : ((w.setCell ⟨B, 0, none⟩ x).setCell ⟨B, 1, none⟩ y).cell? ⟨B, 0, none⟩ = some x ∧ ((w.setCell ⟨B, 0, none⟩ x).setCell ⟨B, 1, none⟩ y).cell? ⟨B, 1, none⟩ = some y := by
  have ne : ∀ {W : World} {a b : Nat} {v : Value}, a ≠ b → (W.setCell ⟨B, a, none⟩ v).cell? ⟨B, b, none⟩ = W.cell? ⟨B, b, none⟩ := fun hne => World.cell?_setCell_other _ _ _ _ (fun e' => hne (by injection e'))
  refine ⟨(ne (by omega)).trans (setF1 (by rw [h0]; rfl)), setF1 ?_⟩
  rw [ne (by omega), h1]; rfl
theorem kept_ne {w w' : World} {base e s n B : Nat} {v : Value} {xs : List Value} (h : w.ownsRow base e s v n xs) (hg : w.grownBy w' (some B)) (hne : ∀ b, v.ownBlock = some b → b ≠ B) : w'.ownsRow base e s v n xs :=
  h.kept hg (Or.inr fun e => hne B e rfl)
set_option maxHeartbeats 400000 in
theorem spm_no {a b : Option Addr} {n m c d : Nat} {xs ws : List Int} {w : World} (HX : Hid (xs.length = n)) (HY : Hid (ws.length = m)) (hc : n ≤ c) (hd : m ≤ d) (HA : Hid (ARow w a xs)) (HB : Hid (ARow w b ws)) (HG : Hid (Mx.sameB xs ws = false)) :
    Calls Try.prog 33 #[.slice a n c, .slice b m d] w fun e w' => e = .returned (.tuple #[.slice none 0 0, .bool false]) ∧ Below w.heap.size w w' := by
  go_enter Try.func33, Try.ntmps33
  go_wp2_with fail
  refine (lb_eq HX HY hc hd HA HB HG).mono ?_
  rintro e w1 ⟨rfl, hw1⟩
  obtain rfl : w = w1 := hw1.symm
  go_wp2_with fail
  go_ret2
  exact ⟨rfl, Below.refl _ _⟩
set_option maxRecDepth 20000 in
set_option maxHeartbeats 4000000 in
theorem spm_yes {a b : Option Addr} {n c d : Nat} {xs ws : List Int} {w : World} (HX : Hid (xs.length = n)) (HY : Hid (ws.length = n)) (hc : n ≤ c) (hd : n ≤ d) (HA : Hid (ARow w a xs)) (HBR : Hid (ARow w b ws)) (HG : Hid (Mx.sameB xs ws = true)) :
    Calls Try.prog 33 #[.slice a n c, .slice b n d] w fun e w' => ∃ v, e = .returned (.tuple #[v, .bool true]) ∧ Below w.heap.size w w' ∧ w'.ownsRow w.heap.size 41 2 v (Mx.plan 20 xs ws).length (mce (Mx.plan 20 xs ws)) := by
  have hn := Mx.good_len (Mx.same_good HG.out).1
  rw [HX.out] at hn
  obtain ⟨n2, n9⟩ := hn
  obtain ⟨g0, hp0⟩ := Mx.pi_start HG.out HX.out
  have HP0 := hide hp0
  have HST := hide fun (gk : Nat) (cur : List Int) (p : List (Int × Int)) (m : Int × Int) (h : Mx.PI n gk xs ws cur p) (hm : Mx.nextM cur ws = some m) => Mx.pi_step h HY.out hm
  have HEN := hide fun (gk : Nat) (cur : List Int) (p : List (Int × Int)) (h : Mx.PI n gk xs ws cur p) (hm : Mx.nextM cur ws = none) => Mx.pi_end h hm
  have HLN := hide fun (gk : Nat) (cur : List Int) (p : List (Int × Int)) (h : Mx.PI n gk xs ws cur p) => show cur.length = n ∧ p.length ≤ 16 ∧ Mv.Two n (Mx.fn cur) (Mx.fn ws) from ⟨h.1, by have := h.2.2.2.1; omega, h.2.1⟩
  have HL0 := hide (HLN.out _ _ _ hp0)
  generalize Mx.plan 20 xs ws = PL at *
  obtain ⟨v, w2, hr2, own2, hb2⟩ := cl_run (c := c) HX.out (by omega) HA.out
  obtain ⟨g, cap, rfl, hg0, hg1⟩ := own_some10 own2 (by omega)
  have HO2 := hide own2
  have HB2 := hide hb2
  have HLX := hide (ln_any (w := w2) (c := cap) (d := d) HX.out HY.out (by omega) HL0.out.2.2 (arow_owns HX.out.symm own2) (HBR.out.below hb2))
  clear hp0 own2 hb2 HL0
  go_enter Try.func33, Try.ntmps33
  go_wp2_with fail
  refine (lb_eq HX HY hc hd HA HBR HG).mono ?_
  rintro e w1 ⟨rfl, hw1⟩
  obtain rfl : w = w1 := hw1.symm
  go_wp2_with (first | (at_builtin; refine Lib.wpList_append_run _ rfl _ _ _ _ rfl _ _ rfl rfl _ _ (hr2 _) ?_))
  clear hr2
  refine HLX.out.mono ?_
  rintro e w3 ⟨F0, T0, rfl, hs0, hb3⟩
  have HS0 := hide hs0
  have bV := below_new w3 (.cells #[.int .i64 F0, .int .i64 T0] 41)
  have hbx := PBox.new w3 (.int .i64 F0) (.int .i64 T0) 41
  have hb4 := hb3.trans (bV.mono hb3.size)
  have HO4 := hide (g_own HO2.out hb4)
  have HB4 := hide (HB2.out.trans (hb4.mono HB2.out.size))
  obtain ⟨W4, hW4⟩ : ∃ W, W = w3.alloc (.cells #[.int .i64 F0, .int .i64 T0] 41) := ⟨_, rfl⟩
  rw [← hW4] at hbx HO4 HB4
  have HW4 := hide hW4.symm
  obtain ⟨B0, hB0⟩ : ∃ B, B = w3.heap.size := ⟨_, rfl⟩
  rw [← hB0] at hbx
  have HB0 := hide hB0.symm
  have hgB : g < B0 := by have := hb3.size; omega
  have HPB := hide hbx
  have hg4 := (HO4.out.lt g rfl).2
  have hz4 := HB4.out.size
  clear hs0 bV hbx hb4 hb3 hW4 hB0 HLX
  go_wp2_with fail
  rw [HW4.out, HB0.out]
  clear HW4 HB0
  go_loopg [7, 8] g0 (fun gk v s8 wr => ∃ (cur : List Int) (p : List (Int × Int)) (BM : Nat) (F T : Int), s8 = .pointer (some ⟨BM, 0, none⟩) ∧ g < BM ∧ Hid (Mx.PI n gk xs ws cur p) ∧ Hid (wr.ownsRow w.heap.size 3 1 (.slice (some ⟨g, 0, none⟩) n cap) n (ints cur)) ∧ Hid (wr.ownsRow W4.heap.size 41 2 v p.length (mce p)) ∧ Hid (PBox wr BM (.int .i64 F) (.int .i64 T)) ∧ Hid (∀ b, v.ownBlock = some b → b ≠ BM) ∧ Hid ((Mx.nextM cur ws = some (F, T) ∧ 0 ≤ F) ∨ (Mx.nextM cur ws = none ∧ F = -1)) ∧ Hid (Below w.heap.size w wr) ∧ W4.heap.size ≤ wr.heap.size)
  case atStart => exact ⟨xs, [], B0, F0, T0, rfl, hgB, HP0, HO4, hide (World.ownsRow_nil _ _ _ _), HPB, hide (fun b e => by simp [Value.ownBlock] at e), HS0, HB4, Nat.le_refl _⟩
  case round =>
    obtain ⟨cur, p, BM, F, T, rfl, hgBM, HP, HO, HOP, HPX, HNB, HS, HB, hzr⟩ := hrel
    obtain ⟨hcl, hpl, _⟩ := HLN.out _ _ _ HP.out
    have x0 := HPX.out.1
    have x1 := HPX.out.2.1
    have x2 := HPX.out.2.2
    obtain ⟨av, cv, hu⟩ := own_formM HOP.out
    subst hu
    rcases HS.out with ⟨hs, hF⟩ | ⟨hs, hF⟩
    · obtain ⟨f, t, hnx, hgk, hpi⟩ := HST.out _ _ _ _ HP.out hs
      have hcan := nx_can hcl hnx
      have hme := hnx.e
      simp only [Prod.mk.injEq] at hme
      obtain ⟨rfl, rfl⟩ := hme
      have haf : aft cur ((f : Int), (t : Int)) = Mx.mv cur ((f : Int), (t : Int)) := by unfold aft; rw [hcan]; rfl
      have HLD := hide (ld_any (F := (f : Int)) (T := (t : Int)) hcl HO.out)
      rw [haf] at HLD
      have HPN := hide hpi
      obtain ⟨hcl2, hpl2, htwo⟩ := HLN.out _ _ _ hpi
      have HTW := hide htwo
      have HC2 := hide hcl2
      have f0 : (0 : Int) ≤ (f : Int) := by omega
      generalize Mx.mv cur ((f : Int), (t : Int)) = nxt at *
      clear hnx hpi hcan haf htwo hcl2 hs HS
      go_wp2_with fail
      refine HLD.out.mono ?_
      rintro e w5 ⟨rfl, own5, hg5⟩
      have HO5 := hide own5
      have hgW : g < W4.heap.size := hg4
      have HOP5 := hide (kept_hi HOP.out (Nat.le_refl _) hg5 hgW)
      have HPX5 := hide (pbox_hi HPX.out hg5 (fun b e => by cases e; omega))
      have HB5 := hide (HB.out.trans (grown_under10 hg5 (fun b e => by cases e; exact hg0) HB.out.size))
      have hz5 := hg5.size
      have y0 := HPX5.out.1
      have y1 := HPX5.out.2.1
      obtain ⟨v6, w6, hr6, own6, hg6⟩ := push_mv (x := (f : Int)) (y := (t : Int)) HOP5.out (by omega) (by omega)
      rw [← mce_snoc p ((f : Int), (t : Int))] at own6
      have HOP6 := hide own6
      have HO6 := hide (kept_lo HO5.out HOP5.out (Nat.le_refl _) hg6 hgW)
      have HPX6 := hide (pbox_hi HPX5.out hg6 (fun b e => HNB.out b e))
      have HB6 := hide (HB5.out.trans (grown_under10 hg6 (fun b e => by have := (HOP5.out.lt b e).1; omega) HB5.out.size))
      have hz6 := hg6.size
      have u0 := HPX6.out.1
      have u1 := HPX6.out.2.1
      have bV := below_new w6 (.cells #[.int .i64 (f : Int), .int .i64 (t : Int)] 41)
      have hbx := PBox.new w6 (.int .i64 (f : Int)) (.int .i64 (t : Int)) 41
      have fz0 : (w6.alloc (.cells #[.int .i64 (f : Int), .int .i64 (t : Int)] 41)).frozen? ⟨w6.heap.size, 0, none⟩ = false := by simp [go_sem]
      have fz1 : (w6.alloc (.cells #[.int .i64 (f : Int), .int .i64 (t : Int)] 41)).frozen? ⟨w6.heap.size, 1, none⟩ = false := by simp [go_sem]
      have HO7 := hide (g_own HO6.out bV)
      have HOP7 := hide (g_own HOP6.out bV)
      have HB7 := hide (HB6.out.trans (bV.mono HB6.out.size))
      have hz7 := bV.size
      have HNB7 := hide fun (b : Nat) (e : v6.ownBlock = some b) => show b < w6.heap.size from (HOP6.out.lt b e).2
      have hg6' := (HO6.out.lt g rfl).2
      obtain ⟨W7, hW7⟩ : ∃ W, W = w6.alloc (.cells #[.int .i64 (f : Int), .int .i64 (t : Int)] 41) := ⟨_, rfl⟩
      rw [← hW7] at hbx fz0 fz1 HO7 HOP7 HB7 hz7
      have HW7 := hide hW7.symm
      obtain ⟨BN, hBN⟩ : ∃ B, B = w6.heap.size := ⟨_, rfl⟩
      rw [← hBN] at hbx fz0 fz1 HNB7 hg6'
      have HBN := hide hBN.symm
      have hBW : BN < W7.heap.size := hbx.2.2
      have HBX7 := hide hbx
      have HL7 := hide (ln_any (w := W7) (c := cap) (d := d) HC2.out HY.out (by omega) HTW.out (arow_owns HC2.out.symm HO7.out) (HBR.out.below HB7.out))
      clear own5 hg5 own6 hg6 bV hbx hW7 hBN HLD HTW
      go_upto_region 10 with (at_builtin; refine Lib.wpList_append_run _ rfl _ _ _ _ rfl _ _ rfl rfl _ _ (hr6 _) ?_)
      clear hr6
      go_upto_region 7 with fail
      rw [HW7.out, HBN.out]
      clear HW7 HBN
      go_wp2_with fail
      refine HL7.out.mono ?_
      rintro e w8 ⟨F', T', rfl, hs8, hb8⟩
      have HS8 := hide hs8
      have HPX8 := HBX7.out.below hb8
      have e0 := HPX8.1
      have e1 := HPX8.2.1
      have e2 := (hb8.frozen (p := ⟨BN, 0, none⟩) hBW).trans fz0
      have e3 := (hb8.frozen (p := ⟨BN, 1, none⟩) hBW).trans fz1
      have hset := set2_grown (w := w8) (B := BN) (x := .int .i64 F') (y := .int .i64 T') rfl
      have hcells := set2_cells (x := .int .i64 F') (y := .int .i64 T') e0 e1
      have HO9 := hide (kept_ne (g_own HO7.out hb8) hset (fun b e => by cases e; first | exact Nat.ne_of_lt hg6' | exact Nat.ne_of_gt hg6'))
      have HOP9 := hide (kept_ne (g_own HOP7.out hb8) hset (fun b e => by have := HNB7.out b e; omega))
      have HPX9 : Hid (PBox ((w8.setCell ⟨BN, 0, none⟩ (.int .i64 F')).setCell ⟨BN, 1, none⟩ (.int .i64 T')) BN (.int .i64 F') (.int .i64 T')) := hide ⟨hcells.1, hcells.2, Nat.lt_of_lt_of_le HPX8.2.2 hset.size⟩
      have HB8 := HB7.out.trans (hb8.mono HB7.out.size)
      have HB9 := hide (HB8.trans (grown_under10 hset (fun b e => by cases e; have := HB6.out.size; omega) HB8.size))
      have hz9 : W4.heap.size ≤ ((w8.setCell ⟨BN, 0, none⟩ (.int .i64 F')).setCell ⟨BN, 1, none⟩ (.int .i64 T')).heap.size := by have := hset.size; have := hb8.size; omega
      clear hs8 hb8 hset hcells HB8 HL7 HPX8
      go_wp2_with fail
      go_roundg (gk - 1)
      case measure => omega
      case rel => exact ⟨nxt, p ++ [((f : Int), (t : Int))], BN, F', T', rfl, hg6', HPN, HO9, by rw [List.length_append]; exact HOP9, HPX9, hide (fun b e => by have := HNB7.out b e; omega), HS8, HB9, hz9⟩
    · subst hF
      have hpe := HEN.out _ _ _ HP.out hs
      subst hpe
      have HFIN := hide (owns_low HOP.out hz4)
      clear hs HS
      go_wp2_with fail
      go_ret2
      exact ⟨_, rfl, HB.out, HFIN.out⟩
theorem spm_o {a b : Option Addr} {n m c d : Nat} {xs ws : List Int} {w : World} (hx : xs.length = n) (hy : ws.length = m) (hc : n ≤ c) (hd : m ≤ d) (ha : ARow w a xs) (hb : ARow w b ws) :
    Calls Try.prog 33 #[.slice a n c, .slice b m d] w fun e w' => ∃ v, e = .returned (.tuple #[v, .bool (Mx.sameB xs ws)]) ∧ Below w.heap.size w w' ∧ w'.ownsRow w.heap.size 41 2 v (Mx.pmL xs ws).length (mce (Mx.pmL xs ws)) := by
  cases hg : Mx.sameB xs ws
  · have e1 : Mx.pmL xs ws = [] := by unfold Mx.pmL; rw [hg]; rfl
    rw [e1]
    exact (spm_no (hide hx) (hide hy) hc hd (hide ha) (hide hb) (hide hg)).mono fun _ _ ⟨he, hw⟩ => ⟨_, he, hw, World.ownsRow_nil _ _ _ _⟩
  · have e1 : Mx.pmL xs ws = Mx.plan 20 xs ws := by unfold Mx.pmL; rw [hg]; rfl
    rw [e1]
    obtain ⟨e2, _⟩ := Mx.same_two hg hx
    obtain rfl : n = m := by omega
    exact spm_yes (hide hx) (hide hy) hc hd (hide ha) (hide hb) (hide hg)
theorem spm_w {a b : Option Addr} {n m c d : Nat} {xs ws : List Int} {w : World} (hx : xs.length = n) (hy : ws.length = m) (hc : n ≤ c) (hd : m ≤ d) (ha : ARow w a xs) (hb : ARow w b ws) :
    Calls Try.prog 33 #[.slice a n c, .slice b m d] w fun e w' => ∃ v, e = .returned (.tuple #[v, .bool (Mx.sameB xs ws)]) ∧ Below w.heap.size w w' ∧ MO w' w.heap.size w'.heap.size v (Mx.pmL xs ws).length (Mx.pmL xs ws) :=
  (spm_o hx hy hc hd ha hb).mono fun _ _ ⟨v, he, hw, ho⟩ => ⟨v, he, hw, mo_own rfl ho⟩
theorem plan_len : ∀ (f : Nat) (xs ws : List Int), (Mx.plan f xs ws).length ≤ f
  | 0, _, _ => Nat.le_refl _
  | f + 1, xs, ws => by
    unfold Mx.plan
    split
    · simp
    · rename_i m _
      simp only [List.length_cons]; have := plan_len f (Mx.mv xs m) ws; omega
theorem pmL_le (xs ws : List Int) : (Mx.pmL xs ws).length ≤ 20 := by
  unfold Mx.pmL; split
  · exact plan_len _ _ _
  · simp
end Go.Proofs.Ytnjkdfeajlnojaa
