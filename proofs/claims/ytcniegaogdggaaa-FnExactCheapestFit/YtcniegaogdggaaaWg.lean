/-
  What shiftPrices answers.
-/
import Derived.Test.YtcniegaogdggaaaWf
namespace Go.Proofs.Ytcniegaogdggaaa
open Go.RowKit

theorem addAt_bd {y Y : Int} (hy1 : -Y ≤ y) (hy2 : y ≤ Y) (hY : 0 ≤ Y) : ∀ (l : List Nat) (us : List Int) (A : Int), 0 ≤ A → (∀ i, -A ≤ us.getD i 0 ∧ us.getD i 0 ≤ A) → ∀ i, -(A + Y * l.length) ≤ (Hu.addAt y us l).getD i 0 ∧ (Hu.addAt y us l).getD i 0 ≤ A + Y * l.length
  | [], us, A, _, h, i => by simpa [Hu.addAt] using h i
  | j :: l, us, A, hA, h, i => by
    rw [Hu.addAt]
    have := addAt_bd hy1 hy2 hY l (us.set j (us.getD j 0 + y)) (A + Y) (by omega) (fun t => ?_) i
    · rw [List.length_cons]
      have e : A + Y * ((l.length + 1 : Nat) : Int) = A + Y + Y * (l.length : Int) := by rw [Int.natCast_add, Int.mul_add]; omega
      rw [e]; exact this
    · by_cases ht : t < us.length
      · rw [Hu.set_get9 _ _ _ _ ht]
        have h1 := h t
        have h2 := h j
        split <;> omega
      · rw [List.getD_eq_getElem?_getD, List.getElem?_eq_none (by simp; omega)]
        simp only [Option.getD_none]
        omega
theorem Off2.refl (w : World) (x y : Nat) : Off2 w w x y := ⟨rfl, rfl, rfl, Nat.le_refl _, fun _ _ _ _ => rfl⟩
theorem Off2.set {w w1 : World} {x y k g : Nat} (h : Off2 w w1 x y) (v : Value) (hg : g = x ∨ g = y) : Off2 w (w1.setCell ⟨g, k, none⟩ v) x y :=
  ⟨h.os, h.tape, h.output, by simpa using h.size, fun b hb h1 h2 => (Below.heap_setCell _ _ _ _ (by rcases hg with rfl | rfl <;> simp <;> omega)).trans (h.block b hb h1 h2)⟩
theorem Off2.drew {w w1 : World} {x y : Nat} (h : Off2 w w1 x y) : Off2 w w1.drew x y := ⟨h.os, h.tape, h.output, h.size, h.block⟩
theorem Off2.cell {w w1 : World} {x y b o : Nat} (h : Off2 w w1 x y) (hb : b < w.heap.size) (h1 : b ≠ x) (h2 : b ≠ y) : w1.cell? ⟨b, o, none⟩ = w.cell? ⟨b, o, none⟩ := World.cell?_of_block (w := w) (a := ⟨b, o, none⟩) (h.block b hb h1 h2)
theorem Off2.arow {w w1 : World} {x y : Nat} {a : Option Addr} {xs : List Int} (h : Off2 w w1 x y) (ha : ARow w a xs) (hd : ∀ b o, a = some ⟨b, o, none⟩ → b ≠ x ∧ b ≠ y) : ARow w1 a xs := by
  rcases ha with e | ⟨b, o, rfl, hb, hc⟩
  · exact Or.inl e
  · obtain ⟨h1, h2⟩ := hd b o rfl
    exact Or.inr ⟨b, o, rfl, Nat.lt_of_lt_of_le hb h.size, fun i hi => (h.cell hb h1 h2).trans (hc i hi)⟩
set_option maxRecDepth 20000 in
set_option maxHeartbeats 8000000 in
theorem sh_any {e a0 a1 a2 : Option Addr} {n ce FT PU PV c0 c1 c2 N0 N1 N2 bs1 bs2 : Nat} {y : Int} {ls gn : List Nat} {us vs xs ys : List Int} {w : World} (hx : xs.length = 10) (hy : ys.length = 10) (hu : us.length = n) (hv : vs.length = n) (h0 : ls.length = N0) (h1 : gn.length = N1) (hN0 : N0 ≤ 100) (hN1 : N1 ≤ 100) (hls : ∀ i ∈ ls, i < n) (hgn : ∀ b ∈ gn, b < n) (y0 : 0 ≤ y) (y1 : y ≤ 10000000000000)
    (gu : Pf.allB us (-100000) 100000 = true) (gv : Pf.allB vs (-100000) 100000 = true) (hne : PU ≠ PV) (ou : w.ownsRow bs1 3 1 (.slice (some ⟨PU, 0, none⟩) n n) n (ints us)) (ov : w.ownsRow bs2 3 1 (.slice (some ⟨PV, 0, none⟩) n n) n (ints vs)) (r0 : ARow w a0 (Hu.cast ls)) (r1 : ARow w a1 (Hu.cast gn)) (d0 : ∀ b o, a0 = some ⟨b, o, none⟩ → b ≠ PU ∧ b ≠ PV) (d1 : ∀ b o, a1 = some ⟨b, o, none⟩ → b ≠ PU ∧ b ≠ PV) :
    Calls Try.prog 67 #[.agg (fv e n ce FT PU PV), .agg (sl9 (.slice a0 N0 c0) (.slice a1 N1 c1) (.slice a2 N2 c2) xs ys).toArray, .int .i64 y] w fun e w' => e = .returned (.tuple #[]) ∧ w'.ownsRow bs1 3 1 (.slice (some ⟨PU, 0, none⟩) n n) n (ints (Hu.addAt y us ls)) ∧ w'.ownsRow bs2 3 1 (.slice (some ⟨PV, 0, none⟩) n n) n (ints (Hu.addAt (-y) vs gn)) ∧ Off2 w w' PU PV := by
  have lu := (ou.lt PU rfl).2
  have lv := (ov.lt PV rfl).2
  have bnA := below_new w (.cells (fv e n ce FT PU PV) 60)
  have bnB := below_new (w.alloc (.cells (fv e n ce FT PU PV) 60)) (.cells (sl9 (.slice a0 N0 c0) (.slice a1 N1 c1) (.slice a2 N2 c2) xs ys).toArray 81)
  have A := SV.new (w.alloc (.cells (fv e n ce FT PU PV) 60)) (v0 := .slice a0 N0 c0) (v1 := .slice a1 N1 c1) (v2 := .slice a2 N2 c2) hx hy rfl rfl rfl 81
  have f2 : (w.alloc (.cells (fv e n ce FT PU PV) 60)).cell? ⟨w.heap.size, 2, none⟩ = some (.slice (some ⟨PU, 0, none⟩) n n) := by simp [fv, go_sem]
  have f3 : (w.alloc (.cells (fv e n ce FT PU PV) 60)).cell? ⟨w.heap.size, 3, none⟩ = some (.slice (some ⟨PV, 0, none⟩) n n) := by simp [fv, go_sem]
  rw [World.size_alloc] at A
  have g2 := (bnB.cell (p := ⟨w.heap.size, 2, none⟩) (by simp)).trans f2
  have g3 := (bnB.cell (p := ⟨w.heap.size, 3, none⟩) (by simp)).trans f3
  have bnW := bnA.trans (bnB.mono (by simp))
  obtain ⟨W1, hW1⟩ : ∃ W1, W1 = (w.alloc (.cells (fv e n ce FT PU PV) 60)).alloc (.cells (sl9 (.slice a0 N0 c0) (.slice a1 N1 c1) (.slice a2 N2 c2) xs ys).toArray 81) := ⟨_, rfl⟩
  rw [← hW1] at A g2 g3 bnW
  have HW1 := hide hW1.symm
  have s0 := A.c0
  have s1 := A.c1
  have hlt := A.lt
  have HR0 := hide (r0.below bnW)
  have HR1 := hide (r1.below bnW)
  have HOU := hide (g_own ou bnW)
  have HOV := hide (g_own ov bnW)
  have HD0 := hide d0
  have HD1 := hide d1
  have H0 := hide h0
  have H1 := hide h1
  have HLS := hide hls
  have HGN := hide hgn
  have HU := hide hu
  have HV := hide hv
  have HBW := hide bnW
  have HBU : Hid (∀ k, k ≤ N0 → ∀ i, -2000000000000000 ≤ (Hu.addAt y us (ls.take k)).getD i 0 ∧ (Hu.addAt y us (ls.take k)).getD i 0 ≤ 2000000000000000) := hide fun k hk i => by
    have := addAt_bd (y := y) (Y := 10000000000000) (by omega) (by omega) (by omega) (ls.take k) us 100000 (by omega) (fun t => by
      by_cases ht : t < us.length
      · have := Pf.inB_yes (Pf.allB_get gu ht); omega
      · rw [List.getD_eq_getElem?_getD, List.getElem?_eq_none (by omega)]; simp) i
    have hl : (ls.take k).length ≤ 100 := by rw [List.length_take]; omega
    omega
  have HBV : Hid (∀ k, k ≤ N1 → ∀ i, -2000000000000000 ≤ (Hu.addAt (-y) vs (gn.take k)).getD i 0 ∧ (Hu.addAt (-y) vs (gn.take k)).getD i 0 ≤ 2000000000000000) := hide fun k hk i => by
    have := addAt_bd (y := -y) (Y := 10000000000000) (by omega) (by omega) (by omega) (gn.take k) vs 100000 (by omega) (fun t => by
      by_cases ht : t < vs.length
      · have := Pf.inB_yes (Pf.allB_get gv ht); omega
      · rw [List.getD_eq_getElem?_getD, List.getElem?_eq_none (by omega)]; simp) i
    have hl : (gn.take k).length ≤ 100 := by rw [List.length_take]; omega
    omega
  generalize fv e n ce FT PU PV = arr at *
  generalize (sl9 (.slice a0 N0 c0) (.slice a1 N1 c1) (.slice a2 N2 c2) xs ys).toArray = arr2 at *
  clear bnA bnB A f2 f3 bnW hW1 r0 r1 ou ov gu gv d0 d1 h0 h1 hls hgn hu hv
  go_enter Try.func67, Try.ntmps67
  go_upto_region 1 with fail
  rw [HW1.out]
  clear HW1
  go_wp2_with fail
  go_loopw [7, 13] (fun _ s wr => ∃ (k : Nat), s = .int .i64 k ∧ k ≤ N0 ∧ Hid (wr.ownsRow bs1 3 1 (.slice (some ⟨PU, 0, none⟩) n n) n (ints (Hu.addAt y us (ls.take k)))) ∧ Hid (wr.ownsRow bs2 3 1 (.slice (some ⟨PV, 0, none⟩) n n) n (ints vs)) ∧ Hid (Off2 W1 wr PU PV)) (fun _ s _ => N0 - (intOf s).toNat)
  case atStart => exact ⟨0, rfl, Nat.zero_le _, HOU, HOV, hide (Off2.refl _ _ _)⟩
  case round =>
    obtain ⟨k, rfl, hk, HO, HW, HF⟩ := hrel
    by_cases hlt0 : k < N0
    · have hkl : k < ls.length := by rw [H0.out]; exact hlt0
      obtain ⟨b2, o2, rfl, q1⟩ := (HF.out.arow HR0.out HD0.out).at (i := k) (by rw [Hu.cast_len]; exact hkl)
      rw [Hu.cast_get ls hkl] at q1
      have hln := HLS.out _ (getD_mem9 ls hkl)
      have q2 := (HF.out.cell (b := w.heap.size) (o := 2) (by omega) (by omega) (by omega)).trans g2
      have hal : (Hu.addAt y us (ls.take k)).length = n := by rw [Hu.addAt_len, HU.out]
      have q3 : wr.cell? ⟨PU, ls.getD k 0, none⟩ = some (.int .i64 ((Hu.addAt y us (ls.take k)).getD (ls.getD k 0) 0)) := by rw [HO.out.cellAt _ (by omega), ints_get _ _ (by omega)]
      have q4 := HO.out.frozenAt (ls.getD k 0)
      have bx := HBU.out k hk (ls.getD k 0)
      have HSN : Hid ((Hu.addAt y us (ls.take k)).set (ls.getD k 0) ((Hu.addAt y us (ls.take k)).getD (ls.getD k 0) 0 + y) = Hu.addAt y us (ls.take (k + 1))) := hide (by
        rw [← Hu.addAt_snoc]
        congr 1
        rw [List.take_add_one, List.getElem?_eq_getElem hkl]; simp [hkl])
      generalize (Hu.addAt y us (ls.take k)).getD (ls.getD k 0) 0 = x at *
      obtain ⟨st1, st2⟩ := HO.out.stored (ls.getD k 0) (.int .i64 (x + y))
      rw [ints_set, HSN.out] at st1
      have HST := hide st1
      generalize ls.getD k 0 = q at *
      have HF2 := hide (HF.out.set (k := q) (.int .i64 (x + y)) (Or.inl rfl))
      have HW2 := hide (HW.out.kept (w' := wr.setCell ⟨PU, q, none⟩ (.int .i64 (x + y))) st2 (Or.inr (by simp [Value.ownBlock]; omega)))
      have i0 : (0 : Int) ≤ (k : Int) := by omega
      have i1 : (k : Int) < (N0 : Int) := by omega
      have j0 : (0 : Int) ≤ (q : Int) := by omega
      have j1 : (q : Int) < (n : Int) := by omega
      clear st1 st2
      go_wp2_with fail
      go_roundw
      case rel => exact ⟨k + 1, by go_num, by omega, HST, HW2, HF2⟩
      case measure => simp only [intOf]; omega
    · have hke : k = N0 := by omega
      subst hke
      have HO1 : Hid (wr.ownsRow bs1 3 1 (.slice (some ⟨PU, 0, none⟩) n n) n (ints (Hu.addAt y us ls))) := hide (by
        have := HO.out
        rwa [List.take_of_length_le (by rw [H0.out]; omega)] at this)
      have s1' := (HF.out.cell (b := w.heap.size + 1) (o := 1) (by omega) (by omega) (by omega)).trans s1
      clear HO HR0 HD0 HLS HBU
      go_wp2_with fail
      go_loopw [9, 30] (fun _ s wr => ∃ (j : Nat), s = .int .i64 j ∧ j ≤ N1 ∧ Hid (wr.ownsRow bs2 3 1 (.slice (some ⟨PV, 0, none⟩) n n) n (ints (Hu.addAt (-y) vs (gn.take j)))) ∧ Hid (wr.ownsRow bs1 3 1 (.slice (some ⟨PU, 0, none⟩) n n) n (ints (Hu.addAt y us ls))) ∧ Hid (Off2 W1 wr PU PV)) (fun _ s _ => N1 - (intOf s).toNat)
      case atStart => exact ⟨0, rfl, Nat.zero_le _, HW, HO1, HF⟩
      case round =>
        clear HW HO1 HF s1'
        obtain ⟨j, rfl, hj, HO, HW, HF⟩ := hrel
        by_cases hlt1 : j < N1
        · have hjl : j < gn.length := by rw [H1.out]; exact hlt1
          obtain ⟨b2, o2, rfl, q1⟩ := (HF.out.arow HR1.out HD1.out).at (i := j) (by rw [Hu.cast_len]; exact hjl)
          rw [Hu.cast_get gn hjl] at q1
          have hln := HGN.out _ (getD_mem9 gn hjl)
          have q2 := (HF.out.cell (b := w.heap.size) (o := 3) (by omega) (by omega) (by omega)).trans g3
          have hal : (Hu.addAt (-y) vs (gn.take j)).length = n := by rw [Hu.addAt_len, HV.out]
          have q3 : wr.cell? ⟨PV, gn.getD j 0, none⟩ = some (.int .i64 ((Hu.addAt (-y) vs (gn.take j)).getD (gn.getD j 0) 0)) := by rw [HO.out.cellAt _ (by omega), ints_get _ _ (by omega)]
          have q4 := HO.out.frozenAt (gn.getD j 0)
          have bx := HBV.out j hj (gn.getD j 0)
          have HSN : Hid ((Hu.addAt (-y) vs (gn.take j)).set (gn.getD j 0) ((Hu.addAt (-y) vs (gn.take j)).getD (gn.getD j 0) 0 - y) = Hu.addAt (-y) vs (gn.take (j + 1))) := hide (by
            rw [Int.sub_eq_add_neg, ← Hu.addAt_snoc]
            congr 1
            rw [List.take_add_one, List.getElem?_eq_getElem hjl]; simp [hjl])
          generalize (Hu.addAt (-y) vs (gn.take j)).getD (gn.getD j 0) 0 = x at *
          obtain ⟨st1, st2⟩ := HO.out.stored (gn.getD j 0) (.int .i64 (x - y))
          rw [ints_set, HSN.out] at st1
          have HST := hide st1
          generalize gn.getD j 0 = q at *
          have HF2 := hide (HF.out.set (k := q) (.int .i64 (x - y)) (Or.inr rfl))
          have HW2 := hide (HW.out.kept (w' := wr.setCell ⟨PV, q, none⟩ (.int .i64 (x - y))) st2 (Or.inr (by simp [Value.ownBlock]; omega)))
          have i0 : (0 : Int) ≤ (j : Int) := by omega
          have i1 : (j : Int) < (N1 : Int) := by omega
          have j0 : (0 : Int) ≤ (q : Int) := by omega
          have j1 : (q : Int) < (n : Int) := by omega
          clear st1 st2
          go_wp2_with fail
          go_roundw
          case rel => exact ⟨j + 1, by go_num, by omega, HST, HW2, HF2⟩
          case measure => simp only [intOf]; omega
        · have hje : j = N1 := by omega
          subst hje
          have HO2 : Hid (wr.ownsRow bs2 3 1 (.slice (some ⟨PV, 0, none⟩) n n) n (ints (Hu.addAt (-y) vs gn))) := hide (by
            have := HO.out
            rwa [List.take_of_length_le (by rw [H1.out]; omega)] at this)
          have HFF : Hid (Off2 w wr PU PV) := hide ⟨HF.out.os.trans HBW.out.os, HF.out.tape.trans HBW.out.tape, HF.out.output.trans HBW.out.output, Nat.le_trans HBW.out.size HF.out.size, fun b hb h1 h2 => (HF.out.block b (Nat.lt_of_lt_of_le hb HBW.out.size) h1 h2).trans (HBW.out.block b hb)⟩
          go_wp2_with fail
          go_end0
          exact ⟨rfl, HW.out, HO2.out, HFF.out⟩
end Go.Proofs.Ytcniegaogdggaaa
