/-
  What szHouse, toHouse and eqHouse of the laws answer, over houses in memory.
-/
import Derived.Test.YtlbagigghpiifaaHb17
import Derived.Test.YtlbagigghpiifaaPg
namespace Go.Proofs.Ytlbagigghpiifaa
open Go.RowKit

/-- What lies while a house is copied: the one that is handed in, the answer's variable, the one that is made. -/
structure TH (w : World) (va vb vc o0 o1 o2 : Value) (W : World) : Prop where
  a : HBox W w.heap.size va vb vc
  r : HBox W (w.heap.size + 1) (.slice none 0 0) (.slice none 0 0) (.slice none 0 0)
  o : HBox W (w.heap.size + 1 + 1) o0 o1 o2
  fr : ∀ i, W.frozen? ⟨w.heap.size + 1, i, none⟩ = false
  fo : ∀ i, W.frozen? ⟨w.heap.size + 1 + 1, i, none⟩ = false
  b : Below w.heap.size w W
theorem TH.below {w W W' : World} {va vb vc o0 o1 o2 : Value} (h : TH w va vb vc o0 o1 o2 W) (hb : Below W.heap.size W W') : TH w va vb vc o0 o1 o2 W' :=
  ⟨h.a.below hb, h.r.below hb, h.o.below hb, fun i => (hb.frozen (p := ⟨w.heap.size + 1, i, none⟩) h.r.2.2.2).trans (h.fr i), fun i => (hb.frozen (p := ⟨w.heap.size + 1 + 1, i, none⟩) h.o.2.2.2).trans (h.fo i), h.b.trans (hb.mono h.b.size)⟩
theorem hbox_far {W : World} {B C i : Nat} {v0 v1 v2 v : Value} (h : HBox W B v0 v1 v2) (hne : B ≠ C) : HBox (W.setCell ⟨C, i, none⟩ v) B v0 v1 v2 := by
  have k : ∀ j, (W.setCell ⟨C, i, none⟩ v).cell? ⟨B, j, none⟩ = W.cell? ⟨B, j, none⟩ := fun j => World.cell?_setCell_other _ _ _ _ (fun e => hne (by injection e with e1; exact e1.symm))
  exact ⟨(k 0).trans h.1, (k 1).trans h.2.1, (k 2).trans h.2.2.1, by simpa using h.2.2.2⟩
theorem TH.set0 {w W : World} {va vb vc o0 o1 o2 : Value} (h : TH w va vb vc o0 o1 o2 W) (v : Value) : TH w va vb vc v o1 o2 (W.setCell ⟨w.heap.size + 1 + 1, 0, none⟩ v) :=
  ⟨hbox_far h.a (by omega), hbox_far h.r (by omega), ⟨World.cell?_setCell_same _ _ _ h.o.1, (World.cell?_setCell_other _ _ _ _ (by simp)).trans h.o.2.1, (World.cell?_setCell_other _ _ _ _ (by simp)).trans h.o.2.2.1, by simpa using h.o.2.2.2⟩, fun i => (World.frozen?_setCell ..).trans (h.fr i), fun i => (World.frozen?_setCell ..).trans (h.fo i), h.b.setCell (by show w.heap.size ≤ w.heap.size + 1 + 1; omega) v⟩
theorem TH.set1 {w W : World} {va vb vc o0 o1 o2 : Value} (h : TH w va vb vc o0 o1 o2 W) (v : Value) : TH w va vb vc o0 v o2 (W.setCell ⟨w.heap.size + 1 + 1, 1, none⟩ v) :=
  ⟨hbox_far h.a (by omega), hbox_far h.r (by omega), ⟨(World.cell?_setCell_other _ _ _ _ (by simp)).trans h.o.1, World.cell?_setCell_same _ _ _ h.o.2.1, (World.cell?_setCell_other _ _ _ _ (by simp)).trans h.o.2.2.1, by simpa using h.o.2.2.2⟩, fun i => (World.frozen?_setCell ..).trans (h.fr i), fun i => (World.frozen?_setCell ..).trans (h.fo i), h.b.setCell (by show w.heap.size ≤ w.heap.size + 1 + 1; omega) v⟩
theorem TH.new (w : World) (va vb vc : Value) (t u : TypeId) : TH w va vb vc (.slice none 0 0) (.slice none 0 0) (.slice none 0 0) (((w.alloc (.cells #[va, vb, vc] t)).alloc (.cells #[.slice none 0 0, .slice none 0 0, .slice none 0 0] u)).alloc (.cells #[.slice none 0 0, .slice none 0 0, .slice none 0 0] u)) := by
  have b0 := below_new w (.cells #[va, vb, vc] t)
  have b1 := below_new (w.alloc (.cells #[va, vb, vc] t)) (.cells #[.slice none 0 0, .slice none 0 0, .slice none 0 0] u)
  have b2 := below_new ((w.alloc (.cells #[va, vb, vc] t)).alloc (.cells #[.slice none 0 0, .slice none 0 0, .slice none 0 0] u)) (.cells #[.slice none 0 0, .slice none 0 0, .slice none 0 0] u)
  have h0 := ((HBox.new w va vb vc t).below b1).below b2
  have h1 := (HBox.new (w.alloc (.cells #[va, vb, vc] t)) (.slice none 0 0) (.slice none 0 0) (.slice none 0 0) u).below b2
  have h2 := HBox.new ((w.alloc (.cells #[va, vb, vc] t)).alloc (.cells #[.slice none 0 0, .slice none 0 0, .slice none 0 0] u)) (.slice none 0 0) (.slice none 0 0) (.slice none 0 0) u
  rw [World.size_alloc] at h1
  rw [World.size_alloc, World.size_alloc] at h2
  refine ⟨h0, h1, h2, fun i => by simp [go_sem], fun i => by simp [go_sem], b0.trans ((b1.trans (b2.mono (by simp))).mono (by simp))⟩
set_option maxHeartbeats 4000000 in
theorem toH_any {a b o : Option Addr} {n m q c d e' : Nat} {ws cs os : List Int} {w : World} (HN : Hid (ws.length = n)) (HM : Hid (cs.length = m)) (HQ : Hid (os.length = q)) (h1 : n ≤ 1048576) (h2 : m ≤ 1048576) (h3 : q ≤ 1048576) (HA : Hid (ARow w a ws)) (HB : Hid (ARow w b cs)) (HO : Hid (ARow w o os)) :
    Calls Try.prog 21 #[.agg #[.slice a n c, .slice b m d, .slice o q e']] w fun e w' => ∃ x y z, e = .returned (.agg #[.slice (some ⟨x, 0, none⟩) n n, .slice (some ⟨y, 0, none⟩) m m, .slice (some ⟨z, 0, none⟩) q q]) ∧ Below w.heap.size w w' ∧ (w.heap.size ≤ x ∧ x < y ∧ y < z ∧ z < w'.heap.size) ∧
      w'.ownsRow w.heap.size 3 1 (.slice (some ⟨x, 0, none⟩) n n) n (ints ws) ∧ w'.ownsRow w.heap.size 3 1 (.slice (some ⟨y, 0, none⟩) m m) m (ints cs) ∧ w'.ownsRow w.heap.size 3 1 (.slice (some ⟨z, 0, none⟩) q q) q (ints os) := by
  have HT := hide (TH.new w (.slice a n c) (.slice b m d) (.slice o q e') 38 41)
  go_enter Try.func21, Try.ntmps21
  go_wp2_with fail
  have hz : (((w.alloc (.cells #[.slice a n c, .slice b m d, .slice o q e'] 38)).alloc (.cells #[.slice none 0 0, .slice none 0 0, .slice none 0 0] 41)).alloc (.cells #[.slice none 0 0, .slice none 0 0, .slice none 0 0] 41)).heap.size = w.heap.size + 3 := by simp
  generalize (((w.alloc (.cells #[.slice a n c, .slice b m d, .slice o q e'] 38)).alloc (.cells #[.slice none 0 0, .slice none 0 0, .slice none 0 0] 41)).alloc (.cells #[.slice none 0 0, .slice none 0 0, .slice none 0 0] 41)) = W0 at *
  have HZ0 := hide hz
  clear hz
  refine (toI_own a c n ws _ HN.out h1 (HA.out.below HT.out.b)).mono ?_
  rintro _ w1 ⟨rfl, hb1, hz1, own1⟩
  have HT1 := hide (HT.out.below hb1)
  obtain ⟨a0, a1, a2, _⟩ := HT1.out.a
  obtain ⟨o0, o1, o2, _⟩ := HT1.out.o
  have fo := HT1.out.fo
  have HO1 := hide own1
  have HZ1 := hide hz1
  have HS1 := hide hb1.size
  clear own1 hb1 hz1 HT
  go_wp2_with fail
  have HT2 := hide (HT1.out.set0 (.slice (some ⟨W0.heap.size, 0, none⟩) n n))
  have z0 := HZ0.out
  have HO1a := hide (ownsRow_setCell_below HO1.out (a := ⟨w.heap.size + 1 + 1, 0, none⟩) (by show w.heap.size + 1 + 1 < _; omega) (.slice (some ⟨W0.heap.size, 0, none⟩) n n))
  have hs2 : (w1.setCell ⟨w.heap.size + 1 + 1, 0, none⟩ (.slice (some ⟨W0.heap.size, 0, none⟩) n n)).heap.size = w1.heap.size := by simp
  clear HT1 HO1 a0 a1 a2 o0 o1 o2 fo
  generalize w1.setCell ⟨w.heap.size + 1 + 1, 0, none⟩ (.slice (some ⟨W0.heap.size, 0, none⟩) n n) = W2 at *
  have HS2 := hide hs2
  clear hs2 z0
  refine (toI_own b d m cs _ HM.out h2 (HB.out.below HT2.out.b)).mono ?_
  rintro _ w3 ⟨rfl, hb3, hz3, own3⟩
  have HT3 := hide (HT2.out.below hb3)
  obtain ⟨a0, a1, a2, _⟩ := HT3.out.a
  obtain ⟨o0, o1, o2, _⟩ := HT3.out.o
  have fo := HT3.out.fo
  have HO1b := hide (owns_keep HO1a.out (hb3.block W0.heap.size (by have := HZ1.out; have := HS2.out; omega)))
  have HO3 := hide own3
  have HZ3 := hide hz3
  clear own3 hb3 hz3 HT2 HO1a
  go_wp2_with fail
  have HT4 := hide (HT3.out.set1 (.slice (some ⟨W2.heap.size, 0, none⟩) m m))
  have z0 := HZ0.out
  have z2 := HS2.out
  have HO1c := hide (ownsRow_setCell_below HO1b.out (a := ⟨w.heap.size + 1 + 1, 1, none⟩) (by show w.heap.size + 1 + 1 < _; omega) (.slice (some ⟨W2.heap.size, 0, none⟩) m m))
  have HO3a := hide (ownsRow_setCell_below HO3.out (a := ⟨w.heap.size + 1 + 1, 1, none⟩) (by show w.heap.size + 1 + 1 < _; have := HZ1.out; omega) (.slice (some ⟨W2.heap.size, 0, none⟩) m m))
  have hs4 : (w3.setCell ⟨w.heap.size + 1 + 1, 1, none⟩ (.slice (some ⟨W2.heap.size, 0, none⟩) m m)).heap.size = w3.heap.size := by simp
  clear HT3 HO1b HO3 a0 a1 a2 o0 o1 o2 fo
  generalize w3.setCell ⟨w.heap.size + 1 + 1, 1, none⟩ (.slice (some ⟨W2.heap.size, 0, none⟩) m m) = W4 at *
  have HS4 := hide hs4
  clear hs4 z0 z2
  refine (toI_own o e' q os _ HQ.out h3 (HO.out.below HT4.out.b)).mono ?_
  rintro _ w5 ⟨rfl, hb5, hz5, own5⟩
  have HT5 := hide (HT4.out.below hb5)
  obtain ⟨o0, o1, o2, _⟩ := HT5.out.o
  obtain ⟨r0, r1, r2, _⟩ := HT5.out.r
  have fo := HT5.out.fo
  have fr := HT5.out.fr
  have HO1d := hide (owns_keep HO1c.out (hb5.block W0.heap.size (by have := HZ1.out; have := HZ3.out; have := HS2.out; have := HS4.out; omega)))
  have HO3b := hide (owns_keep HO3a.out (hb5.block W2.heap.size (by have := HZ3.out; have := HS4.out; omega)))
  have HO5 := hide own5
  have HZ5 := hide hz5
  have HB5 := hide HT5.out.b
  clear own5 hb5 hz5 HT4 HO1c HO3a
  go_wp2_with fail
  have e0 := HZ0.out
  have e1 := HZ1.out
  have e2 := HS2.out
  have e3 := HZ3.out
  have e4 := HS4.out
  refine bodyPost_ret (v := .agg #[.slice (some ⟨W0.heap.size, 0, none⟩) n n, .slice (some ⟨W2.heap.size, 0, none⟩) m m, .slice (some ⟨W4.heap.size, 0, none⟩) q q]) (by simp [results, Try.results21, go_sem, r0, r1, r2]) rfl ⟨W0.heap.size, W2.heap.size, W4.heap.size, rfl, ?_, ⟨by omega, by omega, by omega, by have := HZ5.out; simpa using this⟩, ?_, ?_, ?_⟩
  · exact (((HB5.out.setCell (by show w.heap.size ≤ w.heap.size + 1 + 1; omega) _).setCell (by show w.heap.size ≤ w.heap.size + 1; omega) _).setCell (by show w.heap.size ≤ w.heap.size + 1; omega) _).setCell (by show w.heap.size ≤ w.heap.size + 1; omega) _
  · exact owns_low (ownsRow_setCell_below (ownsRow_setCell_below (ownsRow_setCell_below (ownsRow_setCell_below HO1d.out (by show w.heap.size + 1 + 1 < _; omega) _) (by show w.heap.size + 1 < _; omega) _) (by show w.heap.size + 1 < _; omega) _) (by show w.heap.size + 1 < _; omega) _) (by omega)
  · exact owns_low (ownsRow_setCell_below (ownsRow_setCell_below (ownsRow_setCell_below (ownsRow_setCell_below HO3b.out (by show w.heap.size + 1 + 1 < _; omega) _) (by show w.heap.size + 1 < _; omega) _) (by show w.heap.size + 1 < _; omega) _) (by show w.heap.size + 1 < _; omega) _) (by omega)
  · exact owns_low (ownsRow_setCell_below (ownsRow_setCell_below (ownsRow_setCell_below (ownsRow_setCell_below HO5.out (by show w.heap.size + 1 + 1 < _; omega) _) (by show w.heap.size + 1 < _; omega) _) (by show w.heap.size + 1 < _; omega) _) (by show w.heap.size + 1 < _; omega) _) (by omega)
set_option maxHeartbeats 1000000 in
theorem szH_yes {a b o : Option Addr} {n m q c d e : Nat} {left : Int} {w : World} (h0 : 0 ≤ left) (h1 : left ≤ 1048576) (h : (n : Int) + m + q ≤ left) :
    Calls Try.prog 19 #[.agg #[.slice a n c, .slice b m d, .slice o q e], .int .i64 left] w fun e w' => e = .returned (.int .i64 (left - n - m - q)) ∧ Below w.heap.size w w' := by
  have hz1 : ¬ left - (n : Int) < 0 := by omega
  have hz2 : ¬ left - (n : Int) - (m : Int) < 0 := by omega
  have hz3 : ¬ left - (n : Int) - (m : Int) - (q : Int) < 0 := by omega
  go_enter Try.func19, Try.ntmps19
  go_wp2_with fail
  refine (szI_yes a n c left _ h0 h1 (by omega)).mono ?_
  rintro _ w1 ⟨rfl, rfl⟩
  go_wp2_with fail
  refine (szI_yes b m d _ _ (by omega) (by omega) (by omega)).mono ?_
  rintro _ w1 ⟨rfl, rfl⟩
  go_wp2_with fail
  refine (szI_yes o q e _ _ (by omega) (by omega) (by omega)).mono ?_
  rintro _ w1 ⟨rfl, rfl⟩
  go_wp2_with fail
  go_ret
  exact ⟨rfl, (Below.refl _ _).alloc (Nat.le_refl _) _⟩
set_option maxHeartbeats 1000000 in
theorem szH_no {a b o : Option Addr} {n m q c d e : Nat} {left : Int} {w : World} (h0 : 0 ≤ left) (h1 : left ≤ 1048576) (l1 : n ≤ maxLen) (l2 : m ≤ maxLen) (l3 : q ≤ maxLen) (h : left < (n : Int) + m + q) :
    Calls Try.prog 19 #[.agg #[.slice a n c, .slice b m d, .slice o q e], .int .i64 left] w fun e w' => e = .returned (.int .i64 (-1)) ∧ Below w.heap.size w w' := by
  by_cases hn : (n : Int) ≤ left
  · have hz1 : ¬ left - (n : Int) < 0 := by omega
    by_cases hm : (n : Int) + m ≤ left
    · have hz2 : ¬ left - (n : Int) - (m : Int) < 0 := by omega
      go_enter Try.func19, Try.ntmps19
      go_wp2_with fail
      refine (szI_yes a n c left _ h0 h1 (by omega)).mono ?_
      rintro _ w1 ⟨rfl, rfl⟩
      go_wp2_with fail
      refine (szI_yes b m d _ _ (by omega) (by omega) (by omega)).mono ?_
      rintro _ w1 ⟨rfl, rfl⟩
      go_wp2_with fail
      refine (szI_no o q e _ _ (by omega) (by omega) l3 (by omega)).mono ?_
      rintro _ w1 ⟨rfl, rfl⟩
      go_wp2_with fail
      go_ret
      exact ⟨rfl, (Below.refl _ _).alloc (Nat.le_refl _) _⟩
    · go_enter Try.func19, Try.ntmps19
      go_wp2_with fail
      refine (szI_yes a n c left _ h0 h1 (by omega)).mono ?_
      rintro _ w1 ⟨rfl, rfl⟩
      go_wp2_with fail
      refine (szI_no b m d _ _ (by omega) (by omega) l2 (by omega)).mono ?_
      rintro _ w1 ⟨rfl, rfl⟩
      go_wp2_with fail
      go_ret
      exact ⟨rfl, (Below.refl _ _).alloc (Nat.le_refl _) _⟩
  · go_enter Try.func19, Try.ntmps19
    go_wp2_with fail
    refine (szI_no a n c left _ h0 h1 l1 (by omega)).mono ?_
    rintro _ w1 ⟨rfl, rfl⟩
    go_wp2_with fail
    go_ret
    exact ⟨rfl, (Below.refl _ _).alloc (Nat.le_refl _) _⟩
set_option maxHeartbeats 2000000 in
theorem eqH_any {a b o a' b' o' : Option Addr} {n m q c d e c' d' e' : Nat} {ws cs os : List Int} {w : World} (HN : Hid (ws.length = n)) (HM : Hid (cs.length = m)) (HQ : Hid (os.length = q)) (h1 : n ≤ 1048576) (h2 : m ≤ 1048576) (h3 : q ≤ 1048576) (ha : ARow w a ws) (hb : ARow w b cs) (ho : ARow w o os) (ha' : ARow w a' ws) (hb' : ARow w b' cs) (ho' : ARow w o' os) :
    Calls Try.prog 23 #[.agg #[.slice a n c, .slice b m d, .slice o q e], .agg #[.slice a' n c', .slice b' m d', .slice o' q e']] w fun e w' => e = .returned (.bool true) ∧ Below w.heap.size w w' := by
  have HA := hide ((ha.alloc (.cells #[.slice a n c, .slice b m d, .slice o q e] 41)).alloc (.cells #[.slice a' n c', .slice b' m d', .slice o' q e'] 41))
  have HB := hide ((hb.alloc (.cells #[.slice a n c, .slice b m d, .slice o q e] 41)).alloc (.cells #[.slice a' n c', .slice b' m d', .slice o' q e'] 41))
  have HO := hide ((ho.alloc (.cells #[.slice a n c, .slice b m d, .slice o q e] 41)).alloc (.cells #[.slice a' n c', .slice b' m d', .slice o' q e'] 41))
  have HA' := hide ((ha'.alloc (.cells #[.slice a n c, .slice b m d, .slice o q e] 41)).alloc (.cells #[.slice a' n c', .slice b' m d', .slice o' q e'] 41))
  have HB' := hide ((hb'.alloc (.cells #[.slice a n c, .slice b m d, .slice o q e] 41)).alloc (.cells #[.slice a' n c', .slice b' m d', .slice o' q e'] 41))
  have HO' := hide ((ho'.alloc (.cells #[.slice a n c, .slice b m d, .slice o q e] 41)).alloc (.cells #[.slice a' n c', .slice b' m d', .slice o' q e'] 41))
  clear ha hb ho ha' hb' ho'
  go_enter Try.func23, Try.ntmps23
  go_wp2_with fail
  refine (eqI_b HN.out h1 HA.out HA'.out).mono ?_
  rintro _ w1 ⟨rfl, hb1⟩
  have hB0 := (below_new w (.cells #[.slice a n c, .slice b m d, .slice o q e] 41)).trans ((below_new (w.alloc (.cells #[.slice a n c, .slice b m d, .slice o q e] 41)) (.cells #[.slice a' n c', .slice b' m d', .slice o' q e'] 41)).mono (by simp))
  have HB1 := hide (hB0.trans (hb1.mono hB0.size))
  have hx1 := (((HBox.new w (.slice a n c) (.slice b m d) (.slice o q e) 41).below (below_new _ (.cells #[.slice a' n c', .slice b' m d', .slice o' q e'] 41))).below hb1)
  have hx2 := ((HBox.new (w.alloc (.cells #[.slice a n c, .slice b m d, .slice o q e] 41)) (.slice a' n c') (.slice b' m d') (.slice o' q e') 41).below hb1)
  rw [World.size_alloc] at hx2
  have HX1 := hide hx1
  have HX2 := hide hx2
  have HB2 := hide (HB.out.below hb1)
  have HB2' := hide (HB'.out.below hb1)
  have HO2 := hide (HO.out.below hb1)
  have HO2' := hide (HO'.out.below hb1)
  obtain ⟨x0, x1, x2, _⟩ := HX1.out
  obtain ⟨y0, y1, y2, _⟩ := HX2.out
  clear hb1 hB0 hx1 hx2
  go_wp2_with fail
  refine (eqI_b HM.out h2 HB2.out HB2'.out).mono ?_
  rintro _ w2 ⟨rfl, hb2⟩
  have HB3 := hide (HB1.out.trans (hb2.mono HB1.out.size))
  have HO3 := hide (HO2.out.below hb2)
  have HO3' := hide (HO2'.out.below hb2)
  clear x0 x1 x2 y0 y1 y2
  obtain ⟨x0, x1, x2, _⟩ := HX1.out.below hb2
  obtain ⟨y0, y1, y2, _⟩ := HX2.out.below hb2
  clear hb2
  go_wp2_with fail
  refine (eqI_b HQ.out h3 HO3.out HO3'.out).mono ?_
  rintro _ w3 ⟨rfl, hb3⟩
  have HB4 := hide (HB3.out.trans (hb3.mono HB3.out.size))
  clear hb3 x0 x1 x2 y0 y1 y2
  go_wp2_with fail
  go_ret
  exact ⟨rfl, HB4.out⟩
end Go.Proofs.Ytlbagigghpiifaa
