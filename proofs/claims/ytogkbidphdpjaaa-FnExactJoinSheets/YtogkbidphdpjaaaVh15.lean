/-
  What JoinSheets of the program answers.
-/
import Derived.Test.YtogkbidphdpjaaaVg15
namespace Go.Proofs.Ytogkbidphdpjaaa
open Go.RowKit

theorem ts_any {J : Nat} {v v' : Value} {gs0 gs : List Gd} {ls0 ls : List (Int × Int)} {a a' : Option Addr} {n c n' c' : Nat} {w : World} (h : Hid (JS w J v v' gs0 ls0)) (h12 : gs0.length ≤ 12) (h80 : ls0.length ≤ 80) (HN : Hid (gs.length = n)) (hc : n ≤ c) (HS : Hid (Short gs)) (HL : Hid (ls.length = n'))
    (HA : Hid (∀ W, Below J w W → GRow W a gs)) (HA' : Hid (∀ W, Below J w W → LRow W a' ls)) :
    Calls Try.prog 43 #[.pointer (some ⟨J, 0, none⟩), .agg #[.slice a n c, .slice a' n' c']] w fun e w' => TSE w J (sheetI (gs0, ls0) gs ls) e w' := by
  cases hg : sheetB gs ls
  · exact ts_no h HN hc HS HL HA HA' (hide hg)
  · exact ts_yes h h12 h80 HN hc HS HL HA HA' (hide hg)
/-- What JoinSheets answers: a sheet in memory of its own, or none. -/
def JA (w : World) (r : Option (List Gd × List (Int × Int))) (e : Ending) (w' : World) : Prop :=
  ∃ v v', e = .returned (.tuple #[.agg #[v, v'], .bool r.isSome]) ∧ Below w.heap.size w w' ∧ w'.ownsRow w.heap.size 68 2 v (r.getD ([], [])).1.length (gce (r.getD ([], [])).1) ∧ w'.ownsRow w.heap.size 52 2 v' (r.getD ([], [])).2.length (lce (r.getD ([], [])).2) ∧ ∀ g, v.ownBlock = some g → v'.ownBlock ≠ some g
theorem JA.none {w w' : World} (hb : Below w.heap.size w w') : JA w .none (.returned (.tuple #[.agg #[.slice none 0 0, .slice none 0 0], .bool false])) w' :=
  ⟨_, _, rfl, hb, World.ownsRow_nil _ _ _ _, World.ownsRow_nil _ _ _ _, fun g h => by cases h⟩
theorem JA.some {w w' : World} {v v' : Value} {st : List Gd × List (Int × Int)} (hb : Below w.heap.size w w') (h1 : w'.ownsRow w.heap.size 68 2 v st.1.length (gce st.1)) (h2 : w'.ownsRow w.heap.size 52 2 v' st.2.length (lce st.2)) (h3 : ∀ g, v.ownBlock = some g → v'.ownBlock ≠ some g) : JA w (.some st) (.returned (.tuple #[.agg #[v, v'], .bool true])) w' :=
  ⟨v, v', rfl, hb, h1, h2, h3⟩
/-- Four blocks of a function's own: two sheets, the result, the sheet that is made. -/
structure J4 (w0 w : World) (s0 s1 s2 s3 : Value) : Prop where
  a : PBox w w0.heap.size s0 s1
  b : PBox w (w0.heap.size + 1) s2 s3
  r : PBox w (w0.heap.size + 2) (.slice none 0 0) (.slice none 0 0)
  f : ∀ i, w.frozen? ⟨w0.heap.size + 2, i, none⟩ = false
  below : Below w0.heap.size w0 w
  lt : w0.heap.size + 3 < w.heap.size
theorem pb_keep {w w' : World} {B J : Nat} {v0 v1 : Value} (h : PBox w B v0 v1) (hb : Below J w w') (hj : B < J) : PBox w' B v0 v1 :=
  ⟨(hb.cell (p := ⟨B, 0, none⟩) hj).trans h.1, (hb.cell (p := ⟨B, 1, none⟩) hj).trans h.2.1, Nat.lt_of_lt_of_le h.2.2 hb.size⟩
theorem J4.keep {w0 w w' : World} {s0 s1 s2 s3 : Value} (h : J4 w0 w s0 s1 s2 s3) (hb : Below (w0.heap.size + 3) w w') : J4 w0 w' s0 s1 s2 s3 :=
  ⟨pb_keep h.a hb (by omega), pb_keep h.b hb (by omega), pb_keep h.r hb (by omega), fun i => (hb.frozen (p := ⟨w0.heap.size + 2, i, none⟩) (by show w0.heap.size + 2 < _; omega)).trans (h.f i), h.below.trans (hb.mono (by omega)), Nat.lt_of_lt_of_le h.lt hb.size⟩
theorem j4_new (w : World) (s0 s1 s2 s3 : Value) (t1 t2 t3 t4 : TypeId) :
    J4 w ((((w.alloc (.cells #[s0, s1] t1)).alloc (.cells #[s2, s3] t2)).alloc (.cells #[.slice none 0 0, .slice none 0 0] t3)).alloc (.cells #[.slice none 0 0, .slice none 0 0] t4)) s0 s1 s2 s3 ∧
    JS ((((w.alloc (.cells #[s0, s1] t1)).alloc (.cells #[s2, s3] t2)).alloc (.cells #[.slice none 0 0, .slice none 0 0] t3)).alloc (.cells #[.slice none 0 0, .slice none 0 0] t4)) (w.heap.size + 3) (.slice none 0 0) (.slice none 0 0) [] [] := by
  obtain ⟨w1, h1⟩ : ∃ W, W = w.alloc (.cells #[s0, s1] t1) := ⟨_, rfl⟩
  have p1 := PBox.new w s0 s1 t1
  have b1 := below_new w (.cells #[s0, s1] t1)
  have z1 : w1.heap.size = w.heap.size + 1 := by rw [h1]; exact World.size_alloc _ _
  rw [← h1] at p1 b1 ⊢
  obtain ⟨w2, h2⟩ : ∃ W, W = w1.alloc (.cells #[s2, s3] t2) := ⟨_, rfl⟩
  have p2 := PBox.new w1 s2 s3 t2
  have b2 := below_new w1 (.cells #[s2, s3] t2)
  have z2 : w2.heap.size = w1.heap.size + 1 := by rw [h2]; exact World.size_alloc _ _
  rw [← h2] at p2 b2 ⊢
  obtain ⟨w3, h3⟩ : ∃ W, W = w2.alloc (.cells #[.slice none 0 0, .slice none 0 0] t3) := ⟨_, rfl⟩
  have p3 := PBox.new w2 (.slice none 0 0) (.slice none 0 0) t3
  have f3 : ∀ i, w3.frozen? ⟨w2.heap.size, i, none⟩ = false := fun i => by rw [h3]; simp [go_sem]
  have b3 := below_new w2 (.cells #[.slice none 0 0, .slice none 0 0] t3)
  have z3 : w3.heap.size = w2.heap.size + 1 := by rw [h3]; exact World.size_alloc _ _
  rw [← h3] at p3 b3 ⊢
  obtain ⟨w4, h4⟩ : ∃ W, W = w3.alloc (.cells #[.slice none 0 0, .slice none 0 0] t4) := ⟨_, rfl⟩
  have p4 := PBox.new w3 (.slice none 0 0) (.slice none 0 0) t4
  have f4 : ∀ i, w4.frozen? ⟨w3.heap.size, i, none⟩ = false := fun i => by rw [h4]; simp [go_sem]
  have b4 := below_new w3 (.cells #[.slice none 0 0, .slice none 0 0] t4)
  have z4 : w4.heap.size = w3.heap.size + 1 := by rw [h4]; exact World.size_alloc _ _
  rw [← h4] at p4 b4 ⊢
  have e1 : w1.heap.size = w.heap.size + 1 := z1
  have e2 : w2.heap.size = w.heap.size + 2 := by omega
  have e3 : w3.heap.size = w.heap.size + 3 := by omega
  have b34 := b3.trans (b4.mono b3.size)
  rw [e1] at p2
  rw [e2] at p3 f3
  rw [e3] at p4 f4
  refine ⟨⟨((p1.below b2).below b3).below b4, (p2.below b3).below b4, p3.below b4, fun i => (b4.frozen (p := ⟨w.heap.size + 2, i, none⟩) (by show w.heap.size + 2 < _; omega)).trans (f3 i), ((b1.trans (b2.mono b1.size)).trans (b3.mono (by omega))).trans (b4.mono (by omega)), by omega⟩, ?_⟩
  exact ⟨p4.1, p4.2.1, f4 0, f4 1, World.ownsRow_nil _ _ _ _, World.ownsRow_nil _ _ _ _, (fun g h => by cases h), p4.2.2⟩
set_option maxRecDepth 100000 in
set_option maxHeartbeats 8000000 in
theorem ji_any {a a' b b' : Option Addr} {n c n' c' m d m' d' : Nat} {ga gb : List Gd} {la lb : List (Int × Int)} {w : World} (HN : Hid (ga.length = n)) (hc : n ≤ c) (HS : Hid (Short ga)) (HA : Hid (GRow w a ga)) (HN' : Hid (la.length = n')) (HA' : Hid (LRow w a' la))
    (HM : Hid (gb.length = m)) (hd : m ≤ d) (HT : Hid (Short gb)) (HB : Hid (GRow w b gb)) (HM' : Hid (lb.length = m')) (HB' : Hid (LRow w b' lb)) :
    Calls Try.prog 21 #[.agg #[.slice a n c, .slice a' n' c'], .agg #[.slice b m d, .slice b' m' d']] w fun e w' => JA w (joinI ga la gb lb) e w' := by
  have HE : Hid (joinI ga la gb lb = (sheetI ([], []) ga la).bind fun st => sheetI st gb lb) := hide rfl
  generalize joinI ga la gb lb = r at *
  have hJ := j4_new w (.slice a n c) (.slice a' n' c') (.slice b m d) (.slice b' m' d') 31 31 31 31
  obtain ⟨W, hW⟩ : ∃ W, W = (((w.alloc (.cells #[.slice a n c, .slice a' n' c'] 31)).alloc (.cells #[.slice b m d, .slice b' m' d'] 31)).alloc (.cells #[.slice none 0 0, .slice none 0 0] 31)).alloc (.cells #[.slice none 0 0, .slice none 0 0] 31) := ⟨_, rfl⟩
  rw [← hW] at hJ
  have H4 := hide hJ.1
  have HJ := hide hJ.2
  have HW := hide hW.symm
  have HAW := hide fun (W1 : World) (hb : Below (w.heap.size + 3) W W1) => HA.out.below (H4.out.below.trans (hb.mono (by omega)))
  have HAW' := hide fun (W1 : World) (hb : Below (w.heap.size + 3) W W1) => HA'.out.below (H4.out.below.trans (hb.mono (by omega)))
  clear hJ hW
  go_enter Try.func21, Try.ntmps21
  go_upto_region 2 with fail
  have e1 : w.heap.size + 1 + 1 = w.heap.size + 2 := rfl
  have e2 : w.heap.size + 1 + 1 + 1 = w.heap.size + 3 := rfl
  simp only [e1, e2] 
  rw [HW.out]
  obtain ⟨a0, a1, _⟩ := H4.out.a
  obtain ⟨r0, r1, _⟩ := H4.out.r
  have f0 := H4.out.f 0
  have f1 := H4.out.f 1
  clear HW e1 e2
  go_wp2_with fail
  refine (ts_any HJ (by simp) (by simp) HN hc HS HN' HAW HAW').mono ?_
  rintro e w1 ⟨q, rfl, hb1, hq⟩
  have H41 := hide (H4.out.keep hb1)
  obtain ⟨p0, p1, _⟩ := H41.out.r
  have g0 := H41.out.f 0
  have g1 := H41.out.f 1
  rcases hq with ⟨rfl, hq⟩ | ⟨rfl, st, v, v', hq, h12, h80, hj⟩
  · have HR : Hid (r = none) := hide (by rw [HE.out, hq]; rfl)
    have HF := hide ((H41.out.below.setCell (p := ⟨w.heap.size + 2, 0, none⟩) (by show w.heap.size ≤ w.heap.size + 2; omega) (.slice none 0 0)).setCell (p := ⟨w.heap.size + 2, 1, none⟩) (by show w.heap.size ≤ w.heap.size + 2; omega) (.slice none 0 0))
    clear hq hb1 a0 a1 r0 r1 f0 f1 HE
    go_wp2_with fail
    rw [HR.out]
    exact bodyPost_ret (v := .tuple #[.agg #[.slice none 0 0, .slice none 0 0], .bool false]) (by simp [results, Try.results21, go_sem, p0, p1]) rfl (JA.none HF.out)
  · have HJ1 := hide hj
    have HE1 : Hid (r = sheetI (st.1, st.2) gb lb) := hide (by rw [HE.out, hq]; rfl)
    have HBW := hide fun (W1 : World) (hb : Below (w.heap.size + 3) w1 W1) => HB.out.below (H41.out.below.trans (hb.mono (by omega)))
    have HBW' := hide fun (W1 : World) (hb : Below (w.heap.size + 3) w1 W1) => HB'.out.below (H41.out.below.trans (hb.mono (by omega)))
    obtain ⟨b0, b1, _⟩ := H41.out.b
    clear hj hq HE hb1 a0 a1 r0 r1 f0 f1
    go_wp2_with fail
    refine (ts_any HJ1 h12 h80 HM hd HT HM' HBW HBW').mono ?_
    rintro e w2 ⟨q, rfl, hb2, hq⟩
    have H42 := hide (H41.out.keep hb2)
    clear b0 b1 p0 p1 g0 g1
    obtain ⟨p0, p1, _⟩ := H42.out.r
    have g0 := H42.out.f 0
    have g1 := H42.out.f 1
    rcases hq with ⟨rfl, hq⟩ | ⟨rfl, st2, u, u', hq, _, _, hj⟩
    · have HR : Hid (r = none) := hide (by rw [HE1.out, hq])
      have HF := hide ((H42.out.below.setCell (p := ⟨w.heap.size + 2, 0, none⟩) (by show w.heap.size ≤ w.heap.size + 2; omega) (.slice none 0 0)).setCell (p := ⟨w.heap.size + 2, 1, none⟩) (by show w.heap.size ≤ w.heap.size + 2; omega) (.slice none 0 0))
      clear hq hb2 HE1
      go_wp2_with fail
      rw [HR.out]
      exact bodyPost_ret (v := .tuple #[.agg #[.slice none 0 0, .slice none 0 0], .bool false]) (by simp [results, Try.results21, go_sem, p0, p1]) rfl (JA.none HF.out)
    · have HR : Hid (r = some st2) := hide (by rw [HE1.out, hq])
      obtain ⟨k0, k1⟩ := And.intro hj.c0 hj.c1
      obtain ⟨x1, y1, e3, _, _⟩ := own_gd rfl hj.o1
      obtain ⟨x2, y2, e4, _, _⟩ := own_ln rfl hj.o2
      subst e3 e4
      have O1 := hide (own_low15 (ownsRow_setCell_below (ownsRow_setCell_below hj.o1 (a := ⟨w.heap.size + 2, 0, none⟩) (by show w.heap.size + 2 < w.heap.size + 3 + 1; omega) (.slice x1 st2.1.length y1)) (a := ⟨w.heap.size + 2, 1, none⟩) (by show w.heap.size + 2 < w.heap.size + 3 + 1; omega) (.slice x2 st2.2.length y2)) (base' := w.heap.size) (by omega))
      have O2 := hide (own_low15 (ownsRow_setCell_below (ownsRow_setCell_below hj.o2 (a := ⟨w.heap.size + 2, 0, none⟩) (by show w.heap.size + 2 < w.heap.size + 3 + 1; omega) (.slice x1 st2.1.length y1)) (a := ⟨w.heap.size + 2, 1, none⟩) (by show w.heap.size + 2 < w.heap.size + 3 + 1; omega) (.slice x2 st2.2.length y2)) (base' := w.heap.size) (by omega))
      have HNE := hide hj.ne
      have HF := hide ((H42.out.below.setCell (p := ⟨w.heap.size + 2, 0, none⟩) (by show w.heap.size ≤ w.heap.size + 2; omega) (.slice x1 st2.1.length y1)).setCell (p := ⟨w.heap.size + 2, 1, none⟩) (by show w.heap.size ≤ w.heap.size + 2; omega) (.slice x2 st2.2.length y2))
      clear hq hb2 HE1 hj
      go_wp2_with fail
      rw [HR.out]
      exact bodyPost_ret (v := .tuple #[.agg #[.slice x1 st2.1.length y1, .slice x2 st2.2.length y2], .bool true]) (by simp [results, Try.results21, go_sem, p0, p1]) rfl (JA.some HF.out O1.out O2.out HNE.out)
end Go.Proofs.Ytogkbidphdpjaaa
