/-
  What JoinSheets of the model answers.
-/
import Derived.Test.YtogkbidphdpjaaaVh15
namespace Go.Proofs.Ytogkbidphdpjaaa
open Go.RowKit

/-- Three blocks of a function's own: two sheets, the result. -/
structure J3 (w0 w : World) (s0 s1 s2 s3 : Value) : Prop where
  a : PBox w w0.heap.size s0 s1
  b : PBox w (w0.heap.size + 1) s2 s3
  r : PBox w (w0.heap.size + 2) (.slice none 0 0) (.slice none 0 0)
  f : ∀ i, w.frozen? ⟨w0.heap.size + 2, i, none⟩ = false
  below : Below w0.heap.size w0 w
  lt : w0.heap.size + 3 ≤ w.heap.size
theorem J3.keep {w0 w w' : World} {s0 s1 s2 s3 : Value} (h : J3 w0 w s0 s1 s2 s3) (hb : Below (w0.heap.size + 3) w w') : J3 w0 w' s0 s1 s2 s3 :=
  ⟨pb_keep h.a hb (by omega), pb_keep h.b hb (by omega), pb_keep h.r hb (by omega), fun i => (hb.frozen (p := ⟨w0.heap.size + 2, i, none⟩) (by show w0.heap.size + 2 < _; omega)).trans (h.f i), h.below.trans (hb.mono (by omega)), Nat.le_trans h.lt hb.size⟩
theorem j3_new (w : World) (s0 s1 s2 s3 : Value) (t1 t2 t3 : TypeId) :
    J3 w (((w.alloc (.cells #[s0, s1] t1)).alloc (.cells #[s2, s3] t2)).alloc (.cells #[.slice none 0 0, .slice none 0 0] t3)) s0 s1 s2 s3 := by
  obtain ⟨w1, h1⟩ : ∃ W, W = w.alloc (.cells #[s0, s1] t1) := ⟨_, rfl⟩
  have p1 := PBox.new w s0 s1 t1
  have b1 := below_new w (.cells #[s0, s1] t1)
  have z1 : w1.heap.size = w.heap.size + 1 := by rw [h1]; exact World.size_alloc _ _
  rw [← h1] at p1 b1 ⊢
  obtain ⟨w2, h2⟩ : ∃ W, W = w1.alloc (.cells #[s2, s3] t2) := ⟨_, rfl⟩
  have p2 := PBox.new w1 s2 s3 t2
  have b2 := below_new w1 (.cells #[s2, s3] t2)
  have z2 : w2.heap.size = w1.heap.size + 1 := by rw [h2]; exact World.size_alloc _ _
  rw [← h2] at p2 b2 ⊢
  obtain ⟨w3, h3⟩ : ∃ W, W = w2.alloc (.cells #[.slice none 0 0, .slice none 0 0] t3) := ⟨_, rfl⟩
  have p3 := PBox.new w2 (.slice none 0 0) (.slice none 0 0) t3
  have f3 : ∀ i, w3.frozen? ⟨w2.heap.size, i, none⟩ = false := fun i => by rw [h3]; simp [go_sem]
  have b3 := below_new w2 (.cells #[.slice none 0 0, .slice none 0 0] t3)
  have z3 : w3.heap.size = w2.heap.size + 1 := by rw [h3]; exact World.size_alloc _ _
  rw [← h3] at p3 b3 ⊢
  have e2 : w2.heap.size = w.heap.size + 2 := by omega
  rw [z1] at p2
  rw [e2] at p3 f3
  exact ⟨(p1.below b2).below b3, p2.below b3, p3, f3, (b1.trans (b2.mono b1.size)).trans (b3.mono (by omega)), by omega⟩
set_option maxRecDepth 100000 in
set_option maxHeartbeats 8000000 in
theorem sji_no {a a' b b' : Option Addr} {n c n' c' m d m' d' : Nat} {ga gb : List Gd} {la lb : List (Int × Int)} {w : World} (HN : Hid (ga.length = n)) (hn : n ≤ 1048576) (hc : n ≤ c) (HS : Hid (Short ga)) (HA : Hid (GRow w a ga)) (HN' : Hid (la.length = n')) (hn' : n' ≤ 1048576) (hc' : n' ≤ c') (HA' : Hid (LRow w a' la))
    (HM : Hid (gb.length = m)) (hm : m ≤ 1048576) (hd : m ≤ d) (HT : Hid (Short gb)) (HB : Hid (GRow w b gb)) (HM' : Hid (lb.length = m')) (hm' : m' ≤ 1048576) (hd' : m' ≤ d') (HB' : Hid (LRow w b' lb)) (hg : (sheetB ga la && sheetB gb lb) = false) :
    Calls Try.prog 20 #[.agg #[.slice a n c, .slice a' n' c'], .agg #[.slice b m d, .slice b' m' d']] w fun e w' => JA w (joinM ga la gb lb) e w' := by
  have HR : Hid (joinM ga la gb lb = none) := hide (by unfold joinM; rw [hg]; rfl)
  rw [HR.out]
  have hJ := j3_new w (.slice a n c) (.slice a' n' c') (.slice b m d) (.slice b' m' d') 31 31 31
  obtain ⟨W, hW⟩ : ∃ W, W = ((w.alloc (.cells #[.slice a n c, .slice a' n' c'] 31)).alloc (.cells #[.slice b m d, .slice b' m' d'] 31)).alloc (.cells #[.slice none 0 0, .slice none 0 0] 31) := ⟨_, rfl⟩
  rw [← hW] at hJ
  have H3 := hide hJ
  have HW := hide hW.symm
  have HA1 := hide (HA.out.below H3.out.below)
  have HA1' := hide (HA'.out.below H3.out.below)
  have HB1 := hide (HB.out.below H3.out.below)
  have HB1' := hide (HB'.out.below H3.out.below)
  clear hJ hW
  cases hg1 : sheetB ga la
  · have HG1 := hide hg1
    clear hg hg1
    go_enter Try.func20, Try.ntmps20
    go_upto_region 1 with fail
    have e1 : w.heap.size + 1 + 1 = w.heap.size + 2 := rfl
    simp only [e1]
    rw [HW.out]
    obtain ⟨a0, a1, _⟩ := H3.out.a
    clear HW e1
    go_wp2_with fail
    refine (sgsh_hid HG1 HN hn hc HS HA1 HN' hn' hc' HA1').mono ?_
    rintro e w1 ⟨rfl, hb1⟩
    have H31 := hide (H3.out.keep (hb1.mono H3.out.lt))
    obtain ⟨p0, p1, _⟩ := H31.out.r
    have g0 := H31.out.f 0
    have g1 := H31.out.f 1
    have HF := hide ((H31.out.below.setCell (p := ⟨w.heap.size + 2, 0, none⟩) (by show w.heap.size ≤ w.heap.size + 2; omega) (.slice none 0 0)).setCell (p := ⟨w.heap.size + 2, 1, none⟩) (by show w.heap.size ≤ w.heap.size + 2; omega) (.slice none 0 0))
    clear a0 a1 hb1
    go_wp2_with fail
    exact bodyPost_ret (v := .tuple #[.agg #[.slice none 0 0, .slice none 0 0], .bool false]) (by simp [results, Try.results20, go_sem, p0, p1]) rfl (JA.none HF.out)
  · rw [hg1, Bool.true_and] at hg
    have HG1 := hide hg1
    have HG2 := hide hg
    clear hg hg1
    go_enter Try.func20, Try.ntmps20
    go_upto_region 1 with fail
    have e1 : w.heap.size + 1 + 1 = w.heap.size + 2 := rfl
    simp only [e1]
    rw [HW.out]
    obtain ⟨a0, a1, _⟩ := H3.out.a
    clear HW e1
    go_wp2_with fail
    refine (sgsh_hid HG1 HN hn hc HS HA1 HN' hn' hc' HA1').mono ?_
    rintro e w1 ⟨rfl, hb1⟩
    have H31 := hide (H3.out.keep (hb1.mono H3.out.lt))
    have HB2 := hide (HB1.out.below hb1)
    have HB2' := hide (HB1'.out.below hb1)
    obtain ⟨b0, b1, _⟩ := H31.out.b
    clear a0 a1 hb1
    go_wp2_with fail
    refine (sgsh_hid HG2 HM hm hd HT HB2 HM' hm' hd' HB2').mono ?_
    rintro e w2 ⟨rfl, hb2⟩
    have H32 := hide (H31.out.keep (hb2.mono H31.out.lt))
    obtain ⟨p0, p1, _⟩ := H32.out.r
    have g0 := H32.out.f 0
    have g1 := H32.out.f 1
    have HF := hide ((H32.out.below.setCell (p := ⟨w.heap.size + 2, 0, none⟩) (by show w.heap.size ≤ w.heap.size + 2; omega) (.slice none 0 0)).setCell (p := ⟨w.heap.size + 2, 1, none⟩) (by show w.heap.size ≤ w.heap.size + 2; omega) (.slice none 0 0))
    clear b0 b1 hb2
    go_wp2_with fail
    exact bodyPost_ret (v := .tuple #[.agg #[.slice none 0 0, .slice none 0 0], .bool false]) (by simp [results, Try.results20, go_sem, p0, p1]) rfl (JA.none HF.out)
end Go.Proofs.Ytogkbidphdpjaaa
