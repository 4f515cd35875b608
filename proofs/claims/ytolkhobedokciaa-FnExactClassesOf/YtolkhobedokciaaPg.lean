/-
  What szProfile, toProfile and eqProfile of the laws answer, over profiles in memory.
-/
import Derived.Test.YtolkhobedokciaaPb
import Derived.Test.YtolkhobedokciaaYf
namespace Go.Proofs.Ytolkhobedokciaa
open Go.RowKit

theorem owns_keep {w w' : World} {base e s n c g : Nat} {xs : List Value} (h : w.ownsRow base e s (.slice (some ⟨g, 0, none⟩) n c) n xs) (hb : w'.heap[g]? = w.heap[g]?) : w'.ownsRow base e s (.slice (some ⟨g, 0, none⟩) n c) n xs := by
  rcases h with ⟨h0, h | ⟨g', cap, cur, h1, h2, h3, h4⟩⟩
  · cases h.1
  · cases h1; exact ⟨h0, Or.inr ⟨g, c, cur, rfl, h2, hb.trans h3, h4⟩⟩
theorem owns_low {w : World} {base base' e s n : Nat} {v : Value} {xs : List Value} (h : w.ownsRow base e s v n xs) (hb : base' ≤ base) : w.ownsRow base' e s v n xs := by
  rcases h with ⟨h0, h | ⟨g, cap, cur, h1, h2, h3⟩⟩
  · exact ⟨h0, Or.inl h⟩
  · exact ⟨h0, Or.inr ⟨g, cap, cur, h1, Nat.le_trans hb h2, h3⟩⟩
/-- A variable of two fields in a block of its own. -/
def PBox (w : World) (B : Nat) (v0 v1 : Value) : Prop := w.cell? ⟨B, 0, none⟩ = some v0 ∧ w.cell? ⟨B, 1, none⟩ = some v1 ∧ B < w.heap.size
theorem PBox.below {w w' : World} {B : Nat} {v0 v1 : Value} (h : PBox w B v0 v1) (hb : Below w.heap.size w w') : PBox w' B v0 v1 :=
  ⟨(hb.cell (p := ⟨B, 0, none⟩) h.2.2).trans h.1, (hb.cell (p := ⟨B, 1, none⟩) h.2.2).trans h.2.1, Nat.lt_of_lt_of_le h.2.2 hb.size⟩
theorem PBox.new (w : World) (v0 v1 : Value) (t : TypeId) : PBox (w.alloc (.cells #[v0, v1] t)) w.heap.size v0 v1 := ⟨by simp [go_sem], by simp [go_sem], by simp⟩
theorem PBox.drewN {w : World} {B : Nat} {v0 v1 : Value} (h : PBox w B v0 v1) (q : Nat) : PBox (w.drewN q) B v0 v1 := h
theorem grown_below' {w w' : World} {g k : Nat} (hg : w.grownBy w' (some g)) (h : k ≤ g) (hk : k ≤ w.heap.size) : Below k w w' :=
  ⟨hg.os, hg.tape, hg.output, hg.size, fun b hb => hg.block b (by omega) (by simp; omega)⟩
theorem below_new (w : World) (o : Obj) : Below w.heap.size w (w.alloc o) := (Below.refl _ _).alloc (Nat.le_refl _) o
theorem eqI_any {a b : Option Addr} {c d n : Nat} {xs : List Int} {w : World} (hn : xs.length = n) (hl : n ≤ 1048576) (h1 : ARow w a xs) (h2 : ARow w b xs) :
    Calls Try.prog 9 #[.slice a n c, .slice b n d] w fun e w' => e = .returned (.bool true) ∧ ∃ m, w' = w.drewN m := by
  subst hn
  rcases h1 with rfl | ⟨b1, o1, rfl, hb1, c1⟩
  · refine (eqI_zero a b c d w).mono ?_
    rintro e w' ⟨rfl, rfl⟩
    exact ⟨rfl, 0, rfl⟩
  · rcases h2 with rfl | ⟨b2, o2, rfl, hb2, c2⟩
    · refine (eqI_zero _ b c d w).mono ?_
      rintro e w' ⟨rfl, rfl⟩
      exact ⟨rfl, 0, rfl⟩
    · exact eqI_same xs b1 o1 c b2 o2 d w (by omega) c1 c2

theorem eqI_b {a b : Option Addr} {c d n : Nat} {xs : List Int} {w : World} (hn : xs.length = n) (hl : n ≤ 1048576) (h1 : ARow w a xs) (h2 : ARow w b xs) :
    Calls Try.prog 9 #[.slice a n c, .slice b n d] w fun e w' => e = .returned (.bool true) ∧ Below w.heap.size w w' := by
  refine (eqI_any hn hl h1 h2).mono ?_
  rintro e w' ⟨rfl, q, rfl⟩
  exact ⟨rfl, below_drewN (Below.refl _ _) q⟩

set_option maxHeartbeats 1000000 in
theorem toI_own (a : Option Addr) (cap n : Nat) (xs : List Int) (w : World) (hx : xs.length = n) (hlen : n ≤ 1048576) (hr : ARow w a xs) :
    Calls Try.prog 7 #[.slice a n cap] w fun e w' => e = .returned (.slice (some ⟨w.heap.size, 0, none⟩) n n) ∧ Below w.heap.size w w' ∧ w.heap.size < w'.heap.size ∧ w'.ownsRow w.heap.size 3 1 (.slice (some ⟨w.heap.size, 0, none⟩) n n) n (ints xs) := by
  subst hx
  have hmk := makeI_run xs.length hlen
  have HR := hide hr
  clear hr
  go_enter Try.func7, Try.ntmps7
  go_wp2_with fail
  go_loopw [4] (fun s wr => ∃ (k : Nat) (ys : List Int), s = .int .i64 k ∧ k ≤ xs.length ∧ ys.length = xs.length ∧ Hid (ys.take k = xs.take k) ∧ wr.ownsRow w.heap.size 3 1 (.slice (some ⟨w.heap.size, 0, none⟩) xs.length xs.length) xs.length (ints ys) ∧ Below w.heap.size w wr ∧ w.heap.size < wr.heap.size) (fun s _ => xs.length - (intOf s).toNat)
  case atStart => exact ⟨0, List.replicate xs.length 0, rfl, Nat.zero_le _, by simp, hide (by simp), made_own w xs.length hlen, (Below.refl _ _).alloc (Nat.le_refl _) _, by simp⟩
  case round =>
    obtain ⟨k, ys, rfl, hk, hy, HT, hown, hB, hz⟩ := hrel
    by_cases hlt : k < xs.length
    · rcases HR.out with hnil | ⟨b, off, rfl, hb, hr⟩
      · rw [hnil] at hlt; simp at hlt
      · have r0 := (hB.cell (p := ⟨b, off + k, none⟩) hb).trans (hr k hlt)
        have HSET := hide (getD_set_take xs ys k hy hlt HT.out)
        have i0 : (0 : Int) ≤ (k : Int) := by omega
        have i1 : (k : Int) < (xs.length : Int) := by omega
        have c0 : wr.cell? ⟨w.heap.size, k, none⟩ = some (.int .i64 (ys.getD k 0)) := by rw [hown.cellAt k (by omega), ints_get ys k (by omega)]
        have f0 := hown.frozenAt k
        obtain ⟨st1, st2⟩ := hown.stored k (.int .i64 (xs.getD k 0))
        rw [ints_set] at st1
        have HST := hide st1
        generalize xs.getD k 0 = x at *
        generalize ys.getD k 0 = y at *
        clear hr hmk st1 hown
        go_wp2_with fail
        exact ⟨⟨k + 1, ys.set k x, by go_num, by omega, by simpa using hy, HSET, HST.out, hB.setCell (Nat.le_refl _) _, by simpa using hz⟩, by simp only [intOf]; omega⟩
    · have hke : k = xs.length := by omega
      subst hke
      have HE := hide (show ys = xs by have := HT.out; rwa [List.take_length, ← hy, List.take_length] at this)
      rw [HE.out] at hown
      clear hmk
      go_wp2_with fail
      go_ret
      exact ⟨rfl, hB, hz, hown⟩

set_option maxHeartbeats 400000 in
theorem szI_yes (a : Option Addr) (len cap : Nat) (left : Int) (w : World) (h0 : 0 ≤ left) (h1 : left ≤ 1048576) (h : (len : Int) ≤ left) :
    Calls Try.prog 25 #[.slice a len cap, .int .i64 left] w fun e w' => e = .returned (.int .i64 (left - len)) ∧ w' = w := by
  have h2 : ¬ left - (len : Int) < 0 := by omega
  go_enter Try.func25, Try.ntmps25
  go_wp2
  go_ret
  exact ⟨rfl, rfl⟩

set_option maxHeartbeats 400000 in
theorem szI_no (a : Option Addr) (len cap : Nat) (left : Int) (w : World) (h0 : 0 ≤ left) (h1 : left ≤ 1048576) (hm : len ≤ maxLen) (h : left < (len : Int)) :
    Calls Try.prog 25 #[.slice a len cap, .int .i64 left] w fun e w' => e = .returned (.int .i64 (-1)) ∧ w' = w := by
  unfold maxLen at hm
  have h2 : left - (len : Int) < 0 := by omega
  have h3 : wrap64 (left - (len : Int)) = left - (len : Int) := wrap_id' _ (by omega) (by omega)
  go_enter Try.func25, Try.ntmps25
  go_wp2
  go_ret
  exact ⟨rfl, rfl⟩

set_option maxHeartbeats 1000000 in
theorem szP_yes {a b : Option Addr} {n m c d : Nat} {left : Int} {w : World} (h0 : 0 ≤ left) (h1 : left ≤ 1048576) (h : (n : Int) + m ≤ left) :
    Calls Try.prog 12 #[.agg #[.slice a n c, .slice b m d], .int .i64 left] w fun e w' => e = .returned (.int .i64 (left - n - m)) ∧ Below w.heap.size w w' := by
  have hz1 : ¬ left - (n : Int) < 0 := by omega
  have hz2 : ¬ left - (n : Int) - (m : Int) < 0 := by omega
  go_enter Try.func12, Try.ntmps12
  go_wp2_with fail
  refine (szI_yes a n c left _ h0 h1 (by omega)).mono ?_
  rintro e w1 ⟨rfl, rfl⟩
  go_wp2_with fail
  refine (szI_yes b m d _ _ (by omega) (by omega) (by omega)).mono ?_
  rintro e w1 ⟨rfl, rfl⟩
  go_wp2_with fail
  go_ret
  exact ⟨rfl, (Below.refl _ _).alloc (Nat.le_refl _) _⟩
set_option maxHeartbeats 1000000 in
theorem szP_no1 {a b : Option Addr} {n m c d : Nat} {left : Int} {w : World} (h0 : 0 ≤ left) (h1 : left ≤ 1048576) (hm : n ≤ maxLen) (h : left < (n : Int)) :
    Calls Try.prog 12 #[.agg #[.slice a n c, .slice b m d], .int .i64 left] w fun e w' => e = .returned (.int .i64 (-1)) ∧ Below w.heap.size w w' := by
  go_enter Try.func12, Try.ntmps12
  go_wp2_with fail
  refine (szI_no a n c left _ h0 h1 hm h).mono ?_
  rintro e w1 ⟨rfl, rfl⟩
  go_wp2_with fail
  go_ret
  exact ⟨rfl, (Below.refl _ _).alloc (Nat.le_refl _) _⟩
set_option maxHeartbeats 1000000 in
theorem szP_no2 {a b : Option Addr} {n m c d : Nat} {left : Int} {w : World} (h0 : 0 ≤ left) (h1 : left ≤ 1048576) (hn : (n : Int) ≤ left) (hm : m ≤ maxLen) (h : left < (n : Int) + m) :
    Calls Try.prog 12 #[.agg #[.slice a n c, .slice b m d], .int .i64 left] w fun e w' => e = .returned (.int .i64 (-1)) ∧ Below w.heap.size w w' := by
  have hz1 : ¬ left - (n : Int) < 0 := by omega
  go_enter Try.func12, Try.ntmps12
  go_wp2_with fail
  refine (szI_yes a n c left _ h0 h1 (by omega)).mono ?_
  rintro e w1 ⟨rfl, rfl⟩
  go_wp2_with fail
  refine (szI_no b m d _ _ (by omega) (by omega) hm (by omega)).mono ?_
  rintro e w1 ⟨rfl, rfl⟩
  go_wp2_with fail
  go_ret
  exact ⟨rfl, (Below.refl _ _).alloc (Nat.le_refl _) _⟩
theorem szP_no {a b : Option Addr} {n m c d : Nat} {left : Int} {w : World} (h0 : 0 ≤ left) (h1 : left ≤ 1048576) (hn : n ≤ maxLen) (hm : m ≤ maxLen) (h : left < (n : Int) + m) :
    Calls Try.prog 12 #[.agg #[.slice a n c, .slice b m d], .int .i64 left] w fun e w' => e = .returned (.int .i64 (-1)) ∧ Below w.heap.size w w' := by
  by_cases h2 : (n : Int) ≤ left
  · exact szP_no2 h0 h1 h2 hm h
  · exact szP_no1 h0 h1 hn (by omega)

set_option maxHeartbeats 2000000 in
theorem toP_any {a b : Option Addr} {n m c d : Nat} {ps fs : List Int} {w : World} (hn : ps.length = n) (hm : fs.length = m) (h1 : n ≤ 1048576) (h2 : m ≤ 1048576) (ha : ARow w a ps) (hb : ARow w b fs) :
    Calls Try.prog 14 #[.agg #[.slice a n c, .slice b m d]] w fun e w' => ∃ x y, e = .returned (.agg #[.slice (some ⟨x, 0, none⟩) n n, .slice (some ⟨y, 0, none⟩) m m]) ∧ Below w.heap.size w w' ∧ w.heap.size ≤ x ∧ x < y ∧ y < w'.heap.size ∧
      w'.ownsRow w.heap.size 3 1 (.slice (some ⟨x, 0, none⟩) n n) n (ints ps) ∧ w'.ownsRow w.heap.size 3 1 (.slice (some ⟨y, 0, none⟩) m m) m (ints fs) := by
  have HA := hide ha
  have HB := hide hb
  have HN := hide hn
  have HM := hide hm
  clear ha hb hn hm
  go_enter Try.func14, Try.ntmps14
  go_wp2_with fail
  refine (toI_own a c n ps _ HN.out h1 (((HA.out.alloc _).alloc _).alloc _)).mono ?_
  rintro e w1 ⟨rfl, hb1, hz1, own1⟩
  simp only [World.size_alloc] at hb1 hz1 own1
  have hBw : Below w.heap.size w w1 := ((((Below.refl _ _).alloc (Nat.le_refl _) _).alloc (by simp) _).alloc (by simp; omega) _).trans (hb1.mono (by omega))
  have q1 : w1.cell? ⟨w.heap.size, 1, none⟩ = some (.slice b m d) := (hb1.cell (p := ⟨w.heap.size, 1, none⟩) (by show w.heap.size < _; omega)).trans (by simp [go_sem])
  have q2 : w1.cell? ⟨w.heap.size + 1 + 1, 0, none⟩ = some (.slice none 0 0) := (hb1.cell (p := ⟨w.heap.size + 1 + 1, 0, none⟩) (by show w.heap.size + 1 + 1 < _; omega)).trans (by simp [go_sem])
  have q3 : w1.cell? ⟨w.heap.size + 1 + 1, 1, none⟩ = some (.slice none 0 0) := (hb1.cell (p := ⟨w.heap.size + 1 + 1, 1, none⟩) (by show w.heap.size + 1 + 1 < _; omega)).trans (by simp [go_sem])
  have q4 : w1.cell? ⟨w.heap.size + 1, 0, none⟩ = some (.slice none 0 0) := (hb1.cell (p := ⟨w.heap.size + 1, 0, none⟩) (by show w.heap.size + 1 < _; omega)).trans (by simp [go_sem])
  have q5 : w1.cell? ⟨w.heap.size + 1, 1, none⟩ = some (.slice none 0 0) := (hb1.cell (p := ⟨w.heap.size + 1, 1, none⟩) (by show w.heap.size + 1 < _; omega)).trans (by simp [go_sem])
  have g2 : ∀ i, w1.frozen? ⟨w.heap.size + 1 + 1, i, none⟩ = false := fun i => (hb1.frozen (p := ⟨w.heap.size + 1 + 1, i, none⟩) (by show w.heap.size + 1 + 1 < _; omega)).trans (by simp [go_sem])
  have g4 : ∀ i, w1.frozen? ⟨w.heap.size + 1, i, none⟩ = false := fun i => (hb1.frozen (p := ⟨w.heap.size + 1, i, none⟩) (by show w.heap.size + 1 < _; omega)).trans (by simp [go_sem])
  have hBB := hb1
  go_wp2_with fail
  have hB2 : Below w.heap.size w (w1.setCell ⟨w.heap.size + 1 + 1, 0, none⟩ (.slice (some ⟨w.heap.size + 1 + 1 + 1, 0, none⟩) n n)) := hBw.setCell (by show w.heap.size ≤ w.heap.size + 1 + 1; omega) _
  refine (toI_own b d m fs _ HM.out h2 (HB.out.below hB2)).mono ?_
  rintro e w2 ⟨rfl, hb2, hz2, own2⟩
  simp only [World.size_setCell] at hb2 hz2 own2
  have c0 : ∀ x i, x < w1.heap.size → w2.cell? ⟨x, i, none⟩ = (w1.setCell ⟨w.heap.size + 1 + 1, 0, none⟩ (.slice (some ⟨w.heap.size + 1 + 1 + 1, 0, none⟩) n n)).cell? ⟨x, i, none⟩ := fun x i hx => hb2.cell (p := ⟨x, i, none⟩) hx
  have f0 : ∀ x i, x < w1.heap.size → w2.frozen? ⟨x, i, none⟩ = w1.frozen? ⟨x, i, none⟩ := fun x i hx => (hb2.frozen (p := ⟨x, i, none⟩) hx).trans (World.frozen?_setCell ..)
  have p0 : w2.cell? ⟨w.heap.size + 1 + 1, 0, none⟩ = some (.slice (some ⟨w.heap.size + 1 + 1 + 1, 0, none⟩) n n) := (c0 _ _ (by omega)).trans (World.cell?_setCell_same _ _ _ q2)
  have p1 : w2.cell? ⟨w.heap.size + 1 + 1, 1, none⟩ = some (.slice none 0 0) := (c0 _ _ (by omega)).trans ((World.cell?_setCell_other _ _ _ _ (by simp)).trans q3)
  have p2 : w2.cell? ⟨w.heap.size + 1, 0, none⟩ = some (.slice none 0 0) := (c0 _ _ (by omega)).trans ((World.cell?_setCell_other _ _ _ _ (by simp)).trans q4)
  have p3 : w2.cell? ⟨w.heap.size + 1, 1, none⟩ = some (.slice none 0 0) := (c0 _ _ (by omega)).trans ((World.cell?_setCell_other _ _ _ _ (by simp)).trans q5)
  have g0 : ∀ i, w2.frozen? ⟨w.heap.size + 1 + 1, i, none⟩ = false := fun i => (f0 _ _ (by omega)).trans (g2 i)
  have g1 : ∀ i, w2.frozen? ⟨w.heap.size + 1, i, none⟩ = false := fun i => (f0 _ _ (by omega)).trans (g4 i)
  have own1' := owns_keep (ownsRow_setCell_below own1 (a := ⟨w.heap.size + 1 + 1, 0, none⟩) (by show w.heap.size + 1 + 1 < _; omega) (.slice (some ⟨w.heap.size + 1 + 1 + 1, 0, none⟩) n n)) (hb2.block (w.heap.size + 1 + 1 + 1) hz1)
  have hB3 : Below w.heap.size w w2 := hB2.trans (hb2.mono (by omega))
  have HO1 := hide own1'
  have HO2 := hide own2
  clear q1 q2 q3 q4 q5 g2 g4 c0 f0 own1 own1' own2
  go_wp2_with fail
  refine bodyPost_ret (v := .agg #[.slice (some ⟨w.heap.size + 1 + 1 + 1, 0, none⟩) n n, .slice (some ⟨w1.heap.size, 0, none⟩) m m]) (by simp [results, Try.results14, go_sem, p2, p3]) rfl ⟨w.heap.size + 1 + 1 + 1, w1.heap.size, rfl, ?_, by omega, by omega, by simpa using hz2, ?_, ?_⟩
  · exact ((hB3.setCell (by show w.heap.size ≤ w.heap.size + 1 + 1; omega) _).setCell (by show w.heap.size ≤ w.heap.size + 1; omega) _).setCell (by show w.heap.size ≤ w.heap.size + 1; omega) _
  · exact owns_low (ownsRow_setCell_below (ownsRow_setCell_below (ownsRow_setCell_below HO1.out (by show w.heap.size + 1 + 1 < _; omega) _) (by show w.heap.size + 1 < _; omega) _) (by show w.heap.size + 1 < _; omega) _) (by omega)
  · exact owns_low (ownsRow_setCell_below (ownsRow_setCell_below (ownsRow_setCell_below HO2.out (by show w.heap.size + 1 + 1 < _; omega) _) (by show w.heap.size + 1 < _; omega) _) (by show w.heap.size + 1 < _; omega) _) (by omega)

set_option maxHeartbeats 2000000 in
theorem eqP_any {a b a' b' : Option Addr} {n m c d c' d' : Nat} {ps fs : List Int} {w : World} (hn : ps.length = n) (hm : fs.length = m) (h1 : n ≤ 1048576) (h2 : m ≤ 1048576) (ha : ARow w a ps) (hb : ARow w b fs) (ha' : ARow w a' ps) (hb' : ARow w b' fs) :
    Calls Try.prog 16 #[.agg #[.slice a n c, .slice b m d], .agg #[.slice a' n c', .slice b' m d']] w fun e w' => e = .returned (.bool true) ∧ Below w.heap.size w w' := by
  have HA := hide ((ha.alloc (.cells #[.slice a n c, .slice b m d] 33)).alloc (.cells #[.slice a' n c', .slice b' m d'] 33))
  have HB := hide ((hb.alloc (.cells #[.slice a n c, .slice b m d] 33)).alloc (.cells #[.slice a' n c', .slice b' m d'] 33))
  have HA' := hide ((ha'.alloc (.cells #[.slice a n c, .slice b m d] 33)).alloc (.cells #[.slice a' n c', .slice b' m d'] 33))
  have HB' := hide ((hb'.alloc (.cells #[.slice a n c, .slice b m d] 33)).alloc (.cells #[.slice a' n c', .slice b' m d'] 33))
  clear ha hb ha' hb'
  go_enter Try.func16, Try.ntmps16
  go_wp2_with fail
  refine (eqI_any hn h1 HA.out HA'.out).mono ?_
  rintro e w1 ⟨rfl, q, rfl⟩
  go_wp2_with fail
  refine (eqI_any hm h2 (HB.out.drewN q) (HB'.out.drewN q)).mono ?_
  rintro e w1 ⟨rfl, q', rfl⟩
  go_wp2_with fail
  go_ret
  have hB := below_drewN (below_drewN (((Below.refl w.heap.size w).alloc (Nat.le_refl _) (.cells #[.slice a n c, .slice b m d] 33)).alloc (by simp) (.cells #[.slice a' n c', .slice b' m d'] 33)) q) q'
  exact ⟨rfl, by simpa using hB⟩
end Go.Proofs.Ytolkhobedokciaa
