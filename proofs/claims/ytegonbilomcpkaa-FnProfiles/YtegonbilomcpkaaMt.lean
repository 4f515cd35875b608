/-
  What AddProfiles of the program answers.
-/
import Derived.Test.YtegonbilomcpkaaMs
import Derived.Test.YtegonbilomcpkaaPj
namespace Go.Proofs.Ytegonbilomcpkaa
open Go.RowKit Go.Maps Go.Sort

/-- Two lists, number by number. -/
def sumL (xs ys : List Int) : List Int := (List.range xs.length).map fun i => xs.getD i 0 + ys.getD i 0
theorem sumL_len (xs ys : List Int) : (sumL xs ys).length = xs.length := by simp [sumL]
/-- The map behind the first k goods. -/
def addF (pa fa pb fb : List Int) (k : Nat) : Dem := fun i => if i < k then some (pa.getD i 0 + pb.getD i 0, fa.getD i 0 + fb.getD i 0) else none
theorem addF_zero (pa fa pb fb : List Int) : addF pa fa pb fb 0 = fun _ => none := by funext i; simp [addF]
theorem addF_get (pa fa pb fb : List Int) (k : Nat) : (addF pa fa pb fb k).get k = (0, 0) := by simp [addF, Dem.get]
theorem addF_step (pa fa pb fb : List Int) (k : Nat) (x y : Int) (hx : x = pa.getD k 0) (hy : y = fa.getD k 0) :
    (((addF pa fa pb fb k).set k (x, y))).set k (x + pb.getD k 0, y + fb.getD k 0) = addF pa fa pb fb (k + 1) := by
  funext i
  unfold Dem.set addF
  by_cases e : i = k
  · subst e; subst hx; subst hy; simp
  · by_cases h : i < k
    · simp [e, h, show i < k + 1 by omega]
    · simp [e, h, show ¬ i < k + 1 by omega]
theorem set_get (f : Dem) (k : Nat) (x : Int × Int) : (f.set k x).get k = x := by simp [Dem.set, Dem.get]
theorem asked_get (f : Dem) (i : Nat) : f.asked.get i = if (f.get i).1 = 0 then (0, 0) else f.get i := by
  show (if (f.get i).1 = 0 then none else f i).getD (0, 0) = _
  split <;> rfl
theorem addF_picks {pa fa pb fb : List Int} {n : Nat} (h1 : pa.length = n) (h3 : pb.length = n) (hga : Pf.goodP pa fa = true) (hgb : Pf.goodP pb fb = true) :
    (addF pa fa pb fb n).asked.picks n = sumL pa pb ∧ (addF pa fa pb fb n).asked.flow n = sumL fa fb := by
  have h2 : fa.length = n := by have := (Pf.goodP_len hga).1; omega
  have key : ∀ i, i < n → ((addF pa fa pb fb n).asked.get i) = (pa.getD i 0 + pb.getD i 0, fa.getD i 0 + fb.getD i 0) := fun i hi => by
    have b1 := Pf.goodAt_bd (Pf.goodP_at hga (i := i) (by omega))
    have b2 := Pf.goodAt_bd (Pf.goodP_at hgb (i := i) (by omega))
    have e1 : (addF pa fa pb fb n).get i = (pa.getD i 0 + pb.getD i 0, fa.getD i 0 + fb.getD i 0) := by simp [addF, Dem.get, hi]
    rw [asked_get, e1]
    by_cases hz : pa.getD i 0 + pb.getD i 0 = 0
    · have : fa.getD i 0 + fb.getD i 0 = 0 := by
        have e3 : pa.getD i 0 = 0 := by omega
        have e4 : pb.getD i 0 = 0 := by omega
        have := b1.2.2.2.2.1 e3
        have := b2.2.2.2.2.1 e4
        omega
      rw [if_pos hz, hz, this]
    · rw [if_neg hz]
  constructor
  · unfold Dem.picks sumL
    rw [h1]
    exact List.map_congr_left fun i hi => by rw [key i (by simpa using hi)]
  · unfold Dem.flow sumL
    rw [h2]
    exact List.map_congr_left fun i hi => by rw [key i (by simpa using hi)]

theorem mkmap (W : World) : (Instr.makeMap 65 none).run Try.prog W = .ok (.map (some W.heap.size)) (W.alloc (.map #[] 0)) := by
  simp [Instr.makeMap, go_sem, Result.andThen]
/-- What stays while one profile's good is added. -/
theorem kA_call {w w1 w2 : World} {B ba bb oa ob M : Nat} {v0 v1 v2 v3 : Value} (hB : B ≠ M) (ha : ba ≠ M) (hb : bb ≠ M) (lB : B < w.heap.size) (la : ba < w.heap.size) (lb : bb < w.heap.size)
    (s : w1.cell? ⟨B, 0, none⟩ = some v0 ∧ w1.cell? ⟨B, 1, none⟩ = some v1 ∧ w1.cell? ⟨ba, oa, none⟩ = some v2 ∧ w1.cell? ⟨bb, ob, none⟩ = some v3 ∧ w.grownBy w1 (some M)) (h : w1.grownBy w2 (some M)) :
    w2.cell? ⟨B, 0, none⟩ = some v0 ∧ w2.cell? ⟨B, 1, none⟩ = some v1 ∧ w2.cell? ⟨ba, oa, none⟩ = some v2 ∧ w2.cell? ⟨bb, ob, none⟩ = some v3 ∧ w.grownBy w2 (some M) := by
  obtain ⟨s0, s1, s2, s3, s4⟩ := s
  have hs := s4.size
  have hc : ∀ x o, x < w.heap.size → x ≠ M → w2.cell? ⟨x, o, none⟩ = w1.cell? ⟨x, o, none⟩ := fun x o hx hne => h.cell_far ⟨x, o, none⟩ (by show x < _; omega) (by simp; omega)
  exact ⟨(hc _ _ lB hB).trans s0, (hc _ _ lB hB).trans s1, (hc _ _ la ha).trans s2, (hc _ _ lb hb).trans s3, grown_transM s4 h⟩

theorem PBx (w : World) (v0 v1 : Value) (t : TypeId) : (w.alloc (.cells #[v0, v1] t)).cell? ⟨w.heap.size, 0, none⟩ = some v0 ∧ (w.alloc (.cells #[v0, v1] t)).cell? ⟨w.heap.size, 1, none⟩ = some v1 ∧ w.heap.size < (w.alloc (.cells #[v0, v1] t)).heap.size := ⟨by simp [go_sem], by simp [go_sem], by simp⟩
theorem pbx_below {w w' : World} {B : Nat} {v0 v1 : Value} (h : w.cell? ⟨B, 0, none⟩ = some v0 ∧ w.cell? ⟨B, 1, none⟩ = some v1 ∧ B < w.heap.size) (hb : Below w.heap.size w w') : w'.cell? ⟨B, 0, none⟩ = some v0 ∧ w'.cell? ⟨B, 1, none⟩ = some v1 :=
  ⟨(hb.cell (p := ⟨B, 0, none⟩) h.2.2).trans h.1, (hb.cell (p := ⟨B, 1, none⟩) h.2.2).trans h.2.1⟩
theorem own_base {w : World} {base n g cap : Nat} {xs : List Value} (h : w.ownsRow base 3 1 (.slice (some ⟨g, 0, none⟩) n cap) n xs) : base ≤ g := by
  rcases h.2 with ⟨h0, _⟩ | ⟨g', cap', cur, hv, h2, h3, _⟩
  · cases h0
  · cases hv; exact h2
theorem add_first {w : World} {M n nn k : Nat} {pa fa pb fb : List Int} {x y : Int} (h : Hid (MO w M n nn (addF pa fa pb fb k))) (hk : k < n) (hn : n ≤ 12) (hnn : nn ≤ 1000) (x0 : 0 ≤ x) (x1 : x ≤ 100000000) (y0 : 0 ≤ y) (y1 : y ≤ 100000000) :
    Calls Try.prog 35 #[.map (some M), .int .i64 (k : Int), .int .i64 x, .int .i64 y] w fun e w' => e = .returned (.tuple #[]) ∧ Hid (MO w' M n (nn + 1) ((addF pa fa pb fb k).set k (x, y))) ∧ w.grownBy w' (some M) := by
  have := add_any (p := x) (q := y) h.out hk (by omega) (by omega) (by rw [addF_get]; exact Int.le_refl _) (by rw [addF_get]; decide) (by rw [addF_get]; exact Int.le_refl _) (by rw [addF_get]; decide) x0 (by omega) y0 (by omega)
  rw [addF_get] at this
  simp only [Int.zero_add] at this
  exact this
theorem add_second {w : World} {M n nn k : Nat} {f : Dem} {x y x' y' : Int} (h : Hid (MO w M n nn (f.set k (x, y)))) (hk : k < n) (hn : n ≤ 12) (hnn : nn ≤ 1000) (x0 : 0 ≤ x) (x1 : x ≤ 100000000) (y0 : 0 ≤ y) (y1 : y ≤ 100000000) (x0' : 0 ≤ x') (x1' : x' ≤ 100000000) (y0' : 0 ≤ y') (y1' : y' ≤ 100000000) :
    Calls Try.prog 35 #[.map (some M), .int .i64 (k : Int), .int .i64 x', .int .i64 y'] w fun e w' => e = .returned (.tuple #[]) ∧ Hid (MO w' M n (nn + 1) ((f.set k (x, y)).set k (x + x', y + y'))) ∧ w.grownBy w' (some M) := by
  have := add_any (p := x') (q := y') h.out hk (by omega) (by omega) (by rw [set_get]; exact x0) (by rw [set_get]; show x ≤ 1000000000; omega) (by rw [set_get]; exact y0) (by rw [set_get]; show y ≤ 1000000000; omega) x0' (by omega) y0' (by omega)
  rw [set_get] at this
  exact this
theorem grown_drew {w w1 : World} {M : Nat} (h : w.grownBy w1 (some M)) : w.grownBy w1.drew (some M) := ⟨h.os, h.tape, h.output, h.size, h.block⟩
/-- The variables of a call: two profiles, and the answer. -/
def PV2 (w w1 : World) (a0 a1 b0 b1 : Value) : Prop :=
  w1.cell? ⟨w.heap.size, 0, none⟩ = some a0 ∧ w1.cell? ⟨w.heap.size, 1, none⟩ = some a1 ∧ w1.cell? ⟨w.heap.size + 1, 0, none⟩ = some b0 ∧ w1.cell? ⟨w.heap.size + 1, 1, none⟩ = some b1 ∧
  w1.cell? ⟨w.heap.size + 1 + 1, 0, none⟩ = some (.slice none 0 0) ∧ w1.cell? ⟨w.heap.size + 1 + 1, 1, none⟩ = some (.slice none 0 0) ∧
  (w1.frozen? ⟨w.heap.size + 1 + 1, 0, none⟩ = false ∧ w1.frozen? ⟨w.heap.size + 1 + 1, 1, none⟩ = false) ∧ Below w.heap.size w w1 ∧ w.heap.size + 1 + 1 < w1.heap.size
theorem PV2.keep {w w1 w2 : World} {a0 a1 b0 b1 : Value} (h : PV2 w w1 a0 a1 b0 b1) (hs : w1.heap.size ≤ w2.heap.size) (hB : Below w.heap.size w w2) (hb : ∀ k, k < w.heap.size + 1 + 1 + 1 → w2.heap[k]? = w1.heap[k]?) : PV2 w w2 a0 a1 b0 b1 := by
  obtain ⟨s0, s1, s2, s3, s4, s5, ⟨f0, f1⟩, s6, s7⟩ := h
  have hc : ∀ x o, x < w.heap.size + 1 + 1 + 1 → w2.cell? ⟨x, o, none⟩ = w1.cell? ⟨x, o, none⟩ := fun x o hx => World.cell?_of_block (w := w1) (a := ⟨x, o, none⟩) (hb x hx)
  have hf : ∀ x o, x < w.heap.size + 1 + 1 + 1 → w2.frozen? ⟨x, o, none⟩ = w1.frozen? ⟨x, o, none⟩ := fun x o hx => World.frozen?_of_block (w := w1) (a := ⟨x, o, none⟩) (hb x hx)
  exact ⟨(hc _ _ (by omega)).trans s0, (hc _ _ (by omega)).trans s1, (hc _ _ (by omega)).trans s2, (hc _ _ (by omega)).trans s3, (hc _ _ (by omega)).trans s4, (hc _ _ (by omega)).trans s5, ⟨(hf _ _ (by omega)).trans f0, (hf _ _ (by omega)).trans f1⟩, hB, by omega⟩
theorem PV2.below {w w1 w2 : World} {a0 a1 b0 b1 : Value} (h : PV2 w w1 a0 a1 b0 b1) (hb : Below w1.heap.size w1 w2) : PV2 w w2 a0 a1 b0 b1 :=
  h.keep hb.size (h.2.2.2.2.2.2.2.1.trans (hb.mono (by have := h.2.2.2.2.2.2.2.2; omega))) (fun k hk => hb.block k (by have := h.2.2.2.2.2.2.2.2; omega))
theorem PV2.new (w : World) (a0 a1 b0 b1 : Value) (t t' t'' : TypeId) : PV2 w (((w.alloc (.cells #[a0, a1] t)).alloc (.cells #[b0, b1] t')).alloc (.cells #[.slice none 0 0, .slice none 0 0] t'')) a0 a1 b0 b1 :=
  ⟨by simp [go_sem], by simp [go_sem], by simp [go_sem], by simp [go_sem], by simp [go_sem], by simp [go_sem], ⟨by simp [go_sem], by simp [go_sem]⟩, (((Below.refl _ _).alloc (Nat.le_refl _) _).alloc (by simp) _).alloc (by simp; omega) _, by simp⟩
theorem below3 (w : World) (o o' o'' : Obj) : Below w.heap.size w (((w.alloc o).alloc o').alloc o'') := (((Below.refl _ _).alloc (Nat.le_refl _) _).alloc (by simp) _).alloc (by simp; omega) _

set_option maxRecDepth 100000 in
set_option maxHeartbeats 2000000 in
theorem ap_bad1 {a b a' b' : Option Addr} {n m c d n' m' c' d' : Nat} {ps fs : List Int} {w : World} (hn : ps.length = n) (hm : fs.length = m) (ha : ARow w a ps) (hb : ARow w b fs) (hg : Pf.goodP ps fs = false) :
    Calls Try.prog 12 #[.agg #[.slice a n c, .slice b m d], .agg #[.slice a' n' c', .slice b' m' d']] w fun e w' => e = .returned (.tuple #[.agg #[.slice none 0 0, .slice none 0 0], .bool false]) ∧ Below w.heap.size w w' := by
  have HA := hide ha
  have HB := hide hb
  have HG := hide hg
  have HN := hide hn
  have HM := hide hm
  clear ha hb hg hn hm
  go_enter Try.func12, Try.ntmps12
  go_wp2_with ((go_at_call 13; refine (gp_n HN HM HA HB HG (below3 _ _ _ _)).mono ?_; rintro e w1 ⟨rfl, hb1⟩; obtain ⟨p0, p1, p2, p3, p4, p5, ⟨f0, f1⟩, hB1, z1⟩ := (PV2.new w _ _ _ _ _ _ _).below hb1))
  exact bodyPost_ret (v := .tuple #[.agg #[.slice none 0 0, .slice none 0 0], .bool false]) (by simp [results, Try.results12, go_sem, p4, p5]) rfl ⟨rfl, (hB1.setCell (by show w.heap.size ≤ w.heap.size + 1 + 1; omega) _).setCell (by show w.heap.size ≤ w.heap.size + 1 + 1; omega) _⟩
set_option maxRecDepth 100000 in
set_option maxHeartbeats 2000000 in
theorem ap_bad2 {a b a' b' : Option Addr} {n m c d n' m' c' d' : Nat} {ps fs ps' fs' : List Int} {w : World} (hn : ps.length = n) (hm : fs.length = m) (ha : ARow w a ps) (hb : ARow w b fs) (hg : Pf.goodP ps fs = true)
    (hn' : ps'.length = n') (hm' : fs'.length = m') (ha' : ARow w a' ps') (hb' : ARow w b' fs') (hg' : Pf.goodP ps' fs' = false) :
    Calls Try.prog 12 #[.agg #[.slice a n c, .slice b m d], .agg #[.slice a' n' c', .slice b' m' d']] w fun e w' => e = .returned (.tuple #[.agg #[.slice none 0 0, .slice none 0 0], .bool false]) ∧ Below w.heap.size w w' := by
  have HA := hide ha
  have HB := hide hb
  have HG := hide hg
  have HN := hide hn
  have HM := hide hm
  have HA' := hide ha'
  have HB' := hide hb'
  have HG' := hide hg'
  have HN' := hide hn'
  have HM' := hide hm'
  clear ha hb hg hn hm ha' hb' hg' hn' hm'
  go_enter Try.func12, Try.ntmps12
  go_wp2_with (first
    | (go_at_call_of 13 (Value.agg #[Value.slice a n c, Value.slice b m d]); refine (gp_n HN HM HA HB HG (below3 _ _ _ _)).mono ?_; rintro e w1 ⟨rfl, hb1⟩; obtain ⟨p0, p1, p2, p3, p4, p5, ⟨f0, f1⟩, hB1, z1⟩ := (PV2.new w _ _ _ _ _ _ _).below hb1)
    | (go_at_call 13; refine (gp_n HN' HM' HA' HB' HG' hB1).mono ?_; rintro e w2 ⟨rfl, hb2⟩; obtain ⟨r0, r1, r2, r3, r4, r5, ⟨g0, g1⟩, hB2, z2⟩ := PV2.below ⟨p0, p1, p2, p3, p4, p5, ⟨f0, f1⟩, hB1, z1⟩ hb2))
  exact bodyPost_ret (v := .tuple #[.agg #[.slice none 0 0, .slice none 0 0], .bool false]) (by simp [results, Try.results12, go_sem, r4, r5]) rfl ⟨rfl, (hB2.setCell (by show w.heap.size ≤ w.heap.size + 1 + 1; omega) _).setCell (by show w.heap.size ≤ w.heap.size + 1 + 1; omega) _⟩
set_option maxRecDepth 100000 in
set_option maxHeartbeats 2000000 in
theorem ap_ne {a b a' b' : Option Addr} {n m c d n' m' c' d' : Nat} {ps fs ps' fs' : List Int} {w : World} (hn : ps.length = n) (hm : fs.length = m) (ha : ARow w a ps) (hb : ARow w b fs) (hg : Pf.goodP ps fs = true)
    (hn' : ps'.length = n') (hm' : fs'.length = m') (ha' : ARow w a' ps') (hb' : ARow w b' fs') (hg' : Pf.goodP ps' fs' = true) (hne : n ≠ n') :
    Calls Try.prog 12 #[.agg #[.slice a n c, .slice b m d], .agg #[.slice a' n' c', .slice b' m' d']] w fun e w' => e = .returned (.tuple #[.agg #[.slice none 0 0, .slice none 0 0], .bool false]) ∧ Below w.heap.size w w' := by
  have HA := hide ha
  have HB := hide hb
  have HG := hide hg
  have HN := hide hn
  have HM := hide hm
  have HA' := hide ha'
  have HB' := hide hb'
  have HG' := hide hg'
  have HN' := hide hn'
  have HM' := hide hm'
  have hz : ((n : Int) != (n' : Int)) = true := by simp; omega
  have hz' : ¬ (n : Int) = (n' : Int) := by omega
  clear ha hb hg hn hm ha' hb' hg' hn' hm'
  go_enter Try.func12, Try.ntmps12
  go_wp2_with (first
    | (go_at_call_of 13 (Value.agg #[Value.slice a n c, Value.slice b m d]); refine (gp_n HN HM HA HB HG (below3 _ _ _ _)).mono ?_; rintro e w1 ⟨rfl, hb1⟩; obtain ⟨p0, p1, p2, p3, p4, p5, ⟨f0, f1⟩, hB1, z1⟩ := (PV2.new w _ _ _ _ _ _ _).below hb1)
    | (go_at_call 13; refine (gp_n HN' HM' HA' HB' HG' hB1).mono ?_; rintro e w2 ⟨rfl, hb2⟩; obtain ⟨r0, r1, r2, r3, r4, r5, ⟨g0, g1⟩, hB2, z2⟩ := PV2.below ⟨p0, p1, p2, p3, p4, p5, ⟨f0, f1⟩, hB1, z1⟩ hb2))
  exact bodyPost_ret (v := .tuple #[.agg #[.slice none 0 0, .slice none 0 0], .bool false]) (by simp [results, Try.results12, go_sem, r4, r5]) rfl ⟨rfl, (hB2.setCell (by show w.heap.size ≤ w.heap.size + 1 + 1; omega) _).setCell (by show w.heap.size ≤ w.heap.size + 1 + 1; omega) _⟩

set_option maxHeartbeats 8000000 in
set_option maxRecDepth 100000 in
theorem ap_good {a b a' b' : Option Addr} {n c d c' d' : Nat} {pa fa pb fb : List Int} {w : World} (hn : pa.length = n) (hm : fa.length = n) (ha : ARow w a pa) (hb : ARow w b fa) (hg : Pf.goodP pa fa = true)
    (hn' : pb.length = n) (hm' : fb.length = n) (ha' : ARow w a' pb) (hb' : ARow w b' fb) (hg' : Pf.goodP pb fb = true) :
    Calls Try.prog 12 #[.agg #[.slice a n c, .slice b n d], .agg #[.slice a' n c', .slice b' n d']] w fun e w' => Below w.heap.size w w' ∧
      ((Pf.goodP (sumL pa pb) (sumL fa fb) = false ∧ e = .returned (.tuple #[.agg #[.slice none 0 0, .slice none 0 0], .bool false])) ∨
       (Pf.goodP (sumL pa pb) (sumL fa fb) = true ∧ ∃ x y, e = .returned (.tuple #[.agg #[.slice (some ⟨x, 0, none⟩) n n, .slice (some ⟨y, 0, none⟩) n n], .bool true]) ∧ x ≠ y ∧ w'.ownsRow w.heap.size 3 1 (.slice (some ⟨x, 0, none⟩) n n) n (ints (sumL pa pb)) ∧ w'.ownsRow w.heap.size 3 1 (.slice (some ⟨y, 0, none⟩) n n) n (ints (sumL fa fb)))) := by
  have h12 : n ≤ 12 := by have := (Pf.goodP_len hg).2; omega
  have HA := hide ha
  have HB := hide hb
  have HG := hide hg
  have HN := hide hn
  have HM := hide hm
  have HA' := hide ha'
  have HB' := hide hb'
  have HG' := hide hg'
  have HN' := hide hn'
  have HM' := hide hm'
  have hz : ((n : Int) != (n : Int)) = false := by simp
  have hmk := mkmap
  clear ha hb hg hn hm ha' hb' hg' hn' hm'
  go_enter Try.func12, Try.ntmps12
  go_wp2_with (first
    | (go_at_call_of 13 (Value.agg #[Value.slice a n c, Value.slice b n d]); refine (gp_n HN HM HA HB HG (below3 _ _ _ _)).mono ?_; rintro e w1 ⟨rfl, hb1⟩; obtain ⟨p0, p1, p2, p3, p4, p5, ⟨f0, f1⟩, hB1, z1⟩ := (PV2.new w _ _ _ _ _ _ _).below hb1)
    | (go_at_call 13; refine (gp_n HN' HM' HA' HB' HG' hB1).mono ?_; rintro e w2 ⟨rfl, hb2⟩; obtain ⟨r0, r1, r2, r3, r4, r5, ⟨g0, g1⟩, hB2, z2⟩ := PV2.below ⟨p0, p1, p2, p3, p4, p5, ⟨f0, f1⟩, hB1, z1⟩ hb2; obtain ⟨q0, q1, q2, q3, _, _, _, hB3, z3⟩ := PV2.below (show PV2 w w2 _ _ _ _ from ⟨r0, r1, r2, r3, r4, r5, ⟨g0, g1⟩, hB2, z2⟩) ((Below.refl _ _).alloc (Nat.le_refl _) (.map #[] 0))))
  have HPV := hide (PV2.below (show PV2 w w2 _ _ _ _ from ⟨r0, r1, r2, r3, r4, r5, ⟨g0, g1⟩, hB2, z2⟩) ((Below.refl _ _).alloc (Nat.le_refl _) (.map #[] 0)))
  have HMO := hide (MO.made w2 n)
  have sz0 : (w2.alloc (.map #[] 0)).heap.size = w2.heap.size + 1 := by simp
  clear p0 p1 p2 p3 p4 p5 f0 f1 hb1 hB1 z1 hb2 g0 g1 r0 r1 r2 r3 r4 r5 hmk hB2
  generalize hM : w2.heap.size = M at *
  generalize w2.alloc (.map #[] 0) = W0 at *
  go_loopw [7, 31] (fun _ s wr => ∃ k : Nat, s = .int .i64 k ∧ k ≤ n ∧ Hid (MO wr M n (2 * k) (addF pa fa pb fb k)) ∧ W0.grownBy wr (some M)) (fun _ s _ => n - (intOf s).toNat)
  case atStart => exact ⟨0, rfl, Nat.zero_le _, by rw [addF_zero]; exact HMO, World.grownBy.refl _ _⟩
  case round =>
    obtain ⟨k, rfl, hk, HMk, hgr⟩ := hrel
    by_cases hlt : k < n
    · rcases HA.out with h0 | ⟨b1, o1, rfl, l1, e1⟩
      · have := HN.out; rw [h0] at this; simp at this; omega
      rcases HB.out with h0 | ⟨b2, o2, rfl, l2, e2⟩
      · have := HM.out; rw [h0] at this; simp at this; omega
      rcases HA'.out with h0 | ⟨b3, o3, rfl, l3, e3⟩
      · have := HN'.out; rw [h0] at this; simp at this; omega
      rcases HB'.out with h0 | ⟨b4, o4, rfl, l4, e4⟩
      · have := HM'.out; rw [h0] at this; simp at this; omega
      have far : ∀ B o, B < w.heap.size + 1 + 1 → wr.cell? ⟨B, o, none⟩ = W0.cell? ⟨B, o, none⟩ := fun B o h => hgr.cell_far ⟨B, o, none⟩ (by show B < _; omega) (by simp; omega)
      have old : ∀ B o, B < w.heap.size → wr.cell? ⟨B, o, none⟩ = w.cell? ⟨B, o, none⟩ := fun B o h => (far B o (by omega)).trans (hB3.cell (p := ⟨B, o, none⟩) h)
      have x1 := (old b1 (o1 + k) l1).trans (e1 k (by rw [HN.out]; exact hlt))
      have x2 := (old b2 (o2 + k) l2).trans (e2 k (by rw [HM.out]; exact hlt))
      have x3 := (old b3 (o3 + k) l3).trans (e3 k (by rw [HN'.out]; exact hlt))
      have x4 := (old b4 (o4 + k) l4).trans (e4 k (by rw [HM'.out]; exact hlt))
      have u0 := (far w.heap.size 0 (by omega)).trans q0
      have u1 := (far w.heap.size 1 (by omega)).trans q1
      have u2 := (far (w.heap.size + 1) 0 (by omega)).trans q2
      have u3 := (far (w.heap.size + 1) 1 (by omega)).trans q3
      have d1 := Pf.goodAt_bd (Pf.goodP_at HG.out (i := k) (by rw [HN.out]; exact hlt))
      have d2 := Pf.goodAt_bd (Pf.goodP_at HG'.out (i := k) (by rw [HN'.out]; exact hlt))
      have HST := hide (addF_step pa fa pb fb k (pa.getD k 0) (fa.getD k 0) rfl rfl)
      generalize pa.getD k 0 = A1 at *
      generalize fa.getD k 0 = A2 at *
      generalize pb.getD k 0 = A3 at *
      generalize fb.getD k 0 = A4 at *
      obtain ⟨a10, a11, a20, a21, _⟩ := d1
      obtain ⟨a30, a31, a40, a41, _⟩ := d2
      have k0 : (0 : Int) ≤ (k : Int) := by omega
      have k1 : (k : Int) < (n : Int) := by omega
      have HMd : Hid (MO wr.drew M n (2 * k) (addF pa fa pb fb k)) := HMk.out.keep rfl
      clear e1 e2 e3 e4 far old HMk
      go_wp2_with fail
      go_region_held3 (fun w' => w'.cell? ⟨w.heap.size, 0, none⟩ = some (.slice (some ⟨b1, o1, none⟩) n c) ∧ w'.cell? ⟨w.heap.size, 1, none⟩ = some (.slice (some ⟨b2, o2, none⟩) n d) ∧ w'.cell? ⟨b1, o1 + k, none⟩ = some (.int .i64 A1) ∧ w'.cell? ⟨b2, o2 + k, none⟩ = some (.int .i64 A2) ∧ W0.grownBy w' (some M))
        (first | exact ⟨u0, u1, x1, x2, grown_drew hgr⟩ | assumption | exact kA_call (by omega) (by omega) (by omega) (by omega) (by omega) (by omega) ‹_› (by assumption))
        (first
        | (go_at_call 35; refine (add_first HMd hlt h12 (by omega) (by omega) (by omega) (by omega) (by omega)).mono ?_; rintro e wa ⟨rfl, HMa, hga⟩))
      obtain ⟨_, _, _, _, hgA⟩ := ‹_ ∧ _ ∧ _ ∧ _ ∧ _›
      have far : ∀ B o, B < w.heap.size + 1 + 1 → wa.cell? ⟨B, o, none⟩ = wr.cell? ⟨B, o, none⟩ := fun B o h => hga.cell_far ⟨B, o, none⟩ (by have := hgr.size; show B < wr.heap.size; omega) (by simp; omega)
      have v2 := (far (w.heap.size + 1) 0 (by omega)).trans u2
      have v3 := (far (w.heap.size + 1) 1 (by omega)).trans u3
      have y3 := (far b3 (o3 + k) (by omega)).trans x3
      have y4 := (far b4 (o4 + k) (by omega)).trans x4
      have HMb : Hid (MO wa.drew M n (2 * k + 1) ((addF pa fa pb fb k).set k (A1, A2))) := HMa.out.keep rfl
      clear far hga HMa HMd u0 u1 u2 u3 x1 x2 x3 x4 hgr
      go_wp2_with fail
      go_region_held3 (fun w' => w'.cell? ⟨w.heap.size + 1, 0, none⟩ = some (.slice (some ⟨b3, o3, none⟩) n c') ∧ w'.cell? ⟨w.heap.size + 1, 1, none⟩ = some (.slice (some ⟨b4, o4, none⟩) n d') ∧ w'.cell? ⟨b3, o3 + k, none⟩ = some (.int .i64 A3) ∧ w'.cell? ⟨b4, o4 + k, none⟩ = some (.int .i64 A4) ∧ W0.grownBy w' (some M))
        (first | exact ⟨v2, v3, y3, y4, grown_drew hgA⟩ | assumption | exact kA_call (by omega) (by omega) (by omega) (by omega) (by omega) (by omega) ‹_› (by assumption))
        (first
        | (go_at_call 35; refine (add_second HMb hlt h12 (by omega) (by omega) (by omega) (by omega) (by omega) (by omega) (by omega) (by omega) (by omega)).mono ?_; rintro e wb ⟨rfl, HMc, hgb⟩))
      obtain ⟨_, _, _, _, hgB⟩ := ‹_ ∧ _ ∧ _ ∧ _ ∧ _›
      have HMe : Hid (MO wb M n (2 * (k + 1)) (addF pa fa pb fb (k + 1))) := by rw [← HST.out]; exact HMc
      clear HMb HMc hgb v2 v3 y3 y4
      go_wp2_with fail
      go_roundw
      case rel => exact ⟨k + 1, by go_num, by omega, HMe, hgB⟩
      case measure => simp only [intOf]; omega
    · have hke : k = n := by omega
      subst hke
      obtain ⟨hP, hFl⟩ := addF_picks HN.out HN'.out HG.out HG'.out
      have hpr := profile_any HMk.out (by omega) (by omega)
      rw [hP, hFl] at hpr
      have HPR := hide hpr
      have szr := hgr.size
      have hBr : Below w.heap.size w wr := hB3.trans ⟨hgr.os, hgr.tape, hgr.output, hgr.size, fun b hb => hgr.block b (by omega) (by simp; omega)⟩
      have HPr := hide (HPV.out.keep hgr.size hBr (fun b hb => hgr.block b (by omega) (by simp; omega)))
      obtain ⟨u0, u1, _, _, _, _, _, _, _⟩ := HPr.out
      clear hP hFl hpr
      go_wp2_with (go_at_call 36; refine HPR.out.mono ?_; rintro e w5 ⟨x, y, rfl, hxy, hg5, ox, oy⟩)
      have bn := (Below.refl w5.heap.size w5).alloc (Nat.le_refl _) (.cells #[.slice (some ⟨x, 0, none⟩) k k, .slice (some ⟨y, 0, none⟩) k k] 29)
      have sz5 := hg5.size
      have hB5 : Below w.heap.size w w5 := hBr.trans ⟨hg5.os, hg5.tape, hg5.output, hg5.size, fun b hb => hg5.block b (by omega) (by simp; omega)⟩
      have HP5 := hide (HPr.out.keep hg5.size hB5 (fun b hb => hg5.block b (by omega) (by simp; omega)))
      have HP6 := hide (HP5.out.below bn)
      have lx := own_near ox
      have bx := own_base ox
      have by' := own_base oy
      have ly := own_near oy
      have OX := hide (owns_low (owns_keep ox (bn.block x lx)) hBr.size)
      have OY := hide (owns_low (owns_keep oy (bn.block y ly)) hBr.size)
      have lN : Hid ((sumL pa pb).length = k) := hide (by rw [sumL_len, HN.out])
      have lM : Hid ((sumL fa fb).length = k) := hide (by rw [sumL_len, HM.out])
      have RX := hide (arow_owns lN.out.symm OX.out)
      have RY := hide (arow_owns lM.out.symm OY.out)
      have XB := hide (PBx w5 (.slice (some ⟨x, 0, none⟩) k k) (.slice (some ⟨y, 0, none⟩) k k) 29)
      cases hgs : Pf.goodP (sumL pa pb) (sumL fa fb)
      · have HGS := hide hgs
        clear hgs ox oy HPR HPV HMk hgr hg5 bn u0 u1
        go_wp2_with (go_at_call 13; refine (gp_n lN lM RX RY HGS (Below.refl _ _)).mono ?_; rintro e w6 ⟨rfl, hb6⟩; obtain ⟨_, _, _, _, s4, s5, ⟨t0, t1⟩, hB6, z6⟩ := HP6.out.below hb6)
        refine bodyPost_ret (v := .tuple #[.agg #[.slice none 0 0, .slice none 0 0], .bool false]) (by simp [results, Try.results12, go_sem, s4, s5]) rfl ⟨(hB6.setCell (by show w.heap.size ≤ w.heap.size + 1 + 1; omega) _).setCell (by show w.heap.size ≤ w.heap.size + 1 + 1; omega) _, Or.inl ⟨HGS.out, rfl⟩⟩
      · have HGS := hide hgs
        clear hgs ox oy HPR HPV HMk hgr hg5 bn u0 u1
        go_wp2_with (go_at_call 13; refine (gp_n lN lM RX RY HGS (Below.refl _ _)).mono ?_; rintro e w6 ⟨rfl, hb6⟩; obtain ⟨_, _, _, _, s4, s5, ⟨t0, t1⟩, hB6, z6⟩ := HP6.out.below hb6; obtain ⟨c4, c5⟩ := pbx_below XB.out hb6)
        refine bodyPost_ret (v := .tuple #[.agg #[.slice (some ⟨x, 0, none⟩) k k, .slice (some ⟨y, 0, none⟩) k k], .bool true]) (by simp [results, Try.results12, go_sem, s4, s5]) rfl ⟨(hB6.setCell (by show w.heap.size ≤ w.heap.size + 1 + 1; omega) _).setCell (by show w.heap.size ≤ w.heap.size + 1 + 1; omega) _, Or.inr ⟨HGS.out, x, y, rfl, hxy, ?_, ?_⟩⟩
        · exact own_two (B := w.heap.size + 1 + 1) (owns_keep OX.out (hb6.block x (by simp; omega))) (by omega) _ _
        · exact own_two (B := w.heap.size + 1 + 1) (owns_keep OY.out (hb6.block y (by simp; omega))) (by omega) _ _
end Go.Proofs.Ytegonbilomcpkaa
