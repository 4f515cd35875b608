/-
  What IndexOf answers, the program's and the model's.
-/
import Derived.Test.YtegonbilomcpkaaPb
import Derived.Test.YtegonbilomcpkaaI
namespace Go.Proofs.Ytegonbilomcpkaa
open Go.RowKit

/-- Whether a good has an index. -/
def idxB (ps fs : List Int) (g : Int) : Bool := Pf.goodP ps fs && (Pf.inB g 0 ((ps.length : Int) - 1) && !(ps.getD g.toNat 0 == 0))

/-- What stays while the answer is made: the profile's two fields, two numbers of its lists. -/
theorem kI_call {w w1 w2 : World} {ba bb oa ob : Nat} {v0 v1 v2 v3 : Value} (ha : ba < w.heap.size) (hb : bb < w.heap.size)
    (s : w1.cell? ⟨w.heap.size, 0, none⟩ = some v0 ∧ w1.cell? ⟨w.heap.size, 1, none⟩ = some v1 ∧ w1.cell? ⟨ba, oa, none⟩ = some v2 ∧ w1.cell? ⟨bb, ob, none⟩ = some v3 ∧ Below w.heap.size w w1 ∧ w.heap.size + 1 < w1.heap.size) (h : Below w1.heap.size w1 w2) :
    w2.cell? ⟨w.heap.size, 0, none⟩ = some v0 ∧ w2.cell? ⟨w.heap.size, 1, none⟩ = some v1 ∧ w2.cell? ⟨ba, oa, none⟩ = some v2 ∧ w2.cell? ⟨bb, ob, none⟩ = some v3 ∧ Below w.heap.size w w2 ∧ w.heap.size + 1 < w2.heap.size := by
  obtain ⟨s0, s1, s2, s3, s4, s5⟩ := s
  obtain ⟨hc, _⟩ := bcell h
  exact ⟨(hc _ _ (by omega)).trans s0, (hc _ _ (by omega)).trans s1, (hc _ _ (by omega)).trans s2, (hc _ _ (by omega)).trans s3, s4.trans (h.mono (by omega)), Nat.lt_of_lt_of_le s5 h.size⟩
theorem kI_set {w w1 : World} {ba bb oa ob i : Nat} {v v0 v1 v2 v3 : Value} (ha : ba < w.heap.size) (hb : bb < w.heap.size)
    (s : w1.cell? ⟨w.heap.size, 0, none⟩ = some v0 ∧ w1.cell? ⟨w.heap.size, 1, none⟩ = some v1 ∧ w1.cell? ⟨ba, oa, none⟩ = some v2 ∧ w1.cell? ⟨bb, ob, none⟩ = some v3 ∧ Below w.heap.size w w1 ∧ w.heap.size + 1 < w1.heap.size) :
    (w1.setCell ⟨w.heap.size + 1, i, none⟩ v).cell? ⟨w.heap.size, 0, none⟩ = some v0 ∧ (w1.setCell ⟨w.heap.size + 1, i, none⟩ v).cell? ⟨w.heap.size, 1, none⟩ = some v1 ∧ (w1.setCell ⟨w.heap.size + 1, i, none⟩ v).cell? ⟨ba, oa, none⟩ = some v2 ∧ (w1.setCell ⟨w.heap.size + 1, i, none⟩ v).cell? ⟨bb, ob, none⟩ = some v3 ∧ Below w.heap.size w (w1.setCell ⟨w.heap.size + 1, i, none⟩ v) ∧ w.heap.size + 1 < (w1.setCell ⟨w.heap.size + 1, i, none⟩ v).heap.size := by
  obtain ⟨s0, s1, s2, s3, s4, s5⟩ := s
  have hc : ∀ x o, x ≠ w.heap.size + 1 → (w1.setCell ⟨w.heap.size + 1, i, none⟩ v).cell? ⟨x, o, none⟩ = w1.cell? ⟨x, o, none⟩ := fun x o h => World.cell?_setCell_other _ _ _ _ (fun e => h (by injection e with e1; exact e1.symm))
  exact ⟨(hc _ _ (by omega)).trans s0, (hc _ _ (by omega)).trans s1, (hc _ _ (by omega)).trans s2, (hc _ _ (by omega)).trans s3, s4.setCell (by show w.heap.size ≤ w.heap.size + 1; omega) v, by simpa using s5⟩

/-- The variables of a call: the profile, and the answer. -/
def PV (w w1 : World) (v0 v1 : Value) : Prop :=
  w1.cell? ⟨w.heap.size, 0, none⟩ = some v0 ∧ w1.cell? ⟨w.heap.size, 1, none⟩ = some v1 ∧ w1.cell? ⟨w.heap.size + 1, 0, none⟩ = some (.int .i64 0) ∧ w1.cell? ⟨w.heap.size + 1, 1, none⟩ = some (.int .i64 0) ∧
  (w1.frozen? ⟨w.heap.size + 1, 0, none⟩ = false ∧ w1.frozen? ⟨w.heap.size + 1, 1, none⟩ = false) ∧ Below w.heap.size w w1 ∧ w.heap.size + 1 < w1.heap.size
theorem PV.below {w w1 w2 : World} {v0 v1 : Value} (h : PV w w1 v0 v1) (hb : Below w1.heap.size w1 w2) : PV w w2 v0 v1 := by
  obtain ⟨s0, s1, s2, s3, ⟨f0, f1⟩, s4, s5⟩ := h
  obtain ⟨hc, hf⟩ := bcell hb
  exact ⟨(hc _ _ (by omega)).trans s0, (hc _ _ (by omega)).trans s1, (hc _ _ (by omega)).trans s2, (hc _ _ (by omega)).trans s3, ⟨(hf _ _ (by omega)).trans f0, (hf _ _ (by omega)).trans f1⟩, s4.trans (hb.mono (by omega)), Nat.lt_of_lt_of_le s5 hb.size⟩
theorem PV.new (w : World) (v0 v1 : Value) (t t' : TypeId) : PV w ((w.alloc (.cells #[v0, v1] t)).alloc (.cells #[.int .i64 0, .int .i64 0] t')) v0 v1 :=
  ⟨by simp [go_sem], by simp [go_sem], by simp [go_sem], by simp [go_sem], ⟨by simp [go_sem], by simp [go_sem]⟩, ((Below.refl _ _).alloc (Nat.le_refl _) _).alloc (by simp) _, by simp⟩

theorem pv_res {w w1 w2 : World} {v0 v1 : Value} (h : PV w w1 v0 v1) (hb : Below w1.heap.size w1.drew w2) :
    w2.cell? ⟨w.heap.size + 1, 0, none⟩ = some (.int .i64 0) ∧ w2.cell? ⟨w.heap.size + 1, 1, none⟩ = some (.int .i64 0) ∧ w2.frozen? ⟨w.heap.size + 1, 0, none⟩ = false ∧ w2.frozen? ⟨w.heap.size + 1, 1, none⟩ = false := by
  obtain ⟨s0, s1, s2, s3, ⟨f0, f1⟩, s4, s5⟩ := h
  obtain ⟨hc, hf⟩ := bcell (W := w1.drew) hb
  exact ⟨(hc _ _ s5).trans s2, (hc _ _ s5).trans s3, (hf _ _ s5).trans f0, (hf _ _ s5).trans f1⟩

set_option maxRecDepth 100000 in
set_option maxHeartbeats 2000000 in
theorem io_bad {a b : Option Addr} {n m c d : Nat} {g : Int} {ps fs : List Int} {w : World} (hn : ps.length = n) (hm : fs.length = m) (ha : ARow w a ps) (hb : ARow w b fs) (hg : Pf.goodP ps fs = false) :
    Calls Try.prog 19 #[.agg #[.slice a n c, .slice b m d], .int .i64 g] w fun e w' => e = .returned (.tuple #[.agg #[.int .i64 0, .int .i64 0], .bool false]) ∧ Below w.heap.size w w' := by
  have HA := hide ha
  have HB := hide hb
  have HG := hide hg
  subst hn hm
  clear ha hb hg
  go_enter Try.func19, Try.ntmps19
  go_wp2_with ((go_at_call 13; refine (gp_eq ((HA.out.alloc _).alloc _) ((HB.out.alloc _).alloc _) HG.out).mono ?_; rintro e w1 ⟨rfl, hb1⟩; obtain ⟨p0, p1, p2, p3, ⟨f0, f1⟩, hB1, z1⟩ := (PV.new w _ _ _ _).below hb1))
  exact bodyPost_ret (v := .tuple #[.agg #[.int .i64 0, .int .i64 0], .bool false]) (by simp [results, Try.results19, go_sem, p2, p3]) rfl ⟨rfl, (hB1.setCell (by show w.heap.size ≤ w.heap.size + 1; omega) _).setCell (by show w.heap.size ≤ w.heap.size + 1; omega) _⟩

set_option maxRecDepth 100000 in
set_option maxHeartbeats 2000000 in
theorem io_out {a b : Option Addr} {n m c d : Nat} {g : Int} {ps fs : List Int} {w : World} (hn : ps.length = n) (hm : fs.length = m) (ha : ARow w a ps) (hb : ARow w b fs) (hg : Pf.goodP ps fs = true) (ho : Pf.inB g 0 ((n : Int) - 1) = false) :
    Calls Try.prog 19 #[.agg #[.slice a n c, .slice b m d], .int .i64 g] w fun e w' => e = .returned (.tuple #[.agg #[.int .i64 0, .int .i64 0], .bool false]) ∧ Below w.heap.size w w' := by
  have h12 : n ≤ 12 := by have := (Pf.goodP_len hg).2; omega
  have HA := hide ha
  have HB := hide hb
  have HG := hide hg
  have HO := hide ho
  subst hn hm
  clear ha hb hg ho
  go_enter Try.func19, Try.ntmps19
  go_wp2_with (first
    | (go_at_call 13; refine (gp_eq ((HA.out.alloc _).alloc _) ((HB.out.alloc _).alloc _) HG.out).mono ?_; rintro e w1 ⟨rfl, hb1⟩; obtain ⟨p0, p1, p2, p3, ⟨f0, f1⟩, hB1, z1⟩ := (PV.new w _ _ _ _).below hb1)
    | (go_at_call 39; refine (between_eq HO.out).mono ?_; rintro e w2 ⟨rfl, rfl⟩))
  exact bodyPost_ret (v := .tuple #[.agg #[.int .i64 0, .int .i64 0], .bool false]) (by simp [results, Try.results19, go_sem, p2, p3]) rfl ⟨rfl, (hB1.setCell (by show w.heap.size ≤ w.heap.size + 1; omega) _).setCell (by show w.heap.size ≤ w.heap.size + 1; omega) _⟩

set_option maxRecDepth 100000 in
set_option maxHeartbeats 2000000 in
theorem io_zero {b : Option Addr} {n m c d i ba oa : Nat} {ps fs : List Int} {w : World} (hn : ps.length = n) (hm : fs.length = m) (ha : ARow w (some ⟨ba, oa, none⟩) ps) (hb : ARow w b fs) (hg : Pf.goodP ps fs = true) (hi : i < n) (hba : ba < w.heap.size) (hp : w.cell? ⟨ba, oa + i, none⟩ = some (.int .i64 0)) :
    Calls Try.prog 19 #[.agg #[.slice (some ⟨ba, oa, none⟩) n c, .slice b m d], .int .i64 (i : Int)] w fun e w' => e = .returned (.tuple #[.agg #[.int .i64 0, .int .i64 0], .bool false]) ∧ Below w.heap.size w w' := by
  have h12 : n ≤ 12 := by have := (Pf.goodP_len hg).2; omega
  have HA := hide ha
  have HB := hide hb
  have HG := hide hg
  have HO : Hid (Pf.inB (i : Int) 0 ((n : Int) - 1) = true) := hide (Pf.inB_of (by omega) (by omega))
  have i0 : (0 : Int) ≤ (i : Int) := by omega
  have i1 : (i : Int) < (n : Int) := by omega
  subst hn hm
  clear ha hb hg
  go_enter Try.func19, Try.ntmps19
  go_wp2_with (first
    | (go_at_call 13; refine (gp_eq ((HA.out.alloc _).alloc _) ((HB.out.alloc _).alloc _) HG.out).mono ?_; rintro e w1 ⟨rfl, hb1⟩; obtain ⟨p0, p1, p2, p3, ⟨f0, f1⟩, hB1, z1⟩ := (PV.new w _ _ _ _).below hb1; have r1 := (hB1.cell (p := ⟨ba, oa + i, none⟩) hba).trans hp)
    | (go_at_call 39; refine (between_eq HO.out).mono ?_; rintro e w2 ⟨rfl, rfl⟩))
  exact bodyPost_ret (v := .tuple #[.agg #[.int .i64 0, .int .i64 0], .bool false]) (by simp [results, Try.results19, go_sem, p2, p3]) rfl ⟨rfl, (hB1.setCell (by show w.heap.size ≤ w.heap.size + 1; omega) _).setCell (by show w.heap.size ≤ w.heap.size + 1; omega) _⟩

set_option maxRecDepth 100000 in
set_option maxHeartbeats 4000000 in
theorem io_yes {n m c d i ba oa bb ob : Nat} {x y : Int} {ps fs : List Int} {w : World} (hn : ps.length = n) (hm : fs.length = m) (ha : ARow w (some ⟨ba, oa, none⟩) ps) (hb : ARow w (some ⟨bb, ob, none⟩) fs) (hg : Pf.goodP ps fs = true) (hi : i < n) (hj : i < m)
    (hba : ba < w.heap.size) (hbb : bb < w.heap.size) (hp : w.cell? ⟨ba, oa + i, none⟩ = some (.int .i64 x)) (hq : w.cell? ⟨bb, ob + i, none⟩ = some (.int .i64 y)) (hx0 : x ≠ 0) (hx1 : 0 ≤ x) (hx2 : x ≤ 10000) (hy1 : 0 ≤ y) (hy2 : y ≤ 10000000) :
    Calls Try.prog 19 #[.agg #[.slice (some ⟨ba, oa, none⟩) n c, .slice (some ⟨bb, ob, none⟩) m d], .int .i64 (i : Int)] w fun e w' => e = .returned (.tuple #[.agg #[.int .i64 (Fr.mkN y x), .int .i64 (Fr.mkD y x)], .bool true]) ∧ Below w.heap.size w w' := by
  have h12 : n ≤ 12 := by have := (Pf.goodP_len hg).2; omega
  have HA := hide ha
  have HB := hide hb
  have HG := hide hg
  have HO : Hid (Pf.inB (i : Int) 0 ((n : Int) - 1) = true) := hide (Pf.inB_of (by omega) (by omega))
  have i0 : (0 : Int) ≤ (i : Int) := by omega
  have i1 : (i : Int) < (n : Int) := by omega
  have j1 : (i : Int) < (m : Int) := by omega
  have hxz : (x == 0) = false := by simp; omega
  have HX : Hid (Fr.partB x = true) := hide (by simp [Fr.partB]; omega)
  have HY : Hid (Fr.partB y = true) := hide (by simp [Fr.partB]; omega)
  subst hn hm
  clear ha hb hg
  go_enter Try.func19, Try.ntmps19
  go_wp2_with (first
    | (go_at_call 13; refine (gp_eq ((HA.out.alloc _).alloc _) ((HB.out.alloc _).alloc _) HG.out).mono ?_; rintro e w1 ⟨rfl, hb1⟩; obtain ⟨p0, p1, p2, p3, ⟨f0, f1⟩, hB1, z1⟩ := (PV.new w _ _ _ _).below hb1; have r1 := (hB1.cell (p := ⟨ba, oa + i, none⟩) hba).trans hp; have r2 := (hB1.cell (p := ⟨bb, ob + i, none⟩) hbb).trans hq)
    | (go_at_call 39; refine (between_eq HO.out).mono ?_; rintro e w2 ⟨rfl, rfl⟩))
  go_region_held3 (fun w' => w'.cell? ⟨w.heap.size, 0, none⟩ = some (.slice (some ⟨ba, oa, none⟩) ps.length c) ∧ w'.cell? ⟨w.heap.size, 1, none⟩ = some (.slice (some ⟨bb, ob, none⟩) fs.length d) ∧ w'.cell? ⟨ba, oa + i, none⟩ = some (.int .i64 x) ∧ w'.cell? ⟨bb, ob + i, none⟩ = some (.int .i64 y) ∧ Below w.heap.size w w' ∧ w.heap.size + 1 < w'.heap.size)
    (first | exact ⟨p0, p1, r1, r2, hB1.drew, z1⟩ | assumption | exact kI_call hba hbb ‹_› (by assumption) | exact kI_set hba hbb (kI_set hba hbb ‹_›))
    (first
    | (go_at_call 46; refine (of_yes _ _ _ HY.out HX.out hx0).mono ?_; rintro e w3 ⟨rfl, hb3⟩; obtain ⟨c4, c5, g4, g5⟩ := pv_res ⟨p0, p1, p2, p3, ⟨f0, f1⟩, hB1, z1⟩ hb3))
  obtain ⟨_, _, _, _, hB, _⟩ := ‹_ ∧ _ ∧ _ ∧ _ ∧ _ ∧ _›
  go_wp2_with fail
  exact bodyPost_ret (v := .tuple #[.agg #[.int .i64 (Fr.mkN y x), .int .i64 (Fr.mkD y x)], .bool true]) (by simp [results, Try.results19, go_sem, c4, c5]) rfl ⟨rfl, hB⟩

theorem io_any {a b : Option Addr} {n m c d : Nat} {g : Int} {ps fs : List Int} {w : World} (hn : ps.length = n) (hm : fs.length = m) (ha : ARow w a ps) (hb : ARow w b fs) :
    (idxB ps fs g = false → Calls Try.prog 19 #[.agg #[.slice a n c, .slice b m d], .int .i64 g] w fun e w' => e = .returned (.tuple #[.agg #[.int .i64 0, .int .i64 0], .bool false]) ∧ Below w.heap.size w w') ∧
    (idxB ps fs g = true → Calls Try.prog 19 #[.agg #[.slice a n c, .slice b m d], .int .i64 g] w fun e w' => e = .returned (.tuple #[.agg #[.int .i64 (Fr.mkN (fs.getD g.toNat 0) (ps.getD g.toNat 0)), .int .i64 (Fr.mkD (fs.getD g.toNat 0) (ps.getD g.toNat 0))], .bool true]) ∧ Below w.heap.size w w') := by
  cases hg : Pf.goodP ps fs
  · exact ⟨fun _ => io_bad hn hm ha hb hg, fun h => by simp [idxB, hg] at h⟩
  · cases ho : Pf.inB g 0 ((n : Int) - 1)
    · exact ⟨fun _ => io_out hn hm ha hb hg ho, fun h => by simp [idxB, hn, ho] at h⟩
    · obtain ⟨g0, g1⟩ := Pf.inB_yes ho
      obtain ⟨i, rfl⟩ : ∃ i : Nat, g = (i : Int) := ⟨g.toNat, by omega⟩
      have hi : i < ps.length := by omega
      have hj : i < fs.length := by have := (Pf.goodP_len hg).1; omega
      have hbd := Pf.goodAt_bd (Pf.goodP_at hg hi)
      rcases ha with rfl | ⟨ba, oa, rfl, hba, ca⟩
      · simp at hi
      rcases hb with rfl | ⟨bb, ob, rfl, hbb, cb⟩
      · simp at hj
      have r1 := ca i hi
      have r2 := cb i hj
      by_cases hz : ps.getD i 0 = 0
      · rw [hz] at r1
        refine ⟨fun _ => io_zero hn hm (Or.inr ⟨ba, oa, rfl, hba, ca⟩) (Or.inr ⟨bb, ob, rfl, hbb, cb⟩) hg (by omega) hba r1, fun h => ?_⟩
        simp only [idxB, Int.toNat_natCast, hz, Bool.and_eq_true] at h
        exact absurd h.2.2 (by decide)
      · refine ⟨fun h => ?_, fun _ => io_yes hn hm (Or.inr ⟨ba, oa, rfl, hba, ca⟩) (Or.inr ⟨bb, ob, rfl, hbb, cb⟩) hg (by omega) (by omega) hba hbb r1 r2 hz hbd.1 hbd.2.1 hbd.2.2.1 hbd.2.2.2.1⟩
        have hz' : (ps.getD i 0 == 0) = false := by simpa using hz
        simp only [idxB, Int.toNat_natCast, hg, hn, ho, hz'] at h
        cases h
set_option maxRecDepth 100000 in
set_option maxHeartbeats 2000000 in
theorem sio_bad {a b : Option Addr} {n m c d : Nat} {g : Int} {ps fs : List Int} {w : World} (hn : ps.length = n) (hm : fs.length = m) (ha : ARow w a ps) (hb : ARow w b fs) (hg : Pf.goodP ps fs = false) :
    Calls Try.prog 20 #[.agg #[.slice a n c, .slice b m d], .int .i64 g] w fun e w' => e = .returned (.tuple #[.agg #[.int .i64 0, .int .i64 0], .bool false]) ∧ Below w.heap.size w w' := by
  have HA := hide ha
  have HB := hide hb
  have HG := hide hg
  subst hn hm
  clear ha hb hg
  go_enter Try.func20, Try.ntmps20
  go_wp2_with ((go_at_call 17; refine (sgp_eq ((HA.out.alloc _).alloc _) ((HB.out.alloc _).alloc _) HG.out).mono ?_; rintro e w1 ⟨rfl, hb1⟩; obtain ⟨p0, p1, p2, p3, ⟨f0, f1⟩, hB1, z1⟩ := (PV.new w _ _ _ _).below hb1))
  exact bodyPost_ret (v := .tuple #[.agg #[.int .i64 0, .int .i64 0], .bool false]) (by simp [results, Try.results20, go_sem, p2, p3]) rfl ⟨rfl, (hB1.setCell (by show w.heap.size ≤ w.heap.size + 1; omega) _).setCell (by show w.heap.size ≤ w.heap.size + 1; omega) _⟩

set_option maxRecDepth 100000 in
set_option maxHeartbeats 2000000 in
theorem sio_out1 {a b : Option Addr} {n m c d : Nat} {g : Int} {ps fs : List Int} {w : World} (hn : ps.length = n) (hm : fs.length = m) (ha : ARow w a ps) (hb : ARow w b fs) (hg : Pf.goodP ps fs = true) (ho : g < 0) :
    Calls Try.prog 20 #[.agg #[.slice a n c, .slice b m d], .int .i64 g] w fun e w' => e = .returned (.tuple #[.agg #[.int .i64 0, .int .i64 0], .bool false]) ∧ Below w.heap.size w w' := by
  have h12 : n ≤ 12 := by have := (Pf.goodP_len hg).2; omega
  have HA := hide ha
  have HB := hide hb
  have HG := hide hg
  subst hn hm
  clear ha hb hg
  go_enter Try.func20, Try.ntmps20
  go_wp2_with ((go_at_call 17; refine (sgp_eq ((HA.out.alloc _).alloc _) ((HB.out.alloc _).alloc _) HG.out).mono ?_; rintro e w1 ⟨rfl, hb1⟩; obtain ⟨p0, p1, p2, p3, ⟨f0, f1⟩, hB1, z1⟩ := (PV.new w _ _ _ _).below hb1))
  exact bodyPost_ret (v := .tuple #[.agg #[.int .i64 0, .int .i64 0], .bool false]) (by simp [results, Try.results20, go_sem, p2, p3]) rfl ⟨rfl, (hB1.setCell (by show w.heap.size ≤ w.heap.size + 1; omega) _).setCell (by show w.heap.size ≤ w.heap.size + 1; omega) _⟩
set_option maxRecDepth 100000 in
set_option maxHeartbeats 2000000 in
theorem sio_out2 {a b : Option Addr} {n m c d : Nat} {g : Int} {ps fs : List Int} {w : World} (hn : ps.length = n) (hm : fs.length = m) (ha : ARow w a ps) (hb : ARow w b fs) (hg : Pf.goodP ps fs = true) (ho : (n : Int) ≤ g) :
    Calls Try.prog 20 #[.agg #[.slice a n c, .slice b m d], .int .i64 g] w fun e w' => e = .returned (.tuple #[.agg #[.int .i64 0, .int .i64 0], .bool false]) ∧ Below w.heap.size w w' := by
  have h12 : n ≤ 12 := by have := (Pf.goodP_len hg).2; omega
  have ho' : ¬ g < 0 := by omega
  have HA := hide ha
  have HB := hide hb
  have HG := hide hg
  subst hn hm
  clear ha hb hg
  go_enter Try.func20, Try.ntmps20
  go_wp2_with ((go_at_call 17; refine (sgp_eq ((HA.out.alloc _).alloc _) ((HB.out.alloc _).alloc _) HG.out).mono ?_; rintro e w1 ⟨rfl, hb1⟩; obtain ⟨p0, p1, p2, p3, ⟨f0, f1⟩, hB1, z1⟩ := (PV.new w _ _ _ _).below hb1))
  exact bodyPost_ret (v := .tuple #[.agg #[.int .i64 0, .int .i64 0], .bool false]) (by simp [results, Try.results20, go_sem, p2, p3]) rfl ⟨rfl, (hB1.setCell (by show w.heap.size ≤ w.heap.size + 1; omega) _).setCell (by show w.heap.size ≤ w.heap.size + 1; omega) _⟩
theorem sio_out {a b : Option Addr} {n m c d : Nat} {g : Int} {ps fs : List Int} {w : World} (hn : ps.length = n) (hm : fs.length = m) (ha : ARow w a ps) (hb : ARow w b fs) (hg : Pf.goodP ps fs = true) (ho : Pf.inB g 0 ((n : Int) - 1) = false) :
    Calls Try.prog 20 #[.agg #[.slice a n c, .slice b m d], .int .i64 g] w fun e w' => e = .returned (.tuple #[.agg #[.int .i64 0, .int .i64 0], .bool false]) ∧ Below w.heap.size w w' := by
  rcases Pf.inB_no ho with h | h
  · exact sio_out1 hn hm ha hb hg h
  · exact sio_out2 hn hm ha hb hg (by omega)

set_option maxRecDepth 100000 in
set_option maxHeartbeats 2000000 in
theorem sio_zero {b : Option Addr} {n m c d i ba oa : Nat} {ps fs : List Int} {w : World} (hn : ps.length = n) (hm : fs.length = m) (ha : ARow w (some ⟨ba, oa, none⟩) ps) (hb : ARow w b fs) (hg : Pf.goodP ps fs = true) (hi : i < n) (hba : ba < w.heap.size) (hp : w.cell? ⟨ba, oa + i, none⟩ = some (.int .i64 0)) :
    Calls Try.prog 20 #[.agg #[.slice (some ⟨ba, oa, none⟩) n c, .slice b m d], .int .i64 (i : Int)] w fun e w' => e = .returned (.tuple #[.agg #[.int .i64 0, .int .i64 0], .bool false]) ∧ Below w.heap.size w w' := by
  have h12 : n ≤ 12 := by have := (Pf.goodP_len hg).2; omega
  have HA := hide ha
  have HB := hide hb
  have HG := hide hg
  have hi0 : ¬ (i : Int) < 0 := by omega
  have hi1 : ¬ (n : Int) ≤ (i : Int) := by omega
  have i0 : (0 : Int) ≤ (i : Int) := by omega
  have i1 : (i : Int) < (n : Int) := by omega
  subst hn hm
  clear ha hb hg
  go_enter Try.func20, Try.ntmps20
  go_wp2_with ((go_at_call 17; refine (sgp_eq ((HA.out.alloc _).alloc _) ((HB.out.alloc _).alloc _) HG.out).mono ?_; rintro e w1 ⟨rfl, hb1⟩; obtain ⟨p0, p1, p2, p3, ⟨f0, f1⟩, hB1, z1⟩ := (PV.new w _ _ _ _).below hb1; have r1 := (hB1.cell (p := ⟨ba, oa + i, none⟩) hba).trans hp))
  exact bodyPost_ret (v := .tuple #[.agg #[.int .i64 0, .int .i64 0], .bool false]) (by simp [results, Try.results20, go_sem, p2, p3]) rfl ⟨rfl, (hB1.setCell (by show w.heap.size ≤ w.heap.size + 1; omega) _).setCell (by show w.heap.size ≤ w.heap.size + 1; omega) _⟩

set_option maxRecDepth 100000 in
set_option maxHeartbeats 4000000 in
theorem sio_yes {n m c d i ba oa bb ob : Nat} {x y : Int} {ps fs : List Int} {w : World} (hn : ps.length = n) (hm : fs.length = m) (ha : ARow w (some ⟨ba, oa, none⟩) ps) (hb : ARow w (some ⟨bb, ob, none⟩) fs) (hg : Pf.goodP ps fs = true) (hi : i < n) (hj : i < m)
    (hba : ba < w.heap.size) (hbb : bb < w.heap.size) (hp : w.cell? ⟨ba, oa + i, none⟩ = some (.int .i64 x)) (hq : w.cell? ⟨bb, ob + i, none⟩ = some (.int .i64 y)) (hx0 : x ≠ 0) (hx1 : 0 ≤ x) (hx2 : x ≤ 10000) (hy1 : 0 ≤ y) (hy2 : y ≤ 10000000) :
    Calls Try.prog 20 #[.agg #[.slice (some ⟨ba, oa, none⟩) n c, .slice (some ⟨bb, ob, none⟩) m d], .int .i64 (i : Int)] w fun e w' => e = .returned (.tuple #[.agg #[.int .i64 (Fr.mkN y x), .int .i64 (Fr.mkD y x)], .bool true]) ∧ Below w.heap.size w w' := by
  have h12 : n ≤ 12 := by have := (Pf.goodP_len hg).2; omega
  have HA := hide ha
  have HB := hide hb
  have HG := hide hg
  have hi0 : ¬ (i : Int) < 0 := by omega
  have hi1 : ¬ (n : Int) ≤ (i : Int) := by omega
  have i0 : (0 : Int) ≤ (i : Int) := by omega
  have i1 : (i : Int) < (n : Int) := by omega
  have j1 : (i : Int) < (m : Int) := by omega
  have hxz : (x == 0) = false := by simp; omega
  subst hn hm
  clear ha hb hg
  go_enter Try.func20, Try.ntmps20
  go_wp2_with ((go_at_call 17; refine (sgp_eq ((HA.out.alloc _).alloc _) ((HB.out.alloc _).alloc _) HG.out).mono ?_; rintro e w1 ⟨rfl, hb1⟩; obtain ⟨p0, p1, p2, p3, ⟨f0, f1⟩, hB1, z1⟩ := (PV.new w _ _ _ _).below hb1; have r1 := (hB1.cell (p := ⟨ba, oa + i, none⟩) hba).trans hp; have r2 := (hB1.cell (p := ⟨bb, ob + i, none⟩) hbb).trans hq))
  go_region_held3 (fun w' => w'.cell? ⟨w.heap.size, 0, none⟩ = some (.slice (some ⟨ba, oa, none⟩) ps.length c) ∧ w'.cell? ⟨w.heap.size, 1, none⟩ = some (.slice (some ⟨bb, ob, none⟩) fs.length d) ∧ w'.cell? ⟨ba, oa + i, none⟩ = some (.int .i64 x) ∧ w'.cell? ⟨bb, ob + i, none⟩ = some (.int .i64 y) ∧ Below w.heap.size w w' ∧ w.heap.size + 1 < w'.heap.size)
    (first | exact ⟨p0, p1, r1, r2, hB1.drew, z1⟩ | assumption | exact kI_call hba hbb ‹_› (by assumption) | exact kI_set hba hbb (kI_set hba hbb ‹_›))
    (first
    | (go_at_call 47; refine (make_any _ _ _ (by omega) (by omega) (by omega) (by omega) hx0).mono ?_; rintro e w3 ⟨rfl, hb3⟩; obtain ⟨c4, c5, g4, g5⟩ := pv_res ⟨p0, p1, p2, p3, ⟨f0, f1⟩, hB1, z1⟩ hb3))
  obtain ⟨_, _, _, _, hB, _⟩ := ‹_ ∧ _ ∧ _ ∧ _ ∧ _ ∧ _›
  go_wp2_with fail
  exact bodyPost_ret (v := .tuple #[.agg #[.int .i64 (Fr.mkN y x), .int .i64 (Fr.mkD y x)], .bool true]) (by simp [results, Try.results20, go_sem, c4, c5]) rfl ⟨rfl, hB⟩

theorem sio_any {a b : Option Addr} {n m c d : Nat} {g : Int} {ps fs : List Int} {w : World} (hn : ps.length = n) (hm : fs.length = m) (ha : ARow w a ps) (hb : ARow w b fs) :
    (idxB ps fs g = false → Calls Try.prog 20 #[.agg #[.slice a n c, .slice b m d], .int .i64 g] w fun e w' => e = .returned (.tuple #[.agg #[.int .i64 0, .int .i64 0], .bool false]) ∧ Below w.heap.size w w') ∧
    (idxB ps fs g = true → Calls Try.prog 20 #[.agg #[.slice a n c, .slice b m d], .int .i64 g] w fun e w' => e = .returned (.tuple #[.agg #[.int .i64 (Fr.mkN (fs.getD g.toNat 0) (ps.getD g.toNat 0)), .int .i64 (Fr.mkD (fs.getD g.toNat 0) (ps.getD g.toNat 0))], .bool true]) ∧ Below w.heap.size w w') := by
  cases hg : Pf.goodP ps fs
  · exact ⟨fun _ => sio_bad hn hm ha hb hg, fun h => by simp [idxB, hg] at h⟩
  · cases ho : Pf.inB g 0 ((n : Int) - 1)
    · exact ⟨fun _ => sio_out hn hm ha hb hg ho, fun h => by simp [idxB, hn, ho] at h⟩
    · obtain ⟨g0, g1⟩ := Pf.inB_yes ho
      obtain ⟨i, rfl⟩ : ∃ i : Nat, g = (i : Int) := ⟨g.toNat, by omega⟩
      have hi : i < ps.length := by omega
      have hj : i < fs.length := by have := (Pf.goodP_len hg).1; omega
      have hbd := Pf.goodAt_bd (Pf.goodP_at hg hi)
      rcases ha with rfl | ⟨ba, oa, rfl, hba, ca⟩
      · simp at hi
      rcases hb with rfl | ⟨bb, ob, rfl, hbb, cb⟩
      · simp at hj
      have r1 := ca i hi
      have r2 := cb i hj
      by_cases hz : ps.getD i 0 = 0
      · rw [hz] at r1
        refine ⟨fun _ => sio_zero hn hm (Or.inr ⟨ba, oa, rfl, hba, ca⟩) (Or.inr ⟨bb, ob, rfl, hbb, cb⟩) hg (by omega) hba r1, fun h => ?_⟩
        simp only [idxB, Int.toNat_natCast, hz, Bool.and_eq_true] at h
        exact absurd h.2.2 (by decide)
      · refine ⟨fun h => ?_, fun _ => sio_yes hn hm (Or.inr ⟨ba, oa, rfl, hba, ca⟩) (Or.inr ⟨bb, ob, rfl, hbb, cb⟩) hg (by omega) (by omega) hba hbb r1 r2 hz hbd.1 hbd.2.1 hbd.2.2.1 hbd.2.2.2.1⟩
        have hz' : (ps.getD i 0 == 0) = false := by simpa using hz
        simp only [idxB, Int.toNat_natCast, hg, hn, ho, hz'] at h
        cases h
end Go.Proofs.Ytegonbilomcpkaa
