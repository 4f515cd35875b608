/-
  FnProfiles: what DrawAddProfiles hands out.
-/
import Derived.Test.YtegonbilomcpkaaIb
import Derived.Test.YtegonbilomcpkaaPn
import Derived.Deep.DeepCutAuto
namespace Go.Proofs.Ytegonbilomcpkaa
open Go.RowKit

/-- Two profiles. -/
def APPost (w : World) (e : Ending) (w' : World) : Prop :=
  ∃ a1 c1 a2 c2 b1 d1 b2 d2 pa fa pb fb, e = .returned (.tuple #[.agg #[.slice a1 (List.length pa) c1, .slice a2 (List.length fa) c2], .agg #[.slice b1 (List.length pb) d1, .slice b2 (List.length fb) d2]]) ∧ pa.length ≤ 13 ∧ fa.length ≤ 13 ∧ pb.length ≤ 13 ∧ fb.length ≤ 13 ∧ ARow w' a1 pa ∧ ARow w' a2 fa ∧ ARow w' b1 pb ∧ ARow w' b2 fb ∧ Below w.heap.size w w'
/-- A profile in a variable V, its lists behind. -/
def PVar (w : World) (V B : Nat) (a1 a2 : Option Addr) (n m c1 c2 : Nat) (ps fs : List Int) : Prop :=
  w.cell? ⟨V, 0, none⟩ = some (.slice a1 n c1) ∧ w.cell? ⟨V, 1, none⟩ = some (.slice a2 m c2) ∧ w.frozen? ⟨V, 0, none⟩ = false ∧ w.frozen? ⟨V, 1, none⟩ = false ∧ V < w.heap.size ∧ (ps.length = n ∧ fs.length = m ∧ n ≤ 13 ∧ m ≤ 13) ∧ w.ownsRow B 3 1 (.slice a1 n c1) n (ints ps) ∧ w.ownsRow B 3 1 (.slice a2 m c2) m (ints fs)
theorem PVar.kp {w w' : World} {V B C : Nat} {a1 a2 : Option Addr} {n m c1 c2 : Nat} {ps fs : List Int} (h : PVar w V B a1 a2 n m c1 c2 ps fs) (hk : Kp C w w') (hC : C < B) (hV : V ≠ C) : PVar w' V B a1 a2 n m c1 c2 ps fs := by
  obtain ⟨h1, h2, h3, h4, h5, h6, h8, h9⟩ := h
  exact ⟨(hk.cell h5 hV).trans h1, (hk.cell h5 hV).trans h2, (hk.frozen h5 hV).trans h3, (hk.frozen h5 hV).trans h4, Nat.lt_of_lt_of_le h5 hk.size, h6, own_kp h8 hk hC, own_kp h9 hk hC⟩
theorem PVar.below {w w' : World} {V B : Nat} {a1 a2 : Option Addr} {n m c1 c2 : Nat} {ps fs : List Int} (h : PVar w V B a1 a2 n m c1 c2 ps fs) (hb : Below w.heap.size w w') : PVar w' V B a1 a2 n m c1 c2 ps fs := by
  obtain ⟨h1, h2, h3, h4, h5, h6, h8, h9⟩ := h
  exact ⟨(hb.cell (p := ⟨V, 0, none⟩) h5).trans h1, (hb.cell (p := ⟨V, 1, none⟩) h5).trans h2, (hb.frozen (p := ⟨V, 0, none⟩) h5).trans h3, (hb.frozen (p := ⟨V, 1, none⟩) h5).trans h4, Nat.lt_of_lt_of_le h5 hb.size, h6, own_below h8 hb, own_below h9 hb⟩
theorem PVar.new {w : World} {B : Nat} {a1 a2 : Option Addr} {n m c1 c2 : Nat} {ps fs : List Int} (h : ps.length = n ∧ fs.length = m ∧ n ≤ 13 ∧ m ≤ 13) (o1 : w.ownsRow B 3 1 (.slice a1 n c1) n (ints ps)) (o2 : w.ownsRow B 3 1 (.slice a2 m c2) m (ints fs)) :
    PVar (w.alloc (.cells #[.slice a1 n c1, .slice a2 m c2] 29)) w.heap.size B a1 a2 n m c1 c2 ps fs :=
  ⟨by simp, by simp, by simp [go_sem], by simp [go_sem], by simp, h, o1.alloc _, o2.alloc _⟩
theorem ap_end {w w1 : World} {V6 V8 B n m c1 c2 n' m' d1 d2 : Nat} {a1 a2 b1 b2 : Option Addr} {pa fa pb fb : List Int} (h6 : PVar w1 V6 B a1 a2 n m c1 c2 pa fa) (h8 : PVar w1 V8 B b1 b2 n' m' d1 d2 pb fb) (hb : Below w.heap.size w w1) (hB : w.heap.size + 1 < B) :
    APPost w (.returned (.tuple #[.agg #[.slice a1 n c1, .slice a2 m c2], .agg #[.slice b1 n' d1, .slice b2 m' d2]])) ((((w1.setCell ⟨w.heap.size, 0, none⟩ (.slice a1 n c1)).setCell ⟨w.heap.size, 1, none⟩ (.slice a2 m c2)).setCell ⟨w.heap.size + 1, 0, none⟩ (.slice b1 n' d1)).setCell ⟨w.heap.size + 1, 1, none⟩ (.slice b2 m' d2)) := by
  obtain ⟨_, _, _, _, _, ⟨e1, e2, e3, e4⟩, o1, o2⟩ := h6
  obtain ⟨_, _, _, _, _, ⟨f1, f2, f3, f4⟩, p1, p2⟩ := h8
  subst e1 e2 f1 f2
  have low : ∀ {v : Value} {k : Nat} {xs : List Int}, w1.ownsRow B 3 1 v k (ints xs) → ((((w1.setCell ⟨w.heap.size, 0, none⟩ (.slice a1 pa.length c1)).setCell ⟨w.heap.size, 1, none⟩ (.slice a2 fa.length c2)).setCell ⟨w.heap.size + 1, 0, none⟩ (.slice b1 pb.length d1)).setCell ⟨w.heap.size + 1, 1, none⟩ (.slice b2 fb.length d2)).ownsRow B 3 1 v k (ints xs) := fun h => own_setlow (own_setlow (own_setlow (own_setlow h (by omega)) (by omega)) (by omega)) (by omega)
  obtain ⟨_, _, g1, r1⟩ := own_row rfl (low o1)
  obtain ⟨_, _, g2, r2⟩ := own_row rfl (low o2)
  obtain ⟨_, _, g3, r3⟩ := own_row rfl (low p1)
  obtain ⟨_, _, g4, r4⟩ := own_row rfl (low p2)
  cases g1; cases g2; cases g3; cases g4
  exact ⟨_, _, _, _, _, _, _, _, _, _, _, _, rfl, e3, e4, f3, f4, r1, r2, r3, r4, (((hb.setCell (Nat.le_refl _) _).setCell (Nat.le_refl _) _).setCell (by simp) _).setCell (by simp) _⟩
theorem APPost.drew {w w1 : World} {e : Ending} (h : APPost w e w1) : APPost w e w1.drew := by
  obtain ⟨a1, c1, a2, c2, b1, d1, b2, d2, pa, fa, pb, fb, h1, h2, h3, h4, h5, h6, h7, h8, h9, h10⟩ := h
  exact ⟨a1, c1, a2, c2, b1, d1, b2, d2, pa, fa, pb, fb, h1, h2, h3, h4, h5, h6, h7, h8, h9, below_drewN h10 1⟩
/-- Another variable is laid anew. -/
theorem PVar.set {w : World} {V B X : Nat} {a1 a2 : Option Addr} {n m c1 c2 : Nat} {ps fs : List Int} {u0 u1 : Value} (h : PVar w V B a1 a2 n m c1 c2 ps fs) (hV : X ≠ V) (h1 : (Value.slice a1 n c1).ownBlock ≠ some X) (h2 : (Value.slice a2 m c2).ownBlock ≠ some X) :
    PVar ((w.setCell ⟨X, 0, none⟩ u0).setCell ⟨X, 1, none⟩ u1) V B a1 a2 n m c1 c2 ps fs := by
  obtain ⟨g1, g2, g3, g4, g5, g6, g8, g9⟩ := h
  exact ⟨(set_ne hV).trans ((set_ne hV).trans g1), (set_ne hV).trans ((set_ne hV).trans g2), by rw [World.frozen?_setCell, World.frozen?_setCell]; exact g3, by rw [World.frozen?_setCell, World.frozen?_setCell]; exact g4, by simpa using g5, g6, own_setne (own_setne g8 h1) h1, own_setne (own_setne g9 h2) h2⟩
/-- The variable itself is laid anew. -/
theorem PVar.store {w : World} {V B B' : Nat} {a1 a2 b1 b2 : Option Addr} {n m c1 c2 n' m' d1 d2 : Nat} {ps fs ps' fs' : List Int} (h : PVar w V B a1 a2 n m c1 c2 ps fs) (hl : ps'.length = n' ∧ fs'.length = m' ∧ n' ≤ 13 ∧ m' ≤ 13) (o1 : w.ownsRow B' 3 1 (.slice b1 n' d1) n' (ints ps')) (o2 : w.ownsRow B' 3 1 (.slice b2 m' d2) m' (ints fs')) (hB : B ≤ B') (hV : V < B') :
    PVar ((w.setCell ⟨V, 0, none⟩ (.slice b1 n' d1)).setCell ⟨V, 1, none⟩ (.slice b2 m' d2)) V B b1 b2 n' m' d1 d2 ps' fs' := by
  obtain ⟨g1, g2, g3, g4, g5, g6, g8, g9⟩ := h
  refine ⟨?_, ?_, by rw [World.frozen?_setCell, World.frozen?_setCell]; exact g3, by rw [World.frozen?_setCell, World.frozen?_setCell]; exact g4, by simpa using g5, hl, own_baseG (own_setlow (own_setlow o1 hV) hV) hB, own_baseG (own_setlow (own_setlow o2 hV) hV) hB⟩
  · rw [World.cell?_setCell_other _ _ _ _ (by simp)]; exact World.cell?_setCell_same _ _ _ g1
  · exact World.cell?_setCell_same _ _ _ ((World.cell?_setCell_other _ _ _ _ (by simp)).trans g2)
set_option maxRecDepth 100000 in
set_option maxHeartbeats 4000000 in
theorem drawAP_any {a : Option Addr} {len cap : Nat} {w : World} (hs : Hid (Src w a len)) :
    Calls Try.prog 15 #[.slice a len cap] w (APPost w) := by
  have HR : Hid (∀ (W : World), W = ((w.alloc (.cells #[.slice none 0 0, .slice none 0 0] 29)).alloc (.cells #[.slice none 0 0, .slice none 0 0] 29)).alloc (.cells #[.slice a len cap, .int .i64 0, .int .u64 0] 60) → Cur W (w.heap.size + 1 + 1) a len cap 0 ∧ PVar W w.heap.size W.heap.size none none 0 0 0 0 [] [] ∧ PVar W (w.heap.size + 1) W.heap.size none none 0 0 0 0 [] [] ∧ W.heap.size = w.heap.size + 3 ∧ ∀ w', Kp (w.heap.size + 1 + 1) W w' → Below w.heap.size w w') := hide (by
    intro W hW
    have hsr := (hs.out.below (below_alloc w (.cells #[.slice none 0 0, .slice none 0 0] 29)))
    have hsr2 := hsr.below (below_alloc _ (.cells #[.slice none 0 0, .slice none 0 0] 29))
    have hcur := cur_new (cap := cap) hsr2
    simp only [World.size_alloc] at hcur
    have z : W.heap.size = w.heap.size + 3 := by rw [hW]; simp
    refine ⟨by rw [hW]; exact hcur, ?_, ?_, z, ?_⟩
    · subst hW
      unfold PVar
      refine ⟨?_, ?_, ?_, ?_, by simp; omega, by simp, World.ownsRow_nil _ _ _ _, World.ownsRow_nil _ _ _ _⟩
      all_goals simp [go_sem]
    · subst hW
      unfold PVar
      refine ⟨?_, ?_, ?_, ?_, by simp, by simp, World.ownsRow_nil _ _ _ _, World.ownsRow_nil _ _ _ _⟩
      all_goals simp [go_sem]
    · intro w' hk
      have b3 : Below w.heap.size w W := by rw [hW]; exact (((Below.refl _ _).alloc (Nat.le_refl _) _).alloc (by simp) _).alloc (by simp; omega) _
      exact b3.trans (hk.below (by omega) (by omega)))
  go_enter Try.func15, Try.ntmps15
  go_wp2_with fail
  obtain ⟨hc0, p0, p1, z0, hkb⟩ := HR.out _ rfl
  clear HR
  generalize ((w.alloc (.cells #[.slice none 0 0, .slice none 0 0] 29)).alloc (.cells #[.slice none 0 0, .slice none 0 0] 29)).alloc (.cells #[.slice a len cap, .int .i64 0, .int .u64 0] 60) = W at *
  have HC := hide hc0
  have HP0 := hide p0
  have HP1 := hide p1
  have HKB := hide hkb
  have HZ0 := hide z0
  clear hc0 p0 p1 hkb z0
  refine (goods_any HC.out (by omega)).mono ?_
  rintro e w1 ⟨v, gs, rfl, hl, hfew, own1, hc1, hk1⟩
  obtain ⟨ag, cg, rfl, hcg⟩ := own_capP own1
  have HO1 := hide own1
  have HC1 := hide hc1
  have HK1 := hide hk1
  have HSH := hide hfew.short
  have hCB : w.heap.size + 1 + 1 < W.heap.size := by have := HZ0.out; omega
  have HQ0 := hide (HP0.out.kp hk1 hCB (by omega))
  have HQ1 := hide (HP1.out.kp hk1 hCB (by omega))
  clear own1 hc1 hk1 HC hfew HP0 HP1
  go_wp2_with fail
  have HG1 := hide hl
  refine (lines_any HC1.out (by omega) (by omega)).mono ?_
  rintro e w2 ⟨v2, l2, rfl, hl2, o2, hc2, hk2⟩
  obtain ⟨al, cl, rfl, _⟩ := own_capP o2
  have L2 := hide (lrow_own rfl o2)
  have HO2 := hide (own_kp HO1.out hk2 hCB)
  have HC2 := hide hc2
  have HK2 := hide (HK1.out.trans hk2)
  have HQ0a := hide (HQ0.out.kp hk2 hCB (by omega))
  have HQ1a := hide (HQ1.out.kp hk2 hCB (by omega))
  clear o2 hc2 hk2 HO1 HC1 HK1 HQ0 HQ1
  go_wp2_with fail
  refine (spo_any rfl (by omega) hcg HSH.out (grow_own rfl HO2.out).2 rfl L2.out).mono ?_
  rintro e w3 ⟨v3, v4, ok3, r3, P3, F3, rfl, hb3, hp3, hf3, hr3, o3, o4, _⟩
  obtain ⟨a3, c3, rfl⟩ := own_shG o3
  obtain ⟨a4, c4, rfl⟩ := own_shG o4
  have hz2 := HK2.out.size
  have HV6 := hide (PVar.new ⟨hp3, hf3, hr3, hr3⟩ (own_baseG o3 hz2) (own_baseG o4 hz2))
  have B3 := hb3.alloc hb3.size (.cells #[.slice a3 r3 c3, .slice a4 r3 c4] 29)
  have HO3 := hide ((HO2.out.kept (row := none) ⟨hb3.os, hb3.tape, hb3.output, hb3.size, fun b hb _ => hb3.block b hb⟩ (by cases h : Value.ownBlock (.slice ag gs.length cg) with | none => exact Or.inl rfl | some x => right; simp)).alloc (.cells #[.slice a3 r3 c3, .slice a4 r3 c4] 29))
  have HC3 := hide (HC2.out.below B3)
  have HK3 := hide (HK2.out.trans (Kp.of_below B3))
  have HQ0b := hide (HQ0a.out.below B3)
  have HQ1b := hide (HQ1a.out.below B3)
  have hV6 : W.heap.size ≤ w3.heap.size := by have := hb3.size; omega
  clear o3 o4 hb3 hp3 hf3 HO2 HC2 HK2 HQ0a HQ1a L2 B3
  go_wp2_with fail
  generalize w3.alloc (.cells #[.slice a3 r3 c3, .slice a4 r3 c4] 29) = W4 at *
  generalize w3.heap.size = V6 at *
  refine (lines_any HC3.out (by omega) (by omega)).mono ?_
  rintro e w5 ⟨v5, l5, rfl, hl5, o5, hc5, hk5⟩
  obtain ⟨al5, cl5, rfl, _⟩ := own_capP o5
  have L5 := hide (lrow_own rfl o5)
  have HO5 := hide (own_kp HO3.out hk5 hCB)
  have HC5 := hide hc5
  have HK5 := hide (HK3.out.trans hk5)
  have HQ0c := hide (HQ0b.out.kp hk5 hCB (by omega))
  have HQ1c := hide (HQ1b.out.kp hk5 hCB (by omega))
  have HV6a := hide (HV6.out.kp hk5 hCB (by omega))
  clear o5 hc5 hk5 HO3 HC3 HK3 HQ0b HQ1b HV6
  go_wp2_with fail
  refine (spo_any rfl (by omega) hcg HSH.out (grow_own rfl HO5.out).2 rfl L5.out).mono ?_
  rintro e w6 ⟨v6, v7, ok6, r6, P6, F6, rfl, hb6, hp6, hf6, hr6, o6, o7, _⟩
  obtain ⟨a6, c6, rfl⟩ := own_shG o6
  obtain ⟨a7, c7, rfl⟩ := own_shG o7
  have hz5 := HK5.out.size
  have HV8 := hide (PVar.new ⟨hp6, hf6, hr6, hr6⟩ (own_baseG o6 hz5) (own_baseG o7 hz5))
  have B6 := hb6.alloc hb6.size (.cells #[.slice a6 r6 c6, .slice a7 r6 c7] 29)
  have HC6 := hide (HC5.out.below B6)
  have HK6 := hide (HK5.out.trans (Kp.of_below B6))
  have HQ0d := hide (HQ0c.out.below B6)
  have HQ1d := hide (HQ1c.out.below B6)
  have HV6b := hide (HV6a.out.below B6)
  have HL6 : Hid ((Value.slice a3 r3 c3).ownBlock ≠ some w6.heap.size ∧ (Value.slice a4 r3 c4).ownBlock ≠ some w6.heap.size) := hide ⟨fun e => by have h1 := (HV6a.out.2.2.2.2.2.2.1.lt _ e).2; have h2 := hb6.size; omega, fun e => by have h1 := (HV6a.out.2.2.2.2.2.2.2.lt _ e).2; have h2 := hb6.size; omega⟩
  have hV68 : V6 < w6.heap.size := Nat.lt_of_lt_of_le HV6a.out.2.2.2.2.1 hb6.size
  clear o6 o7 hb6 hp6 hf6 HO5 HC5 HK5 HQ0c HQ1c HV6a L5 B6
  go_wp2_with fail
  generalize w6.alloc (.cells #[.slice a6 r6 c6, .slice a7 r6 c7] 29) = W7 at *
  generalize w6.heap.size = V8 at *
  refine (one_any 12 (by omega) HC6.out (by omega)).mono ?_
  rintro e w8 ⟨r8, rfl, hc8, hk8⟩
  have HC8 := hide hc8
  have HK8 := hide (HK6.out.trans hk8)
  have HQ0e := hide (HQ0d.out.kp hk8 hCB (by omega))
  have HQ1e := hide (HQ1d.out.kp hk8 hCB (by omega))
  have HV6c := hide (HV6b.out.kp hk8 hCB (by omega))
  have HV8a := hide (HV8.out.kp hk8 hCB (by omega))
  clear hc8 hk8 HC6 HK6 HQ0d HQ1d HV6b HV8
  cases r8
  · have HF := hide (ap_end HV6c.out HV8a.out (HKB.out _ HK8.out) (by omega))
    obtain ⟨x1, x2, x3, x4, _⟩ := HQ0e.out
    obtain ⟨y1, y2, y3, y4, _⟩ := HQ1e.out
    obtain ⟨u1, u2, _⟩ := HV6c.out
    obtain ⟨t1, t2, _⟩ := HV8a.out
    have n1 : ¬ V6 = w.heap.size := by omega
    have n2 : ¬ V8 = w.heap.size := by omega
    have n3 : ¬ V6 = w.heap.size + 1 := by omega
    have n4 : ¬ V8 = w.heap.size + 1 := by omega
    clear HQ0e HQ1e HV6c HV8a HC8 HK8 HKB HSH
    go_wp2_with fail
    go_region
    go_wp2_with fail
    exact bodyPost_ret (v := .tuple #[.agg #[.slice a3 r3 c3, .slice a4 r3 c4], .agg #[.slice a6 r6 c6, .slice a7 r6 c7]]) (by simp [results, Try.results15, go_sem, *]) rfl HF.out.drew
  · have hw8 : w8.heap.size = w8.heap.size := rfl
    have hz8 := HK8.out.size
    have hV8l := HV8a.out.2.2.2.2.1
    go_wp2_with fail
    refine (drawP_any HC8.out (by omega)).mono ?_
    rintro e w9 ⟨v9, v10, P9, F9, rfl, hp9, hf9, o9, o10, hc9, hk9⟩
    obtain ⟨a9, c9, rfl⟩ := own_shG o9
    obtain ⟨a10, c10, rfl⟩ := own_shG o10
    have HQ0f := HQ0e.out.kp hk9 hCB (by omega)
    have HQ1f := HQ1e.out.kp hk9 hCB (by omega)
    have HV6d := HV6c.out.kp hk9 hCB (by omega)
    have HV8b := HV8a.out.kp hk9 hCB (by omega)
    have HK9 := hide (HK8.out.trans hk9)
    generalize hn9 : P9.length = n9 at *
    generalize hm9 : F9.length = m9 at *
    have q0 := hide (HQ0f.set (X := V8) (u0 := .slice a9 n9 c9) (u1 := .slice a10 m9 c10) (by omega) (by simp [Value.ownBlock]) (by simp [Value.ownBlock]))
    have q1 := hide (HQ1f.set (X := V8) (u0 := .slice a9 n9 c9) (u1 := .slice a10 m9 c10) (by omega) (by simp [Value.ownBlock]) (by simp [Value.ownBlock]))
    have q6 := hide (HV6d.set (X := V8) (u0 := .slice a9 n9 c9) (u1 := .slice a10 m9 c10) (by omega) HL6.out.1 HL6.out.2)
    have q8 := hide (HV8b.store (B' := w8.heap.size) ⟨hn9, hm9, hp9, hf9⟩ o9 o10 hz8 hV8l)
    obtain ⟨t1, t2, t3, t4, _⟩ := HV8b
    have HBl := hide (((HKB.out _ HK9.out).setCell (p := ⟨V8, 0, none⟩) (by show w.heap.size ≤ V8; omega) (.slice a9 n9 c9)).setCell (p := ⟨V8, 1, none⟩) (by show w.heap.size ≤ V8; omega) (.slice a10 m9 c10))
    clear o9 o10 hc9 hk9 HQ0e HQ1e HV6c HV8a HQ0f HQ1f HV6d HC8 HK8 HK9 HKB HSH hn9 hm9 hw8
    go_wp2_with fail
    clear t1 t2 t3 t4
    generalize (w9.setCell ⟨V8, 0, none⟩ (.slice a9 n9 c9)).setCell ⟨V8, 1, none⟩ (.slice a10 m9 c10) = W10 at *
    have HF := hide (ap_end q6.out q8.out HBl.out (by omega))
    obtain ⟨x1, x2, x3, x4, _⟩ := q0.out
    obtain ⟨y1, y2, y3, y4, _⟩ := q1.out
    obtain ⟨u1, u2, _⟩ := q6.out
    obtain ⟨t1, t2, _⟩ := q8.out
    have n1 : ¬ V6 = w.heap.size := by omega
    have n2 : ¬ V8 = w.heap.size := by omega
    have n3 : ¬ V6 = w.heap.size + 1 := by omega
    have n4 : ¬ V8 = w.heap.size + 1 := by omega
    clear q0 q1 q6 q8 HBl
    go_region
    go_wp2_with fail
    exact bodyPost_ret (v := .tuple #[.agg #[.slice a3 r3 c3, .slice a4 r3 c4], .agg #[.slice a9 n9 c9, .slice a10 m9 c10]]) (by simp [results, Try.results15, go_sem, *]) rfl HF.out.drew
end Go.Proofs.Ytegonbilomcpkaa
