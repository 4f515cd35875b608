/-
  Draws of chapter 3: what profile of the model's cursor hands out: some profile.
-/
import Derived.Test.YtegonbilomcpkaaDh
import Derived.Test.YtegonbilomcpkaaNf
namespace Go.Proofs.Ytegonbilomcpkaa
open Go.RowKit

theorem grow_own {w : World} {base e n c : Nat} {a : Option Addr} {gs : List Gd} (hn : gs.length = n) (h : w.ownsRow base e 2 (.slice a n c) n (pc gdf gdg gs)) : n ≤ c ∧ GRow w a gs := by
  rcases prow_owns gd0 hn h with ⟨h1, h2⟩ | ⟨G, cap, h1, h2, _, h4, h5⟩
  · cases h1; exact ⟨Nat.le_refl _, Or.inl (List.length_eq_zero_iff.1 hn)⟩
  · cases h1
    exact ⟨h2, Or.inr ⟨G, 0, rfl, h4, fun i hi => by rw [Nat.zero_add]; exact h5 i (by omega)⟩⟩
theorem lrow_own {w : World} {base e n c : Nat} {a : Option Addr} {ls : List (Int × Int)} (hn : ls.length = n) (h : w.ownsRow base e 2 (.slice a n c) n (pc lf lg ls)) : LRow w a ls := by
  rcases prow_owns (0, 0) hn h with ⟨h1, h2⟩ | ⟨G, cap, h1, h2, _, h4, h5⟩
  · cases h1; exact Or.inl (List.length_eq_zero_iff.1 hn)
  · cases h1
    exact Or.inr ⟨G, 0, rfl, h4, fun i hi => by rw [Nat.zero_add]; exact h5 i (by omega)⟩
theorem spo_any {a a' : Option Addr} {n c n' c' : Nat} {gs : List Gd} {ls : List (Int × Int)} {w : World} (hn : gs.length = n) (hn1 : n ≤ 1048576) (hc : n ≤ c) (hs : Short gs) (h : GRow w a gs) (hl : ls.length = n') (h' : LRow w a' ls) :
    Calls Try.prog 7 #[.slice a n c, .slice a' n' c'] w fun e w' => ∃ (v1 v2 : Value) (ok : Bool) (r : Nat) (R1 R2 : List Int), e = .returned (.tuple #[.agg #[v1, v2], .bool ok]) ∧ Below w.heap.size w w' ∧ R1.length = r ∧ R2.length = r ∧ r ≤ 13 ∧ w'.ownsRow w.heap.size 3 1 v1 r (ints R1) ∧ w'.ownsRow w.heap.size 3 1 v2 r (ints R2) ∧ ∀ g, v1.ownBlock = some g → v2.ownBlock ≠ some g := by
  have none : ∀ (e : Ending) (w' : World), (e = .returned (.tuple #[.agg #[.slice none 0 0, .slice none 0 0], .bool false]) ∧ Below w.heap.size w w') → ∃ (v1 v2 : Value) (ok : Bool) (r : Nat) (R1 R2 : List Int), e = .returned (.tuple #[.agg #[v1, v2], .bool ok]) ∧ Below w.heap.size w w' ∧ R1.length = r ∧ R2.length = r ∧ r ≤ 13 ∧ w'.ownsRow w.heap.size 3 1 v1 r (ints R1) ∧ w'.ownsRow w.heap.size 3 1 v2 r (ints R2) ∧ ∀ g, v1.ownBlock = some g → v2.ownBlock ≠ some g := fun e w' ⟨he, hb⟩ =>
    ⟨_, _, _, 0, [], [], he, hb, rfl, rfl, by omega, ⟨rfl, Or.inl ⟨rfl, rfl⟩⟩, ⟨rfl, Or.inl ⟨rfl, rfl⟩⟩, fun g hg => by cases hg⟩
  cases hg : goodsB gs with
  | false => exact (spo_bad1 hn hn1 hc hs h hg).mono none
  | true =>
    cases hlb : linesB n ls with
    | false => exact (spo_bad2 hn hn1 hc hs h hg hl h' hlb).mono none
    | true =>
      have h12 : n ≤ 12 := hn ▸ goodsB_len hg
      exact (spo_good hn hn1 hc hs h hg hl h' hlb).mono fun e w' ⟨hb, x, y, he, hne, o1, o2⟩ => ⟨_, _, true, n, _, _, he, hb, picks_len _ _, flow_len _ _, by omega, o1, o2, fun g hg hg' => by
        simp [Value.ownBlock] at hg hg'
        omega⟩
/-- A profile in a variable of one's own: the variable, its lists, each in a block of its own. -/
def PIn (w : World) (base P : Nat) (v1 v2 : Value) (ps fs : List Int) : Prop :=
  w.cell? ⟨P, 0, none⟩ = some v1 ∧ w.cell? ⟨P, 1, none⟩ = some v2 ∧ w.frozen? ⟨P, 0, none⟩ = false ∧ w.frozen? ⟨P, 1, none⟩ = false ∧ P < w.heap.size ∧ base ≤ P ∧
  w.ownsRow base 3 1 v1 ps.length (ints ps) ∧ w.ownsRow base 3 1 v2 fs.length (ints fs) ∧ (∀ g, v1.ownBlock = some g → v2.ownBlock ≠ some g) ∧ v1.ownBlock ≠ some P ∧ v2.ownBlock ≠ some P
theorem pin_lit {w : World} {base P : Nat} {v1 v2 : Value} {ps fs : List Int} {x0 x1 x2 y0 y1 y2 : Int} (h : PIn w base P v1 v2 ps fs) (hb : base ≤ w.heap.size) :
    PIn ((((w.setCell ⟨P, 0, none⟩ (.slice (some ⟨w.heap.size, 0, none⟩) 3 3)).setCell ⟨P, 1, none⟩ (.slice (some ⟨w.heap.size + 1, 0, none⟩) 3 3)).alloc (.cells #[.int .i64 x0, .int .i64 x1, .int .i64 x2] 3)).alloc (.cells #[.int .i64 y0, .int .i64 y1, .int .i64 y2] 3)) base P (.slice (some ⟨w.heap.size, 0, none⟩) 3 3) (.slice (some ⟨w.heap.size + 1, 0, none⟩) 3 3) [x0, x1, x2] [y0, y1, y2] := by
  obtain ⟨p0, p1, p2, p3, p4, p5, _⟩ := h
  generalize hX : (w.setCell ⟨P, 0, none⟩ (.slice (some ⟨w.heap.size, 0, none⟩) 3 3)).setCell ⟨P, 1, none⟩ (.slice (some ⟨w.heap.size + 1, 0, none⟩) 3 3) = X
  have hs : X.heap.size = w.heap.size := by rw [← hX]; simp
  have c0 : X.cell? ⟨P, 0, none⟩ = some (.slice (some ⟨w.heap.size, 0, none⟩) 3 3) := by
    rw [← hX, World.cell?_setCell_other _ _ _ _ (by simp)]; exact World.cell?_setCell_same _ _ _ p0
  have c1 : X.cell? ⟨P, 1, none⟩ = some (.slice (some ⟨w.heap.size + 1, 0, none⟩) 3 3) := by
    rw [← hX]; exact World.cell?_setCell_same _ _ _ (by rw [World.cell?_setCell_other _ _ _ _ (by simp)]; exact p1)
  have f0 : X.frozen? ⟨P, 0, none⟩ = false := by rw [← hX, World.frozen?_setCell, World.frozen?_setCell]; exact p2
  have f1 : X.frozen? ⟨P, 1, none⟩ = false := by rw [← hX, World.frozen?_setCell, World.frozen?_setCell]; exact p3
  have hb2 : Below X.heap.size X ((X.alloc (.cells #[.int .i64 x0, .int .i64 x1, .int .i64 x2] 3)).alloc (.cells #[.int .i64 y0, .int .i64 y1, .int .i64 y2] 3)) := ((Below.refl _ _).alloc (Nat.le_refl _) _).alloc (by simp) _
  have o1 := World.ownsRow_lit (base := base) (e := 3) (size := 1) X #[.int .i64 x0, .int .i64 x1, .int .i64 x2] 3 (by omega) (by decide) rfl
  have o2 := World.ownsRow_lit (base := base) (e := 3) (size := 1) (X.alloc (.cells #[.int .i64 x0, .int .i64 x1, .int .i64 x2] 3)) #[.int .i64 y0, .int .i64 y1, .int .i64 y2] 3 (by simp; omega) (by decide) rfl
  rw [hs] at o1
  rw [show (X.alloc (.cells #[.int .i64 x0, .int .i64 x1, .int .i64 x2] 3)).heap.size = w.heap.size + 1 by simp [hs]] at o2
  refine ⟨(hb2.cell (p := ⟨P, 0, none⟩) (by show P < X.heap.size; omega)).trans c0, (hb2.cell (p := ⟨P, 1, none⟩) (by show P < X.heap.size; omega)).trans c1, (hb2.frozen (p := ⟨P, 0, none⟩) (by show P < X.heap.size; omega)).trans f0, (hb2.frozen (p := ⟨P, 1, none⟩) (by show P < X.heap.size; omega)).trans f1, by simp; omega, p5, o1.alloc _, o2, ?_, ?_, ?_⟩
  · intro g h1 h2; simp [Value.ownBlock] at h1 h2; omega
  · intro h1; simp [Value.ownBlock] at h1; omega
  · intro h1; simp [Value.ownBlock] at h1; omega
theorem own_setlow {w : World} {base e s n R o : Nat} {v u : Value} {xs : List Value} (h : w.ownsRow base e s v n xs) (hR : R < base) : (w.setCell ⟨R, o, none⟩ u).ownsRow base e s v n xs := by
  refine ⟨h.1, ?_⟩
  rcases h.2 with h0 | ⟨g, cap, cur, hv, hb, hg, r⟩
  · exact Or.inl h0
  · exact Or.inr ⟨g, cap, cur, hv, hb, (Below.heap_setCell w ⟨R, o, none⟩ u g (by show g ≠ R; omega)).trans hg, r⟩
theorem fin_prof {c len cap N B : Nat} {a : Option Addr} {w w5 : World} {v1 v2 : Value} {ps fs : List Int} (o1 : w5.ownsRow B 3 1 v1 ps.length (ints ps)) (o2 : w5.ownsRow B 3 1 v2 fs.length (ints fs)) (hB : w.heap.size < B) (hcw : c < w.heap.size)
    (hold : ∀ b off, a = some ⟨b, off, none⟩ → 0 < len → b < w.heap.size) (hC : Cur w5 c a len cap N) (hk : Kp c w w5) :
    ((w5.setCell ⟨w.heap.size, 0, none⟩ v1).setCell ⟨w.heap.size, 1, none⟩ v2).ownsRow w.heap.size 3 1 v1 ps.length (ints ps) ∧ ((w5.setCell ⟨w.heap.size, 0, none⟩ v1).setCell ⟨w.heap.size, 1, none⟩ v2).ownsRow w.heap.size 3 1 v2 fs.length (ints fs) ∧
    Cur ((w5.setCell ⟨w.heap.size, 0, none⟩ v1).setCell ⟨w.heap.size, 1, none⟩ v2) c a len cap N ∧ Kp c w ((w5.setCell ⟨w.heap.size, 0, none⟩ v1).setCell ⟨w.heap.size, 1, none⟩ v2) :=
  ⟨own_baseG (own_setlow (own_setlow o1 hB) hB) (Nat.le_of_lt hB), own_baseG (own_setlow (own_setlow o2 hB) hB) (Nat.le_of_lt hB), (hC.set (by omega) (fun b off e hl => by have := hold b off e hl; omega)).set (by omega) (fun b off e hl => by have := hold b off e hl; omega), (hk.setNew (Nat.le_refl _) _ _).setNew (Nat.le_refl _) _ _⟩
theorem own_setne {w : World} {base e s n G o : Nat} {v u : Value} {xs : List Value} (h : w.ownsRow base e s v n xs) (hG : v.ownBlock ≠ some G) : (w.setCell ⟨G, o, none⟩ u).ownsRow base e s v n xs := by
  refine ⟨h.1, ?_⟩
  rcases h.2 with h0 | ⟨g, cap, cur, hv, hb, hg, r⟩
  · exact Or.inl h0
  · subst hv
    exact Or.inr ⟨g, cap, cur, rfl, hb, (Below.heap_setCell w ⟨G, o, none⟩ u g (by intro e; exact hG (congrArg some e))).trans hg, r⟩
theorem set_ne {w : World} {G o P i : Nat} {u : Value} (h : G ≠ P) : (w.setCell ⟨G, o, none⟩ u).cell? ⟨P, i, none⟩ = w.cell? ⟨P, i, none⟩ := World.cell?_setCell_other _ _ _ _ (fun e => h (by injection e))
/-- What is handed out: some profile. -/
def DPost (w : World) (c len cap N : Nat) (a : Option Addr) (e : Ending) (w' : World) : Prop :=
  ∃ (v1 v2 : Value) (ps fs : List Int), e = .returned (.agg #[v1, v2]) ∧ ps.length ≤ 13 ∧ fs.length ≤ 13 ∧ w'.ownsRow w.heap.size 3 1 v1 ps.length (ints ps) ∧ w'.ownsRow w.heap.size 3 1 v2 fs.length (ints fs) ∧ Cur w' c a len cap (N + 800) ∧ Kp c w w'
theorem dpost {w w' : World} {c len cap N M n m : Nat} {a : Option Addr} {v1 v2 : Value} {ps fs : List Int} (hn : ps.length = n) (hm : fs.length = m) (h1 : n ≤ 13) (h2 : m ≤ 13) (hM : M ≤ N + 800) (h : w'.ownsRow w.heap.size 3 1 v1 n (ints ps) ∧ w'.ownsRow w.heap.size 3 1 v2 m (ints fs) ∧ Cur w' c a len cap M ∧ Kp c w w') : DPost w c len cap N a (.returned (.agg #[v1, v2])) w' := by
  subst hn hm
  exact ⟨v1, v2, ps, fs, rfl, h1, h2, h.1, h.2.1, h.2.2.1.le hM, h.2.2.2⟩
set_option maxRecDepth 20000 in
set_option maxHeartbeats 4000000 in
theorem drawP_any {c len cap N : Nat} {a : Option Addr} {w : World} (hc : Cur w c a len cap N) (hN : N ≤ 700000000) :
    Calls Try.prog 43 #[.pointer (some ⟨c, 0, none⟩)] w (DPost w c len cap N a) := by
  have hcw := hc.1
  have HOLD := hide hc.old
  have HC := hide (hc.below (below_alloc w (.cells #[.slice none 0 0, .slice none 0 0] 29)))
  have HKN : Hid (∀ w', Kp c (w.alloc (.cells #[.slice none 0 0, .slice none 0 0] 29)) w' → Kp c w w') := hide fun w' h => ((Kp.refl c w).alloc _).trans h
  have hR : Hid ((w.alloc (.cells #[.slice none 0 0, .slice none 0 0] 29)).cell? ⟨w.heap.size, 0, none⟩ = some (.slice none 0 0) ∧ (w.alloc (.cells #[.slice none 0 0, .slice none 0 0] 29)).cell? ⟨w.heap.size, 1, none⟩ = some (.slice none 0 0) ∧ (w.alloc (.cells #[.slice none 0 0, .slice none 0 0] 29)).frozen? ⟨w.heap.size, 0, none⟩ = false ∧ (w.alloc (.cells #[.slice none 0 0, .slice none 0 0] 29)).frozen? ⟨w.heap.size, 1, none⟩ = false) := hide ⟨by simp, by simp, by simp [go_sem], by simp [go_sem]⟩
  have hRW : w.heap.size < (w.alloc (.cells #[.slice none 0 0, .slice none 0 0] 29)).heap.size := by simp
  have hRc : w.heap.size ≠ c := by omega
  have hcW : c < (w.alloc (.cells #[.slice none 0 0, .slice none 0 0] 29)).heap.size := by simp; omega
  clear hc
  go_enter Try.func43, Try.ntmps43
  go_wp2_with fail
  generalize w.alloc (.cells #[.slice none 0 0, .slice none 0 0] 29) = W at *
  refine (goods_any HC.out (by omega)).mono ?_
  rintro e w1 ⟨vg, gs, rfl, hgl, hfew, og, hc1, hk1⟩
  obtain ⟨ag, cg, rfl⟩ := own_shG og
  have OG := hide og
  have HC1 := hide hc1
  have HK1 := hide hk1
  have HSH := hide hfew.short
  clear og hc1 hk1 hfew
  generalize hgn : gs.length = n at *
  have HGN := hide hgn
  clear hgn
  go_wp2_with fail
  refine (lines_any HC1.out (by omega) hgl).mono ?_
  rintro e w2 ⟨vl, ls, rfl, hll, ol, hc2, hk2⟩
  obtain ⟨al, cl, rfl⟩ := own_shG ol
  have hOG2 := own_kp OG.out hk2 (by have := HK1.out.size; omega)
  have HG2 := hide (grow_own HGN.out hOG2)
  have HL2 := hide (lrow_own rfl ol)
  have HC2 := hide hc2
  have HK2 := hide (HK1.out.trans hk2)
  clear ol hc2 hk2 hOG2 OG
  generalize hln : ls.length = n' at *
  have HLN := hide hln
  clear hln
  go_wp2_with fail
  refine (spo_any HGN.out (by omega) HG2.out.1 HSH.out HG2.out.2 HLN.out HL2.out).mono ?_
  rintro e w3 ⟨v1, v2, ok, r, R1, R2, rfl, hb3, hr1, hr2, hr13, o1, o2, hne12⟩
  obtain ⟨s1, d1, rfl⟩ := own_shG o1
  obtain ⟨s2, d2, rfl⟩ := own_shG o2
  have hz2 := HK2.out.size
  have hz3 := hb3.size
  have HP4 : Hid (PIn (w3.alloc (.cells #[.slice s1 r d1, .slice s2 r d2] 29)) W.heap.size w3.heap.size (.slice s1 r d1) (.slice s2 r d2) R1 R2) := hide
    ⟨by simp, by simp, by simp [go_sem], by simp [go_sem], by simp, by omega, by rw [hr1]; exact own_baseG (o1.alloc _) hz2, by rw [hr2]; exact own_baseG (o2.alloc _) hz2, hne12, fun h => by have := (o1.lt _ h).2; omega, fun h => by have := (o2.lt _ h).2; omega⟩
  have HC4 := hide ((HC2.out.below hb3).below (below_alloc w3 (.cells #[.slice s1 r d1, .slice s2 r d2] 29)))
  have HK4 := hide (HK2.out.trans ((Kp.of_below (c := c) hb3).alloc (.cells #[.slice s1 r d1, .slice s2 r d2] 29)))
  have hr1' := hide hr1
  have hr2' := hide hr2
  clear o1 o2 hne12 hb3 hr1 hr2 HC2 HG2 HL2 HSH HGN HLN
  go_upto_if 18 with fail
  generalize w3.alloc (.cells #[.slice s1 r d1, .slice s2 r d2] 29) = w4 at *
  generalize w3.heap.size = P at *
  go_cut [5, 8, 14, 16, 17, 18] (fun _ _ _ _ _ _ wc => ∃ v1 v2 ps fs, ps.length ≤ 13 ∧ fs.length ≤ 13 ∧ Hid (PIn wc W.heap.size P v1 v2 ps fs) ∧ Hid (Cur wc c a len cap (N + 750)) ∧ Hid (Kp c W wc))
  case first =>
    cases ok
    · obtain ⟨p0, p1, p2, p3, p4, _⟩ := HP4.out
      simp only [Bool.not_false]
      go_wp2_with fail
      go_meet
      case rel =>
        have hPc : P ≠ c := by omega
        have hW4 := HK4.out.size
        have hbP : ∀ b off, a = some ⟨b, off, none⟩ → 0 < len → b ≠ P := fun b off e hl => by have := HOLD.out b off e hl; omega
        exact ⟨_, _, [3, 0, 1], [9, 0, 50], by decide, by decide, hide (pin_lit HP4.out hW4), hide (((((HC4.out.set hPc hbP).set hPc hbP).below (below_alloc _ _)).below (below_alloc _ _)).le (by omega)), hide ((((HK4.out.setNew (by omega) _ _).setNew (by omega) _ _).alloc _).alloc _)⟩
    · simp only [Bool.not_true]
      go_wp2_with fail
      go_meet
      case rel => exact ⟨_, _, R1, R2, by rw [hr1'.out]; exact hr13, by rw [hr2'.out]; exact hr13, HP4, hide (HC4.out.le (by omega)), HK4⟩
  case rest =>
    obtain ⟨v1, v2, ps, fs, hp13, hf13, HPC, HCC, HKC⟩ := hcut
    clear HP4 HC4 HK4
    obtain ⟨s1', d1', rfl⟩ := own_shG HPC.out.2.2.2.2.2.2.1
    obtain ⟨s2', d2', rfl⟩ := own_shG HPC.out.2.2.2.2.2.2.2.1
    obtain ⟨q0, q1, q2, q3, q4, q5, _⟩ := HPC.out
    have hRc' : w.heap.size < wc.heap.size := Nat.lt_of_lt_of_le hRW HKC.out.size
    have r0 := (HKC.out.cell (o := 0) hRW hRc).trans hR.out.1
    have r1 := (HKC.out.cell (o := 1) hRW hRc).trans hR.out.2.1
    have r2 := (HKC.out.frozen (o := 0) hRW hRc).trans hR.out.2.2.1
    have r3 := (HKC.out.frozen (o := 1) hRW hRc).trans hR.out.2.2.2
    generalize hpn : ps.length = pn at *
    generalize hfn : fs.length = fn at *
    have HPN := hide hpn
    have HFN := hide hfn
    clear hpn hfn
    have hRP : w.heap.size ≠ P := by omega
    by_cases h0 : pn = 0
    · subst h0
      have FIN := hide (fin_prof HPC.out.2.2.2.2.2.2.1 HPC.out.2.2.2.2.2.2.2.1 hRW hcw HOLD.out HCC.out (HKN.out _ HKC.out))
      rw [HPN.out, HFN.out] at FIN
      go_wp2_with fail
      exact bodyPost_ret (v := .agg #[.slice s1' 0 d1', .slice s2' fn d2']) (by simp [results, Try.results43, go_sem, *]) rfl (dpost HPN.out HFN.out hp13 hf13 (by omega) FIN.out)
    · have h0' : (0 : Int) < (pn : Int) := by omega
      go_wp2_with fail
      refine (one_any 20 (by omega) HCC.out (by omega)).mono ?_
      rintro e w5 ⟨b5, rfl, hc5, hk5⟩
      obtain ⟨g, cap', e1, hg0, hg1⟩ := own_some (by have := HPC.out.2.2.2.2.2.2.1; rw [HPN.out] at this; exact this) h0
      cases e1
      have t0 := (hk5.cell (o := 0) q4 (by omega)).trans q0
      have t1 := (hk5.cell (o := 1) q4 (by omega)).trans q1
      have t4 := Nat.lt_of_lt_of_le q4 hk5.size
      have x0 := (hk5.cell (o := 0) hRc' hRc).trans r0
      have x1 := (hk5.cell (o := 1) hRc' hRc).trans r1
      have x2 := (hk5.frozen (o := 0) hRc' hRc).trans r2
      have x3 := (hk5.frozen (o := 1) hRc' hRc).trans r3
      have x4 := Nat.lt_of_lt_of_le hRc' hk5.size
      have O15 := hide (own_kp HPC.out.2.2.2.2.2.2.1 hk5 hcW)
      have O25 := hide (own_kp HPC.out.2.2.2.2.2.2.2.1 hk5 hcW)
      have HNE := hide HPC.out.2.2.2.2.2.2.2.2.1
      have hgP : g ≠ P := fun e => HPC.out.2.2.2.2.2.2.2.2.2.1 (by rw [e]; rfl)
      rw [HPN.out] at O15
      rw [HFN.out] at O25
      have HC5 := hide hc5
      have HK5 := hide (HKC.out.trans hk5)
      clear hc5 hk5 q0 q1 q2 q3 r0 r1 r2 r3
      cases b5
      · have FIN := hide (fin_prof (by rw [HPN.out]; exact O15.out) (by rw [HFN.out]; exact O25.out) hRW hcw HOLD.out HC5.out (HKN.out _ HK5.out))
        rw [HPN.out, HFN.out] at FIN
        go_wp2_with fail
        exact bodyPost_ret (v := .agg #[.slice (some ⟨g, 0, none⟩) pn d1', .slice s2' fn d2']) (by simp [results, Try.results43, go_sem, *]) rfl (dpost HPN.out HFN.out hp13 hf13 (by omega) FIN.out)
      · have HCD : Hid (Cur (w5.drew.alloc (.cells #[.int .i64 (-1), .int .i64 0, .int .i64 10000, .int .i64 10001] 3)) c a len cap (N + 752)) := hide ((HC5.out.blocks (w' := w5.drew) (Nat.le_refl _) rfl (fun _ _ _ _ => rfl)).below (below_alloc _ _))
        have tA : ∀ o, (w5.drew.alloc o).cell? ⟨P, 0, none⟩ = some (.slice (some ⟨g, 0, none⟩) pn d1') := fun o => ((below_alloc w5.drew o).cell (p := ⟨P, 0, none⟩) t4).trans t0
        have hcw5 : w5.drew.heap.size ≠ c := by have : w5.drew.heap.size = w5.heap.size := rfl; omega
        go_upto_region 6 with fail
        go_region_held3 (fun w' => w'.cell? ⟨P, 0, none⟩ = some (.slice (some ⟨g, 0, none⟩) pn d1'))
          (first | exact t0 | assumption | exact tA _ | exact tS _ | fail)
          (first
          | (go_at_call 55; refine (amongB_any (lo := -1) (hi := 10001) HCD.out (by omega) (by omega) (by omega) (by simp) hcw5 (four_cells w5.drew _ (by omega) (by omega) (by omega) (by omega))).mono ?_; rintro e w6 ⟨z, rfl, z0, z1, hc6, hk6⟩; have hk6' : Kp c w5 w6 := (by have h := ((Kp.refl c w5.drew).alloc (.cells #[.int .i64 (-1), .int .i64 0, .int .i64 10000, .int .i64 10001] 3)).trans hk6; exact ⟨h.os, h.tape, h.output, h.size, h.block⟩); have t6 := (hk6'.cell (o := 0) t4 (by omega)).trans t0; have tS : ∀ u, (w6.setCell ⟨g, 0, none⟩ u).cell? ⟨P, 0, none⟩ = some (.slice (some ⟨g, 0, none⟩) pn d1') := fun u => (set_ne hgP).trans t6; have own6 := own_kp O15.out hk6' hcW; have c6 : w6.cell? ⟨g, 0, none⟩ = some (.int .i64 (ps.getD 0 0)) := (by rw [own6.cellAt 0 (by omega), ints_get ps 0 (by have := HPN.out; omega)]); have f6 := own6.frozenAt 0; have HC6 := hide hc6; have HK6 := hide hk6'; clear hc6 hk6 hk6')
          | fail)
        all_goals
          have s6 := (own6.stored 0 (.int .i64 z)).1
          rw [ints_set] at s6
          have y0 := (set_ne (o := 0) (i := 0) (u := .int .i64 z) (show g ≠ w.heap.size by omega)).trans ((HK6.out.cell (o := 0) x4 hRc).trans x0)
          have y1 := (set_ne (o := 0) (i := 1) (u := .int .i64 z) (show g ≠ w.heap.size by omega)).trans ((HK6.out.cell (o := 1) x4 hRc).trans x1)
          have y2 : (w6.setCell ⟨g, 0, none⟩ (.int .i64 z)).frozen? ⟨w.heap.size, 0, none⟩ = false := by rw [World.frozen?_setCell]; exact (HK6.out.frozen (o := 0) x4 hRc).trans x2
          have y3 : (w6.setCell ⟨g, 0, none⟩ (.int .i64 z)).frozen? ⟨w.heap.size, 1, none⟩ = false := by rw [World.frozen?_setCell]; exact (HK6.out.frozen (o := 1) x4 hRc).trans x3
          have y4 := tS (.int .i64 z)
          have y5 := (set_ne (o := 0) (i := 1) (u := .int .i64 z) hgP).trans ((HK6.out.cell (o := 1) t4 (by omega)).trans t1)
          have OO2 := own_setne (o := 0) (u := .int .i64 z) (own_kp O25.out HK6.out hcW) (HNE.out g rfl)
          have hlP : Hid ((ps.set 0 z).length = pn) := hide (by rw [List.length_set]; exact HPN.out)
          have FIN := hide (fin_prof (ps := ps.set 0 z) (fs := fs) (by rw [hlP.out]; exact s6) (by rw [HFN.out]; exact OO2) hRW hcw HOLD.out (HC6.out.set (show g ≠ c by omega) (fun b off e hl => by have := HOLD.out b off e hl; omega)) (HKN.out _ ((HK5.out.trans HK6.out).setNew hg0 _ _)))
          rw [hlP.out, HFN.out] at FIN
          clear s6 OO2 own6 c6 f6 tS t6 tA t0 t1 x0 x1 x2 x3
          generalize w6.setCell ⟨g, 0, none⟩ (.int .i64 z) = w7 at *
          go_wp2_with fail
          exact bodyPost_ret (v := .agg #[.slice (some ⟨g, 0, none⟩) pn d1', .slice s2' fn d2']) (by simp [results, Try.results43, go_sem, *]) rfl (dpost hlP.out HFN.out hp13 hf13 (by omega) FIN.out)
end Go.Proofs.Ytegonbilomcpkaa
