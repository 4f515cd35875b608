/-
  What szOfferS, toOfferS, eqOfferS and markOfferS of the laws answer, over offers in memory.
-/
import Derived.Test.YtpabfmcoadolcabPg
import Derived.Test.YtpabfmcoadolcabCb
import Derived.Deep.RegionHeld3
namespace Go.Proofs.Ytpabfmcoadolcab
open Go.RowKit

theorem o_own {w w' : World} {base e s n : Nat} {v : Value} {xs : List Value} (h : w.ownsRow base e s v n xs) (hb : Below w.heap.size w w') : w'.ownsRow base e s v n xs := by
  refine ⟨h.1, ?_⟩
  rcases h.2 with h0 | ⟨g, cap, cur, hv, hbg, hg, r⟩
  · exact Or.inl h0
  · exact Or.inr ⟨g, cap, cur, hv, hbg, (hb.block g (Array.getElem?_eq_some_iff.1 hg).1).trans hg, r⟩
def OFits (L : List (List Int)) : Prop := ∀ i, (L.getD i []).length ≤ maxLen

set_option maxHeartbeats 400000 in
theorem szo_yes {a : Option Addr} {n c : Nat} {left : Int} {w : World} (h0 : 0 ≤ left) (h1 : left ≤ 1048576) (h : (n : Int) ≤ left) :
    Calls Try.prog 9 #[.agg #[.slice a n c], .int .i64 left] w fun e w' => e = .returned (.int .i64 (left - n)) ∧ Below w.heap.size w w' := by
  have h2 : ¬ left - (n : Int) < 0 := by omega
  go_enter Try.func9, Try.ntmps9
  go_wp2_with fail
  refine (szI_yes a n c left _ h0 h1 h).mono ?_
  rintro e w1 ⟨rfl, rfl⟩
  go_wp2_with fail
  go_ret
  exact ⟨rfl, o_below_new _ _⟩
set_option maxHeartbeats 400000 in
theorem szo_no {a : Option Addr} {n c : Nat} {left : Int} {w : World} (h0 : 0 ≤ left) (h1 : left ≤ 1048576) (hm : n ≤ maxLen) (h : left < (n : Int)) :
    Calls Try.prog 9 #[.agg #[.slice a n c], .int .i64 left] w fun e w' => e = .returned (.int .i64 (-1)) ∧ Below w.heap.size w w' := by
  go_enter Try.func9, Try.ntmps9
  go_wp2_with fail
  refine (szI_no a n c left _ h0 h1 hm h).mono ?_
  rintro e w1 ⟨rfl, rfl⟩
  go_wp2_with fail
  go_ret
  exact ⟨rfl, o_below_new _ _⟩
set_option maxHeartbeats 400000 in
theorem szO_long {a : Option Addr} {n c : Nat} {left : Int} {w : World} (h0 : 0 ≤ left) (h1 : left ≤ 1048576) (hm : n ≤ maxLen) (h : left < (n : Int)) :
    Calls Try.prog 4 #[.slice a n c, .int .i64 left] w fun e w' => e = .returned (.int .i64 (-1)) ∧ w' = w := by
  unfold maxLen at hm
  have h2 : left - (n : Int) < 0 := by omega
  have h3 : wrap64 (left - (n : Int)) = left - (n : Int) := wrap_id' _ (by omega) (by omega)
  go_enter Try.func4, Try.ntmps4
  go_wp2_with fail
  go_ret
  exact ⟨rfl, rfl⟩
set_option maxHeartbeats 2000000 in
theorem szO_any {a : Option Addr} {n c : Nat} {left : Int} {L : List (List Int)} {w : World} (hn : L.length = n) (h0 : 0 ≤ left) (h1 : left ≤ 1048576) (hl : (n : Int) ≤ left) (hf : OFits L) (h : ORow w a L) :
    Calls Try.prog 4 #[.slice a n c, .int .i64 left] w fun e w' => ∃ r : Int, e = .returned (.int .i64 r) ∧ r ≤ 1048576 ∧ (r = -1 ∨ (0 ≤ r ∧ ∀ i, i < n → (L.getD i []).length ≤ 1048576)) ∧ Below w.heap.size w w' := by
  have H := hide h
  have HN := hide hn
  have HF := hide hf
  have h2 : ¬ left - (n : Int) < 0 := by omega
  clear h hn hf
  go_enter Try.func4, Try.ntmps4
  go_wp2_with fail
  go_loopw [1, 4, 5] (fun s1 _ s wr => ∃ (k : Nat) (r : Int), s1 = .int .i64 r ∧ s = .int .i64 k ∧ k ≤ n ∧ 0 ≤ r ∧ r ≤ 1048576 ∧ Hid (∀ i, i < k → (L.getD i []).length ≤ 1048576) ∧ Hid (Below w.heap.size w wr)) (fun _ _ s _ => n - (intOf s).toNat)
  case atStart => exact ⟨0, _, rfl, rfl, Nat.zero_le _, by omega, by omega, hide fun i hi => absurd hi (Nat.not_lt_zero _), hide (Below.refl _ _)⟩
  case round =>
    obtain ⟨k, r, rfl, rfl, hk, r0, r1, HA, HBl⟩ := hrel
    by_cases hlt : k < n
    · obtain ⟨b, off, ai, ci, rfl, hb, c1, _⟩ := (H.out.below HBl.out).at (i := k) (by rw [HN.out]; exact hlt)
      have i0 : (0 : Int) ≤ (k : Int) := by omega
      have i1 : (k : Int) < (n : Int) := by omega
      have hfk := HF.out k
      generalize hx : (L.getD k []).length = x at c1 hfk
      by_cases hle : (x : Int) ≤ r
      · have HA' : Hid (∀ i, i < k + 1 → (L.getD i []).length ≤ 1048576) := hide fun i hi => by
          by_cases e : i = k
          · subst e; rw [hx]; omega
          · exact HA.out i (by omega)
        have hnn : ¬ r - (x : Int) < 0 := by omega
        clear hx
        go_wp2_with (go_at_call 9; refine (szo_yes r0 r1 hle).mono ?_; rintro e w1 ⟨rfl, hb1⟩)
        go_roundw
        case rel => exact ⟨k + 1, _, rfl, by go_num, by omega, by omega, by omega, HA', hide (HBl.out.trans (hb1.mono HBl.out.size))⟩
        case measure => simp only [intOf]; omega
      · clear hx
        go_wp2_with (go_at_call 9; refine (szo_no r0 r1 hfk (by omega)).mono ?_; rintro e w1 ⟨rfl, hb1⟩)
        go_ret
        exact ⟨-1, rfl, by omega, Or.inl rfl, HBl.out.trans (hb1.mono HBl.out.size)⟩
    · have hke : k = n := by omega
      subst hke
      go_wp2_with fail
      go_ret
      exact ⟨r, rfl, r1, Or.inr ⟨r0, HA.out⟩, HBl.out⟩
def ov (gs : List Nat) (L : List (List Int)) (i : Nat) : Value := .slice (some ⟨gs.getD i 0, 0, none⟩) (L.getD i []).length (L.getD i []).length
def ovals (gs : List Nat) (L : List (List Int)) (k m : Nat) : List Value := (List.range m).map fun i => if i < k then ov gs L i else .slice none 0 0
/-- The first k of m offers, each in a block of its own, all of them owned. -/
def OSo (T : TypeId) (w : World) (base B : Nat) (gs : List Nat) (L : List (List Int)) (k m : Nat) : Prop :=
  gs.length = k ∧ w.ownsRow base T 1 (.slice (some ⟨B, 0, none⟩) m m) m (ovals gs L k m) ∧ (∀ i, i < k → w.ownsRow base 3 1 (ov gs L i) (L.getD i []).length (ints (L.getD i []))) ∧ gs.Pairwise (· < ·) ∧ ∀ g ∈ gs, B < g
theorem OSo.below {T : TypeId} {w w' : World} {base B k m : Nat} {gs : List Nat} {L : List (List Int)} (h : OSo T w base B gs L k m) (hb : Below w.heap.size w w') : OSo T w' base B gs L k m :=
  ⟨h.1, o_own h.2.1 hb, fun i hi => o_own (h.2.2.1 i hi) hb, h.2.2.2⟩
theorem OSo.at_mem {T : TypeId} {w : World} {base B k m : Nat} {gs : List Nat} {L : List (List Int)} (h : OSo T w base B gs L k m) {i : Nat} (hi : i < k) : gs.getD i 0 ∈ gs := by
  have hi' : i < gs.length := by rw [h.1]; exact hi
  rw [Pf.getD_lt _ _ hi']; exact List.getElem_mem _
theorem OSo.lt {T : TypeId} {w : World} {base B k m : Nat} {gs : List Nat} {L : List (List Int)} (h : OSo T w base B gs L k m) {g : Nat} (hg : g ∈ gs) : base ≤ g ∧ g < w.heap.size := by
  obtain ⟨i, hi, rfl⟩ := List.getElem_of_mem hg
  have := h.2.2.1 i (by rw [← h.1]; exact hi)
  have := this.lt (gs.getD i 0) rfl
  rwa [Pf.getD_lt _ _ hi] at this
theorem ovals_snoc {gs : List Nat} {L : List (List Int)} {k m g n : Nat} (hk : gs.length = k) (hn : (L.getD k []).length = n) : (ovals gs L k m).set k (.slice (some ⟨g, 0, none⟩) n n) = ovals (gs ++ [g]) L (k + 1) m := by
  apply List.ext_getElem
  · simp [ovals]
  · intro i h1 h2
    simp only [ovals, List.length_map, List.length_range] at h2
    rw [List.getElem_set]
    by_cases e : k = i
    · subst e
      simp [ovals, ov, ← hn, ← hk]
    · simp only [e, if_false, ovals, List.getElem_map, List.getElem_range]
      by_cases hi : i < k
      · simp [hi, show i < k + 1 by omega, ov, hk]
      · simp [hi, show ¬ i < k + 1 by omega]
theorem OSo.step {T : TypeId} {w w2 : World} {base B k m g n : Nat} {gs : List Nat} {L : List (List Int)} (h : OSo T w base B gs L k m) (hb : Below w.heap.size w w2) (hbase : base ≤ w.heap.size)
    (own : w2.ownsRow w.heap.size 3 1 (.slice (some ⟨g, 0, none⟩) n n) n (ints (L.getD k []))) (hn : (L.getD k []).length = n) :
    OSo T (w2.setCell ⟨B, k, none⟩ (.slice (some ⟨g, 0, none⟩) n n)) base B (gs ++ [g]) L (k + 1) m := by
  obtain ⟨hB0, hB1⟩ := h.2.1.lt B rfl
  obtain ⟨hg0, hg1⟩ := own.lt g rfl
  obtain ⟨st1, st2⟩ := (o_own h.2.1 hb).stored k (.slice (some ⟨g, 0, none⟩) n n)
  rw [ovals_snoc h.1 hn] at st1
  refine ⟨by simp [h.1], st1, fun i hi => ?_, ?_, ?_⟩
  · by_cases e : i = k
    · subst e
      have e1 : ov (gs ++ [g]) L i = .slice (some ⟨g, 0, none⟩) n n := by simp [ov, ← h.1, ← hn]
      rw [e1, hn]
      exact (owns_low own hbase).kept st2 (Or.inr (by simp [Value.ownBlock]; omega))
    · have hi' : i < k := by omega
      have e1 : ov (gs ++ [g]) L i = ov gs L i := by simp [ov, List.getElem?_append, h.1, hi']
      rw [e1]
      have hm := h.2.2.2.2 _ (h.at_mem hi')
      exact (o_own (h.2.2.1 i hi') hb).kept st2 (Or.inr (by simp only [ov, Value.ownBlock, ne_eq, Option.some.injEq]; omega))
  · rw [List.pairwise_append]
    refine ⟨h.2.2.2.1, by simp, fun a ha b hb' => ?_⟩
    simp at hb'
    have := (h.lt ha).2
    omega
  · intro x hx
    rcases List.mem_append.1 hx with hx | hx
    · exact h.2.2.2.2 x hx
    · simp at hx; omega
/-- Offers of one's own. -/
def OOwn (w : World) (base B : Nat) (gs : List Nat) (L : List (List Int)) : Prop := OSo 38 w base B gs L L.length L.length
theorem OOwn.row {w : World} {base B : Nat} {gs : List Nat} {L : List (List Int)} (h : OOwn w base B gs L) : ORow w (some ⟨B, 0, none⟩) L := by
  refine Or.inr ⟨B, 0, rfl, (h.2.1.lt B rfl).2, fun i hi => ⟨_, (L.getD i []).length, ?_, arow_owns rfl (h.2.2.1 i hi)⟩⟩
  rw [Nat.zero_add, h.2.1.cellAt i (by omega)]
  simp [ovals, hi, ov]

set_option maxHeartbeats 2000000 in
theorem toO_own {a : Option Addr} {n c : Nat} {xs : List Int} {w : World} (hn : xs.length = n) (h1 : n ≤ 1048576) (ha : ARow w a xs) :
    Calls Try.prog 13 #[.agg #[.slice a n c]] w fun e w' => ∃ g, e = .returned (.agg #[.slice (some ⟨g, 0, none⟩) n n]) ∧ Below w.heap.size w w' ∧ w'.ownsRow w.heap.size 3 1 (.slice (some ⟨g, 0, none⟩) n n) n (ints xs) := by
  have HA := hide ha
  have HN := hide hn
  clear ha hn
  go_enter Try.func13, Try.ntmps13
  go_wp2_with fail
  refine (toI_own a c n xs _ HN.out h1 (((HA.out.alloc _).alloc _).alloc _)).mono ?_
  rintro e w1 ⟨rfl, hb1, hz1, own1⟩
  simp only [World.size_alloc] at hb1 hz1 own1
  have hBw : Below w.heap.size w w1 := ((((Below.refl _ _).alloc (Nat.le_refl _) _).alloc (by simp) _).alloc (by simp; omega) _).trans (hb1.mono (by omega))
  have q2 : w1.cell? ⟨w.heap.size + 1 + 1, 0, none⟩ = some (.slice none 0 0) := (hb1.cell (p := ⟨w.heap.size + 1 + 1, 0, none⟩) (by show w.heap.size + 1 + 1 < _; omega)).trans (by simp [go_sem])
  have q4 : w1.cell? ⟨w.heap.size + 1, 0, none⟩ = some (.slice none 0 0) := (hb1.cell (p := ⟨w.heap.size + 1, 0, none⟩) (by show w.heap.size + 1 < _; omega)).trans (by simp [go_sem])
  have g2 : w1.frozen? ⟨w.heap.size + 1 + 1, 0, none⟩ = false := (hb1.frozen (p := ⟨w.heap.size + 1 + 1, 0, none⟩) (by show w.heap.size + 1 + 1 < _; omega)).trans (by simp [go_sem])
  have g4 : w1.frozen? ⟨w.heap.size + 1, 0, none⟩ = false := (hb1.frozen (p := ⟨w.heap.size + 1, 0, none⟩) (by show w.heap.size + 1 < _; omega)).trans (by simp [go_sem])
  have HO1 := hide own1
  clear own1
  go_wp2_with fail
  refine bodyPost_ret (v := .agg #[.slice (some ⟨w.heap.size + 1 + 1 + 1, 0, none⟩) n n]) (by simp [results, Try.results13, go_sem, q4]) rfl ⟨w.heap.size + 1 + 1 + 1, rfl, ?_, ?_⟩
  · exact (hBw.setCell (by show w.heap.size ≤ w.heap.size + 1 + 1; omega) _).setCell (by show w.heap.size ≤ w.heap.size + 1; omega) _
  · exact owns_low (ownsRow_setCell_below (ownsRow_setCell_below HO1.out (by show w.heap.size + 1 + 1 < _; omega) _) (by show w.heap.size + 1 < _; omega) _) (by omega)

theorem makeO_run (n : Nat) (hn : n ≤ 1048576) (w : World) : (Instr.makeSlice 26 (.int .i64 (n : Int)) (.int .i64 (n : Int))).run Try.prog w = .ok (.slice (some ⟨w.heap.size, 0, none⟩) n n) (w.alloc (.cells (madeCells #[.slice none 0 0] n) 38)) := by
  have h : (Try.prog.info? 38).map (fun i => (i.zero, i.size, i.bytes)) = some (some (.agg #[.slice none 0 0]), 1, 24) := by kernel_rfl
  obtain ⟨i, hi, hzz⟩ := Option.map_eq_some_iff.1 h
  simp only [Prod.mk.injEq] at hzz
  obtain ⟨hz, hs, hb⟩ := hzz
  have := run_make (P := Try.prog) w 26 38 i _ Try.underlying26 hi hz .i64 .i64 (n : Int) (n : Int) (by omega) (by omega) (by rw [hb]; omega) (by omega)
  simpa [hs, Value.cells] using this
theorem madeO_own (w : World) (n : Nat) (hn : n ≤ 1048576) (gs : List Nat) (L : List (List Int)) : (w.alloc (.cells (madeCells #[.slice none 0 0] n) 38)).ownsRow w.heap.size 38 1 (.slice (some ⟨w.heap.size, 0, none⟩) n n) n (ovals gs L 0 n) := by
  have h := World.ownsRow_lit (base := w.heap.size) (e := 38) (size := 1) w (madeCells #[.slice none 0 0] n) n (Nat.le_refl _) (by unfold maxLen; omega) (by simp [madeCells])
  rw [toList_madeCells_one] at h
  have e : ovals gs L 0 n = List.replicate n (.slice none 0 0) := by
    apply List.ext_getElem <;> simp [ovals]
  rw [e]
  simpa using h
set_option maxHeartbeats 2000000 in
theorem toOS_own {a : Option Addr} {n c : Nat} {L : List (List Int)} {w : World} (hn : L.length = n) (h1 : n ≤ 1048576) (hl : ∀ i, i < n → (L.getD i []).length ≤ 1048576) (ha : ORow w a L) :
    Calls Try.prog 6 #[.slice a n c] w fun e w' => ∃ gs, e = .returned (.slice (some ⟨w.heap.size, 0, none⟩) n n) ∧ Below w.heap.size w w' ∧ OOwn w' w.heap.size w.heap.size gs L := by
  have hmk := makeO_run n h1
  have HR := hide ha
  have HN := hide hn
  have HL := hide hl
  clear ha hn hl
  go_enter Try.func6, Try.ntmps6
  go_wp2_with fail
  go_loopw [4] (fun s wr => ∃ (k : Nat) (gs : List Nat), s = .int .i64 k ∧ k ≤ n ∧ Hid (OSo 38 wr w.heap.size w.heap.size gs L k n) ∧ Hid (Below w.heap.size w wr)) (fun s _ => n - (intOf s).toNat)
  case atStart => exact ⟨0, [], rfl, Nat.zero_le _, hide ⟨rfl, madeO_own w n h1 [] L, fun i hi => absurd hi (Nat.not_lt_zero _), by simp, by simp⟩, hide (o_below_new _ _)⟩
  case round =>
    obtain ⟨k, gs, rfl, hk, HS, HB⟩ := hrel
    by_cases hlt : k < n
    · obtain ⟨b, off, ai, ci, rfl, hb, r1, R1⟩ := (HR.out.below HB.out).at (i := k) (by rw [HN.out]; exact hlt)
      have i0 : (0 : Int) ≤ (k : Int) := by omega
      have i1 : (k : Int) < (n : Int) := by omega
      have HC := hide (toO_own (c := ci) rfl (HL.out k hlt) R1)
      generalize hm : (L.getD k []).length = m at r1 HC
      have HM := hide hm
      clear R1 hm hmk
      go_wp2_with fail
      refine HC.out.mono ?_
      rintro e w2 ⟨g, rfl, hb2, own2⟩
      have HS2 := hide (HS.out.step hb2 HB.out.size own2 HM.out)
      have o2 := (o_own HS.out.2.1 hb2)
      have c0 : w2.cell? ⟨w.heap.size, k, none⟩ = some (.slice none 0 0) := by
        rw [o2.cellAt k (by omega)]
        simp [ovals, hlt]
      have f0 := o2.frozenAt k
      have HB2 := hide (HB.out.trans (hb2.mono HB.out.size))
      clear o2 own2
      go_wp2_with fail
      exact ⟨⟨k + 1, gs ++ [g], by go_num, by omega, HS2, hide (HB2.out.setCell (Nat.le_refl _) _)⟩, by simp only [intOf]; omega⟩
    · have hke : k = n := by omega
      subst hke
      have HO : Hid (OOwn wr w.heap.size w.heap.size gs L) := hide (by unfold OOwn; rw [HN.out]; exact HS.out)
      clear hmk
      go_wp2_with fail
      go_ret
      exact ⟨gs, rfl, HB.out, HO.out⟩

set_option maxHeartbeats 1000000 in
theorem eqO_b {a b : Option Addr} {n c d : Nat} {xs : List Int} {w : World} (hn : xs.length = n) (hl : n ≤ 1048576) (h1 : ARow w a xs) (h2 : ARow w b xs) :
    Calls Try.prog 18 #[.agg #[.slice a n c], .agg #[.slice b n d]] w fun e w' => e = .returned (.bool true) ∧ Below w.heap.size w w' := by
  have HA := hide fun (x y : Obj) => (h1.alloc x).alloc y
  have HB := hide fun (x y : Obj) => (h2.alloc x).alloc y
  clear h1 h2
  go_enter Try.func18, Try.ntmps18
  go_wp2_with fail
  refine (eqI_b hn hl (HA.out _ _) (HB.out _ _)).mono ?_
  rintro e w1 ⟨rfl, hb1⟩
  have hB := (((Below.refl w.heap.size w).alloc (Nat.le_refl _) (.cells #[.slice a n c] 38)).alloc (by simp) (.cells #[.slice b n d] 38)).trans (hb1.mono (by simp; omega))
  go_wp2_with fail
  go_ret
  exact ⟨rfl, hB⟩

theorem two_call {w w1 w2 : World} {b c o p : Nat} {v0 v1 : Value} (hb : b < w.heap.size) (hc : c < w.heap.size)
    (s : w1.cell? ⟨b, o, none⟩ = some v0 ∧ w1.cell? ⟨c, p, none⟩ = some v1 ∧ Below w.heap.size w w1 ∧ w.heap.size ≤ w1.heap.size) (hb2 : Below w1.heap.size w1 w2) :
    w2.cell? ⟨b, o, none⟩ = some v0 ∧ w2.cell? ⟨c, p, none⟩ = some v1 ∧ Below w.heap.size w w2 ∧ w.heap.size ≤ w2.heap.size := by
  obtain ⟨s0, s1, s4, s5⟩ := s
  obtain ⟨h, _⟩ := bcell hb2
  exact ⟨(h _ _ (by omega)).trans s0, (h _ _ (by omega)).trans s1, s4.trans (hb2.mono s5), Nat.le_trans s5 hb2.size⟩
set_option maxHeartbeats 2000000 in
theorem eqOS_b {ba oa bb ob n c d : Nat} {L : List (List Int)} {w : World} (hn : L.length = n) (hn' : n ≤ 1048576) (hl : ∀ i, i < n → (L.getD i []).length ≤ 1048576) (h1 : ORow w (some ⟨ba, oa, none⟩) L) (h2 : ORow w (some ⟨bb, ob, none⟩) L) :
    Calls Try.prog 8 #[.slice (some ⟨ba, oa, none⟩) n c, .slice (some ⟨bb, ob, none⟩) n d] w fun e w' => e = .returned (.bool true) ∧ Below w.heap.size w w' := by
  have hne : ((n : Int) != (n : Int)) = false := by simp
  have H1 := hide h1
  have H2 := hide h2
  have HN := hide hn
  have HL := hide hl
  clear h1 h2 hn hl
  go_enter Try.func8, Try.ntmps8
  go_wp2_with fail
  go_loopw [5] (fun s wr => ∃ k : Nat, s = .int .i64 k ∧ k ≤ n ∧ Hid (Below w.heap.size w wr)) (fun s _ => n - (intOf s).toNat)
  case atStart => exact ⟨0, rfl, Nat.zero_le _, hide (Below.refl _ _)⟩
  case round =>
    obtain ⟨k, rfl, hk, HB⟩ := hrel
    by_cases hlt : k < n
    · obtain ⟨b, off, a1, c1, e1, hb, r1, R1⟩ := (H1.out.below HB.out).at (i := k) (by rw [HN.out]; exact hlt)
      cases e1
      obtain ⟨b', off', a2, c2, e2, hb', r2, R2⟩ := (H2.out.below HB.out).at (i := k) (by rw [HN.out]; exact hlt)
      cases e2
      have hln := HL.out k hlt
      have hcall := hide (fun (w' : World) (hb : Below wr.heap.size wr w') => eqO_b (c := c1) (d := c2) rfl hln (R1.below hb) (R2.below hb))
      generalize (L.getD k []).length = m at *
      have k0 : (0 : Int) ≤ (k : Int) := by omega
      have k1 : (k : Int) < (n : Int) := by omega
      clear R1 R2
      go_wp2_with fail
      go_region_held3 (fun w' => w'.cell? ⟨ba, oa + k, none⟩ = some (.slice a1 m c1) ∧ w'.cell? ⟨bb, ob + k, none⟩ = some (.slice a2 m c2) ∧ Below wr.heap.size wr w' ∧ wr.heap.size ≤ w'.heap.size)
        (first | exact ⟨r1, r2, (Below.refl _ _).drew, Nat.le_refl _⟩ | assumption | exact two_call hb hb' ‹_› (by assumption) | fail)
        (first | (go_at_call 18; obtain ⟨_, _, hbS, _⟩ := ‹_ ∧ _ ∧ _ ∧ _›; refine (hcall.out _ hbS).mono ?_; rintro e w3 ⟨rfl, hb3⟩) | fail)
      obtain ⟨_, _, hbE, _⟩ := ‹_ ∧ _ ∧ _ ∧ _›
      go_wp2_with fail
      go_roundw
      case rel => exact ⟨k + 1, by go_num, by omega, hide (HB.out.trans (hbE.mono HB.out.size))⟩
      case measure => simp only [intOf]; omega
    · go_wp2_with fail
      go_ret
      exact ⟨rfl, HB.out⟩
end Go.Proofs.Ytpabfmcoadolcab
