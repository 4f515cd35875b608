/-
  Lists of lists of whole numbers (costs) in memory; what szIntSS, toIntSS, eqIntSS and markIntSS of the laws answer over them.
-/
import Derived.Test.YtlbfnlikjnopoaaJc0
namespace Go.Proofs.Ytlbfnlikjnopoaa
open Go.RowKit

/-- Fits, to be read: a list of lists. -/
def CRow (w : World) (a : Option Addr) (F : List (List Int)) : Prop :=
  F = [] ∨ ∃ b off, a = some ⟨b, off, none⟩ ∧ b < w.heap.size ∧ ∀ i, i < F.length → ∃ ai ci, w.cell? ⟨b, off + i, none⟩ = some (.slice ai (F.getD i []).length ci) ∧ ARow w ai (F.getD i [])
theorem CRow.below {w w' : World} {a : Option Addr} {F : List (List Int)} (h : CRow w a F) (hb : Below w.heap.size w w') : CRow w' a F := by
  rcases h with h | ⟨b, off, ha, hl, hc⟩
  · exact Or.inl h
  · refine Or.inr ⟨b, off, ha, Nat.lt_of_lt_of_le hl hb.size, fun i hi => ?_⟩
    obtain ⟨ai, ci, h1, h2⟩ := hc i hi
    exact ⟨ai, ci, (hb.cell (p := ⟨b, off + i, none⟩) hl).trans h1, h2.below hb⟩
theorem CRow.at {w : World} {a : Option Addr} {F : List (List Int)} (h : CRow w a F) {i : Nat} (hi : i < F.length) : ∃ b off ai ci, a = some ⟨b, off, none⟩ ∧ b < w.heap.size ∧ w.cell? ⟨b, off + i, none⟩ = some (.slice ai (F.getD i []).length ci) ∧ ARow w ai (F.getD i []) := by
  rcases h with h | ⟨b, off, ha, hl, hc⟩
  · rw [h] at hi; simp at hi
  · obtain ⟨ai, ci, h1, h2⟩ := hc i hi
    exact ⟨b, off, ai, ci, ha, hl, h1, h2⟩
def CFits (F : List (List Int)) : Prop := ∀ i, (F.getD i []).length ≤ maxLen

set_option maxHeartbeats 400000 in
theorem szC_long {a : Option Addr} {n c : Nat} {left : Int} {w : World} (h0 : 0 ≤ left) (h1 : left ≤ 1048576) (hm : n ≤ maxLen) (h : left < (n : Int)) :
    Calls Try.prog 4 #[.slice a n c, .int .i64 left] w fun e w' => e = .returned (.int .i64 (-1)) ∧ w' = w := by
  unfold maxLen at hm
  have h2 : left - (n : Int) < 0 := by omega
  have h3 : wrap64 (left - (n : Int)) = left - (n : Int) := wrap_id' _ (by omega) (by omega)
  go_enter Try.func4, Try.ntmps4
  go_wp2_with fail
  go_ret
  exact ⟨rfl, rfl⟩
set_option maxHeartbeats 2000000 in
theorem szC_any {a : Option Addr} {n c : Nat} {left : Int} {F : List (List Int)} {w : World} (hn : F.length = n) (h0 : 0 ≤ left) (h1 : left ≤ 1048576) (hl : (n : Int) ≤ left) (hf : CFits F) (h : CRow w a F) :
    Calls Try.prog 4 #[.slice a n c, .int .i64 left] w fun e w' => ∃ r : Int, e = .returned (.int .i64 r) ∧ r ≤ 1048576 ∧ (r = -1 ∨ (0 ≤ r ∧ ∀ i, i < n → (F.getD i []).length ≤ 1048576)) ∧ w' = w := by
  have H := hide h
  have HN := hide hn
  have HF := hide hf
  have h2 : ¬ left - (n : Int) < 0 := by omega
  clear h hn hf
  go_enter Try.func4, Try.ntmps4
  go_wp2_with fail
  go_loop [1, 4, 5] (fun s1 _ s => ∃ (k : Nat) (r : Int), s1 = .int .i64 r ∧ s = .int .i64 k ∧ k ≤ n ∧ 0 ≤ r ∧ r ≤ 1048576 ∧ Hid (∀ i, i < k → (F.getD i []).length ≤ 1048576)) (fun _ _ s => n - (intOf s).toNat)
  case atStart => exact ⟨0, _, rfl, rfl, Nat.zero_le _, by omega, by omega, hide fun i hi => absurd hi (Nat.not_lt_zero _)⟩
  case round =>
    obtain ⟨k, r, rfl, rfl, hk, r0, r1, HA⟩ := hrel
    by_cases hlt : k < n
    · obtain ⟨b, off, ai, ci, rfl, hb, c1, _⟩ := H.out.at (i := k) (by rw [HN.out]; exact hlt)
      have i0 : (0 : Int) ≤ (k : Int) := by omega
      have i1 : (k : Int) < (n : Int) := by omega
      have hfk := HF.out k
      generalize hx : (F.getD k []).length = x at c1 hfk
      by_cases hle : (x : Int) ≤ r
      · have HA' : Hid (∀ i, i < k + 1 → (F.getD i []).length ≤ 1048576) := hide fun i hi => by
          by_cases e : i = k
          · subst e; rw [hx]; omega
          · exact HA.out i (by omega)
        have hnn : ¬ r - (x : Int) < 0 := by omega
        clear hx
        go_wp2_with (go_at_call 11; refine (szI_yes _ _ _ _ _ r0 r1 hle).mono ?_; rintro e w1 ⟨rfl, rfl⟩)
        go_round
        case rel => exact ⟨k + 1, _, rfl, by go_num, by omega, by omega, by omega, HA'⟩
        case measure => simp only [intOf]; omega
      · clear hx
        go_wp2_with (go_at_call 11; refine (szI_no _ _ _ _ _ r0 r1 hfk (by omega)).mono ?_; rintro e w1 ⟨rfl, rfl⟩)
        go_ret
        exact ⟨-1, rfl, by omega, Or.inl rfl, rfl⟩
    · have hke : k = n := by omega
      subst hke
      go_wp2_with fail
      go_ret
      exact ⟨r, rfl, r1, Or.inr ⟨r0, HA.out⟩, rfl⟩
def cv (gs : List Nat) (F : List (List Int)) (i : Nat) : Value := .slice (some ⟨gs.getD i 0, 0, none⟩) (F.getD i []).length (F.getD i []).length
def cvals (gs : List Nat) (F : List (List Int)) (k m : Nat) : List Value := (List.range m).map fun i => if i < k then cv gs F i else .slice none 0 0
/-- The first k of m rows, each in a block of its own, all of them owned. -/
def CSo (w : World) (base B : Nat) (gs : List Nat) (F : List (List Int)) (k m : Nat) : Prop :=
  gs.length = k ∧ w.ownsRow base 23 1 (.slice (some ⟨B, 0, none⟩) m m) m (cvals gs F k m) ∧ (∀ i, i < k → w.ownsRow base 3 1 (cv gs F i) (F.getD i []).length (ints (F.getD i []))) ∧ gs.Pairwise (· < ·) ∧ ∀ g ∈ gs, B < g
theorem CSo.below {w w' : World} {base B k m : Nat} {gs : List Nat} {F : List (List Int)} (h : CSo w base B gs F k m) (hb : Below w.heap.size w w') : CSo w' base B gs F k m :=
  ⟨h.1, g_own h.2.1 hb, fun i hi => g_own (h.2.2.1 i hi) hb, h.2.2.2⟩
theorem CSo.at_mem {w : World} {base B k m : Nat} {gs : List Nat} {F : List (List Int)} (h : CSo w base B gs F k m) {i : Nat} (hi : i < k) : gs.getD i 0 ∈ gs := by
  have hi' : i < gs.length := by rw [h.1]; exact hi
  rw [Pf.getD_lt _ _ hi']; exact List.getElem_mem _
theorem CSo.lt {w : World} {base B k m : Nat} {gs : List Nat} {F : List (List Int)} (h : CSo w base B gs F k m) {g : Nat} (hg : g ∈ gs) : base ≤ g ∧ g < w.heap.size := by
  obtain ⟨i, hi, rfl⟩ := List.getElem_of_mem hg
  have := h.2.2.1 i (by rw [← h.1]; exact hi)
  have := this.lt (gs.getD i 0) rfl
  rwa [Pf.getD_lt _ _ hi] at this
theorem cvals_snoc {gs : List Nat} {F : List (List Int)} {k m g n : Nat} (hk : gs.length = k) (hn : (F.getD k []).length = n) : (cvals gs F k m).set k (.slice (some ⟨g, 0, none⟩) n n) = cvals (gs ++ [g]) F (k + 1) m := by
  apply List.ext_getElem
  · simp [cvals]
  · intro i h1 h2
    simp only [cvals, List.length_map, List.length_range] at h2
    rw [List.getElem_set]
    by_cases e : k = i
    · subst e
      simp [cvals, cv, ← hn, ← hk]
    · simp only [e, if_false, cvals, List.getElem_map, List.getElem_range]
      by_cases hi : i < k
      · simp [hi, show i < k + 1 by omega, cv, hk]
      · simp [hi, show ¬ i < k + 1 by omega]
theorem CSo.step {w w2 : World} {base B k m g n : Nat} {gs : List Nat} {F : List (List Int)} (h : CSo w base B gs F k m) (hb : Below w.heap.size w w2) (hbase : base ≤ w.heap.size)
    (own : w2.ownsRow w.heap.size 3 1 (.slice (some ⟨g, 0, none⟩) n n) n (ints (F.getD k []))) (hn : (F.getD k []).length = n) :
    CSo (w2.setCell ⟨B, k, none⟩ (.slice (some ⟨g, 0, none⟩) n n)) base B (gs ++ [g]) F (k + 1) m := by
  obtain ⟨hB0, hB1⟩ := h.2.1.lt B rfl
  obtain ⟨hg0, hg1⟩ := own.lt g rfl
  obtain ⟨st1, st2⟩ := (g_own h.2.1 hb).stored k (.slice (some ⟨g, 0, none⟩) n n)
  rw [cvals_snoc h.1 hn] at st1
  refine ⟨by simp [h.1], st1, fun i hi => ?_, ?_, ?_⟩
  · by_cases e : i = k
    · subst e
      have e1 : cv (gs ++ [g]) F i = .slice (some ⟨g, 0, none⟩) n n := by simp [cv, ← h.1, ← hn]
      rw [e1, hn]
      exact (owns_low own hbase).kept st2 (Or.inr (by simp [Value.ownBlock]; omega))
    · have hi' : i < k := by omega
      have e1 : cv (gs ++ [g]) F i = cv gs F i := by simp [cv, List.getElem?_append, h.1, hi']
      rw [e1]
      have hm := h.2.2.2.2 _ (h.at_mem hi')
      exact (g_own (h.2.2.1 i hi') hb).kept st2 (Or.inr (by simp only [cv, Value.ownBlock, ne_eq, Option.some.injEq]; omega))
  · rw [List.pairwise_append]
    refine ⟨h.2.2.2.1, by simp, fun a ha b hb' => ?_⟩
    simp at hb'
    have := (h.lt ha).2
    omega
  · intro x hx
    rcases List.mem_append.1 hx with hx | hx
    · exact h.2.2.2.2 x hx
    · simp at hx; omega
/-- Fits of one's own, all of them below hi. -/
def COw (w : World) (B hi : Nat) (F : List (List Int)) : Prop := hi ≤ w.heap.size ∧ B < hi ∧ ∃ gs, (∀ g ∈ gs, g < hi) ∧ CSo w B B gs F F.length F.length
theorem COw.below {w w' : World} {B hi : Nat} {F : List (List Int)} (h : COw w B hi F) (hb : Below w.heap.size w w') : COw w' B hi F := by
  obtain ⟨h1, h2, gs, h3, h4⟩ := h
  exact ⟨Nat.le_trans h1 hb.size, h2, gs, h3, h4.below hb⟩
theorem COw.row {w : World} {B hi : Nat} {F : List (List Int)} (h : COw w B hi F) : CRow w (some ⟨B, 0, none⟩) F := by
  obtain ⟨h1, h2, gs, h3, h⟩ := h
  refine Or.inr ⟨B, 0, rfl, (h.2.1.lt B rfl).2, fun i hi => ⟨_, (F.getD i []).length, ?_, arow_owns rfl (h.2.2.1 i hi)⟩⟩
  rw [Nat.zero_add, h.2.1.cellAt i (by omega)]
  simp [cvals, hi, cv]

theorem makeC_run (n : Nat) (hn : n ≤ 1048576) (w : World) : (Instr.makeSlice 22 (.int .i64 (n : Int)) (.int .i64 (n : Int))).run Try.prog w = .ok (.slice (some ⟨w.heap.size, 0, none⟩) n n) (w.alloc (.cells (madeCells #[.slice none 0 0] n) 23)) := by
  have h : (Try.prog.info? 23).map (fun i => (i.zero, i.size, i.bytes)) = some (some (.slice none 0 0), 1, 24) := by kernel_rfl
  obtain ⟨i, hi, hzz⟩ := Option.map_eq_some_iff.1 h
  simp only [Prod.mk.injEq] at hzz
  obtain ⟨hz, hs, hb⟩ := hzz
  have := run_make (P := Try.prog) w 22 23 i _ Try.underlying22 hi hz .i64 .i64 (n : Int) (n : Int) (by omega) (by omega) (by rw [hb]; omega) (by omega)
  simpa [hs, Value.cells] using this
theorem madeC_own (w : World) (n : Nat) (hn : n ≤ 1048576) (gs : List Nat) (F : List (List Int)) : (w.alloc (.cells (madeCells #[.slice none 0 0] n) 23)).ownsRow w.heap.size 23 1 (.slice (some ⟨w.heap.size, 0, none⟩) n n) n (cvals gs F 0 n) := by
  have h := World.ownsRow_lit (base := w.heap.size) (e := 23) (size := 1) w (madeCells #[.slice none 0 0] n) n (Nat.le_refl _) (by unfold maxLen; omega) (by simp [madeCells])
  rw [toList_madeCells_one] at h
  have e : cvals gs F 0 n = List.replicate n (.slice none 0 0) := by
    apply List.ext_getElem <;> simp [cvals]
  rw [e]
  simpa using h
set_option maxHeartbeats 2000000 in
theorem toC_own {a : Option Addr} {n c : Nat} {F : List (List Int)} {w : World} (hn : F.length = n) (h1 : n ≤ 1048576) (hl : ∀ i, i < n → (F.getD i []).length ≤ 1048576) (ha : CRow w a F) :
    Calls Try.prog 6 #[.slice a n c] w fun e w' => e = .returned (.slice (some ⟨w.heap.size, 0, none⟩) n n) ∧ Below w.heap.size w w' ∧ COw w' w.heap.size w'.heap.size F := by
  have hmk := makeC_run n h1
  have HR := hide ha
  have HN := hide hn
  have HL := hide hl
  clear ha hn hl
  go_enter Try.func6, Try.ntmps6
  go_wp2_with fail
  go_loopw [4] (fun s wr => ∃ (k : Nat) (gs : List Nat), s = .int .i64 k ∧ k ≤ n ∧ Hid (CSo wr w.heap.size w.heap.size gs F k n) ∧ Hid (Below w.heap.size w wr)) (fun s _ => n - (intOf s).toNat)
  case atStart => exact ⟨0, [], rfl, Nat.zero_le _, hide ⟨rfl, madeC_own w n h1 [] F, fun i hi => absurd hi (Nat.not_lt_zero _), by simp, by simp⟩, hide (below_new _ _)⟩
  case round =>
    obtain ⟨k, gs, rfl, hk, HS, HB⟩ := hrel
    by_cases hlt : k < n
    · obtain ⟨b, off, ai, ci, rfl, hb, r1, R1⟩ := (HR.out.below HB.out).at (i := k) (by rw [HN.out]; exact hlt)
      have i0 : (0 : Int) ≤ (k : Int) := by omega
      have i1 : (k : Int) < (n : Int) := by omega
      have HC := hide (toI_own ai ci _ _ wr rfl (HL.out k hlt) R1)
      generalize hm : (F.getD k []).length = m at r1 HC
      have HM := hide hm
      clear R1 hm hmk
      go_wp2_with fail
      refine HC.out.mono ?_
      rintro e w2 ⟨rfl, hb2, hz2, own2⟩
      have HS2 := hide (HS.out.step hb2 HB.out.size own2 HM.out)
      have o2 := (g_own HS.out.2.1 hb2)
      have c0 : w2.cell? ⟨w.heap.size, k, none⟩ = some (.slice none 0 0) := by
        rw [o2.cellAt k (by omega)]
        simp [cvals, hlt]
      have f0 := o2.frozenAt k
      have HB2 := hide (HB.out.trans (hb2.mono HB.out.size))
      clear o2 own2
      go_wp2_with fail
      exact ⟨⟨k + 1, gs ++ [wr.heap.size], by go_num, by omega, HS2, hide (HB2.out.setCell (Nat.le_refl _) _)⟩, by simp only [intOf]; omega⟩
    · have hke : k = n := by omega
      subst hke
      have HO : Hid (COw wr w.heap.size wr.heap.size F) := hide ⟨Nat.le_refl _, (HS.out.2.1.lt _ rfl).2, gs, fun g hg => (HS.out.lt hg).2, by rw [HN.out]; exact HS.out⟩
      clear hmk
      go_wp2_with fail
      go_ret
      exact ⟨rfl, HB.out, HO.out⟩

set_option maxHeartbeats 2000000 in
theorem eqC_b {ba oa bb ob n c d : Nat} {F : List (List Int)} {w : World} (hn : F.length = n) (hn' : n ≤ 1048576) (hl : ∀ i, i < n → (F.getD i []).length ≤ 1048576) (h1 : CRow w (some ⟨ba, oa, none⟩) F) (h2 : CRow w (some ⟨bb, ob, none⟩) F) :
    Calls Try.prog 9 #[.slice (some ⟨ba, oa, none⟩) n c, .slice (some ⟨bb, ob, none⟩) n d] w fun e w' => e = .returned (.bool true) ∧ Below w.heap.size w w' := by
  have hne : ((n : Int) != (n : Int)) = false := by simp
  have H1 := hide h1
  have H2 := hide h2
  have HN := hide hn
  have HL := hide hl
  clear h1 h2 hn hl
  go_enter Try.func9, Try.ntmps9
  go_wp2_with fail
  go_loopw [5] (fun s wr => ∃ k : Nat, s = .int .i64 k ∧ k ≤ n ∧ Hid (Below w.heap.size w wr)) (fun s _ => n - (intOf s).toNat)
  case atStart => exact ⟨0, rfl, Nat.zero_le _, hide (Below.refl _ _)⟩
  case round =>
    obtain ⟨k, rfl, hk, HB⟩ := hrel
    by_cases hlt : k < n
    · obtain ⟨b, off, a1, c1, e1, hb, r1, R1⟩ := (H1.out.below HB.out).at (i := k) (by rw [HN.out]; exact hlt)
      cases e1
      obtain ⟨b', off', a2, c2, e2, hb', r2, R2⟩ := (H2.out.below HB.out).at (i := k) (by rw [HN.out]; exact hlt)
      cases e2
      have hln := HL.out k hlt
      have hcall := hide (fun (w' : World) (hb : Below wr.heap.size wr w') => eqI_b (c := c1) (d := c2) rfl hln (R1.below hb) (R2.below hb))
      generalize (F.getD k []).length = m at *
      have k0 : (0 : Int) ≤ (k : Int) := by omega
      have k1 : (k : Int) < (n : Int) := by omega
      clear R1 R2
      go_wp2_with fail
      go_region_held3 (fun w' => w'.cell? ⟨ba, oa + k, none⟩ = some (.slice a1 m c1) ∧ w'.cell? ⟨bb, ob + k, none⟩ = some (.slice a2 m c2) ∧ Below wr.heap.size wr w' ∧ wr.heap.size ≤ w'.heap.size)
        (first | exact ⟨r1, r2, (Below.refl _ _).drew, Nat.le_refl _⟩ | assumption | exact two_call8 hb hb' ‹_› (by assumption) | fail)
        (first | (go_at_call 10; obtain ⟨_, _, hbS, _⟩ := ‹_ ∧ _ ∧ _ ∧ _›; refine (hcall.out _ hbS).mono ?_; rintro e w3 ⟨rfl, hb3⟩) | fail)
      obtain ⟨_, _, hbE, _⟩ := ‹_ ∧ _ ∧ _ ∧ _›
      go_wp2_with fail
      go_roundw
      case rel => exact ⟨k + 1, by go_num, by omega, hide (HB.out.trans (hbE.mono HB.out.size))⟩
      case measure => simp only [intOf]; omega
    · go_wp2_with fail
      go_ret
      exact ⟨rfl, HB.out⟩
theorem eqC_ow {B hi B' hi' n : Nat} {F : List (List Int)} {w : World} (hn : Hid (F.length = n)) (hn' : n ≤ 1048576) (hl : Hid (∀ i, i < n → (F.getD i []).length ≤ 1048576)) (h1 : COw w B hi F) (h2 : COw w B' hi' F) :
    Calls Try.prog 9 #[.slice (some ⟨B, 0, none⟩) n n, .slice (some ⟨B', 0, none⟩) n n] w fun e w' => e = .returned (.bool true) ∧ Below w.heap.size w w' := eqC_b hn.out hn' hl.out h1.row h2.row
end Go.Proofs.Ytlbfnlikjnopoaa
