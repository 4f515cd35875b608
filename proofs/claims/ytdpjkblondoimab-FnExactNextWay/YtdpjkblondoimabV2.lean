/-
  In one: Qa, As13, Fa13, Fb13, Fd13, Fz13, Qw0, Hv, Lm13, Fe13, Ff13, Fh13, Shelf, Jl0, Wn11.
-/
import Derived.Test.YtdpjkblondoimabV1
import Derived.Deep.AppendLies
import Derived.Deep.RegionLaw
import Derived.Lib.AppendZeros
import Derived.Laws.AppendOwn
import Derived.Laws.OwnMore
import Derived.BigRegion
import Derived.Conc.LoneSelect
import Derived.Conc.LoneCalls
import Derived.Test.YtdpjkblondoimabChecked
import Derived.Shelf.Spec.SlicesInsertGrow
import Derived.Shelf.Bits.Mul64
import Derived.Shelf.Slices.Reverse
import Derived.Shelf.Slices.Clone
import Derived.Shelf.Slices.Cells
import Derived.Shelf.SlicesE.Clone
import Derived.Laws.CopyRow
namespace Go.Proofs.Ytdpjkblondoimab
open Go.RowKit

/-- Fits, to be read: a list of lists. -/
def CRow (w : World) (a : Option Addr) (F : List (List Int)) : Prop :=
  F = [] ∨ ∃ b off, a = some ⟨b, off, none⟩ ∧ b < w.heap.size ∧ ∀ i, i < F.length → ∃ ai ci, w.cell? ⟨b, off + i, none⟩ = some (.slice ai (F.getD i []).length ci) ∧ ARow w ai (F.getD i [])
theorem CRow.below {w w' : World} {a : Option Addr} {F : List (List Int)} (h : CRow w a F) (hb : Below w.heap.size w w') : CRow w' a F := by
  rcases h with h | ⟨b, off, ha, hl, hc⟩
  · exact Or.inl h
  · refine Or.inr ⟨b, off, ha, Nat.lt_of_lt_of_le hl hb.size, fun i hi => ?_⟩
    obtain ⟨ai, ci, h1, h2⟩ := hc i hi
    exact ⟨ai, ci, (hb.cell (p := ⟨b, off + i, none⟩) hl).trans h1, h2.below hb⟩
theorem CRow.at {w : World} {a : Option Addr} {F : List (List Int)} (h : CRow w a F) {i : Nat} (hi : i < F.length) : ∃ b off ai ci, a = some ⟨b, off, none⟩ ∧ b < w.heap.size ∧ w.cell? ⟨b, off + i, none⟩ = some (.slice ai (F.getD i []).length ci) ∧ ARow w ai (F.getD i []) := by
  rcases h with h | ⟨b, off, ha, hl, hc⟩
  · rw [h] at hi; simp at hi
  · obtain ⟨ai, ci, h1, h2⟩ := hc i hi
    exact ⟨b, off, ai, ci, ha, hl, h1, h2⟩
def CFits (F : List (List Int)) : Prop := ∀ i, (F.getD i []).length ≤ maxLen

set_option maxHeartbeats 400000 in
theorem szC_long {a : Option Addr} {n c : Nat} {left : Int} {w : World} (h0 : 0 ≤ left) (h1 : left ≤ 1048576) (hm : n ≤ maxLen) (h : left < (n : Int)) :
    Calls Try.prog 5 #[.slice a n c, .int .i64 left] w fun e w' => e = .returned (.int .i64 (-1)) ∧ w' = w := by
  unfold maxLen at hm
  have h2 : left - (n : Int) < 0 := by omega
  have h3 : wrap64 (left - (n : Int)) = left - (n : Int) := wrap_id' _ (by omega) (by omega)
  go_enter Try.func5, Try.ntmps5
  go_wp2_with fail
  go_ret
  exact ⟨rfl, rfl⟩
set_option maxHeartbeats 2000000 in
theorem szC_any {a : Option Addr} {n c : Nat} {left : Int} {F : List (List Int)} {w : World} (hn : F.length = n) (h0 : 0 ≤ left) (h1 : left ≤ 1048576) (hl : (n : Int) ≤ left) (hf : CFits F) (h : CRow w a F) :
    Calls Try.prog 5 #[.slice a n c, .int .i64 left] w fun e w' => ∃ r : Int, e = .returned (.int .i64 r) ∧ r ≤ 1048576 ∧ (r = -1 ∨ (0 ≤ r ∧ ∀ i, i < n → (F.getD i []).length ≤ 1048576)) ∧ w' = w := by
  have H := hide h
  have HN := hide hn
  have HF := hide hf
  have h2 : ¬ left - (n : Int) < 0 := by omega
  clear h hn hf
  go_enter Try.func5, Try.ntmps5
  go_wp2_with fail
  go_loop [1, 4, 5] (fun s1 _ s => ∃ (k : Nat) (r : Int), s1 = .int .i64 r ∧ s = .int .i64 k ∧ k ≤ n ∧ 0 ≤ r ∧ r ≤ 1048576 ∧ Hid (∀ i, i < k → (F.getD i []).length ≤ 1048576)) (fun _ _ s => n - (intOf s).toNat)
  case atStart => exact ⟨0, _, rfl, rfl, Nat.zero_le _, by omega, by omega, hide fun i hi => absurd hi (Nat.not_lt_zero _)⟩
  case round =>
    obtain ⟨k, r, rfl, rfl, hk, r0, r1, HA⟩ := hrel
    by_cases hlt : k < n
    · obtain ⟨b, off, ai, ci, rfl, hb, c1, _⟩ := H.out.at (i := k) (by rw [HN.out]; exact hlt)
      have i0 : (0 : Int) ≤ (k : Int) := by omega
      have i1 : (k : Int) < (n : Int) := by omega
      have hfk := HF.out k
      generalize hx : (F.getD k []).length = x at c1 hfk
      by_cases hle : (x : Int) ≤ r
      · have HA' : Hid (∀ i, i < k + 1 → (F.getD i []).length ≤ 1048576) := hide fun i hi => by
          by_cases e : i = k
          · subst e; rw [hx]; omega
          · exact HA.out i (by omega)
        have hnn : ¬ r - (x : Int) < 0 := by omega
        clear hx
        go_wp2_with (go_at_call 18; refine (szI_yes _ _ _ _ _ r0 r1 hle).mono ?_; rintro e w1 ⟨rfl, rfl⟩)
        go_round
        case rel => exact ⟨k + 1, _, rfl, by go_num, by omega, by omega, by omega, HA'⟩
        case measure => simp only [intOf]; omega
      · clear hx
        go_wp2_with (go_at_call 18; refine (szI_no _ _ _ _ _ r0 r1 hfk (by omega)).mono ?_; rintro e w1 ⟨rfl, rfl⟩)
        go_ret
        exact ⟨-1, rfl, by omega, Or.inl rfl, rfl⟩
    · have hke : k = n := by omega
      subst hke
      go_wp2_with fail
      go_ret
      exact ⟨r, rfl, r1, Or.inr ⟨r0, HA.out⟩, rfl⟩
def cv (gs : List Nat) (F : List (List Int)) (i : Nat) : Value := .slice (some ⟨gs.getD i 0, 0, none⟩) (F.getD i []).length (F.getD i []).length
def cvals (gs : List Nat) (F : List (List Int)) (k m : Nat) : List Value := (List.range m).map fun i => if i < k then cv gs F i else .slice none 0 0
/-- The first k of m rows, each in a block of its own, all of them owned. -/
def CSo (w : World) (base B : Nat) (gs : List Nat) (F : List (List Int)) (k m : Nat) : Prop :=
  gs.length = k ∧ w.ownsRow base 24 1 (.slice (some ⟨B, 0, none⟩) m m) m (cvals gs F k m) ∧ (∀ i, i < k → w.ownsRow base 3 1 (cv gs F i) (F.getD i []).length (ints (F.getD i []))) ∧ gs.Pairwise (· < ·) ∧ ∀ g ∈ gs, B < g
theorem CSo.below {w w' : World} {base B k m : Nat} {gs : List Nat} {F : List (List Int)} (h : CSo w base B gs F k m) (hb : Below w.heap.size w w') : CSo w' base B gs F k m :=
  ⟨h.1, g_own h.2.1 hb, fun i hi => g_own (h.2.2.1 i hi) hb, h.2.2.2⟩
theorem CSo.at_mem {w : World} {base B k m : Nat} {gs : List Nat} {F : List (List Int)} (h : CSo w base B gs F k m) {i : Nat} (hi : i < k) : gs.getD i 0 ∈ gs := by
  have hi' : i < gs.length := by rw [h.1]; exact hi
  rw [Pf.getD_lt _ _ hi']; exact List.getElem_mem _
theorem CSo.lt {w : World} {base B k m : Nat} {gs : List Nat} {F : List (List Int)} (h : CSo w base B gs F k m) {g : Nat} (hg : g ∈ gs) : base ≤ g ∧ g < w.heap.size := by
  obtain ⟨i, hi, rfl⟩ := List.getElem_of_mem hg
  have := h.2.2.1 i (by rw [← h.1]; exact hi)
  have := this.lt (gs.getD i 0) rfl
  rwa [Pf.getD_lt _ _ hi] at this
theorem cvals_snoc {gs : List Nat} {F : List (List Int)} {k m g n : Nat} (hk : gs.length = k) (hn : (F.getD k []).length = n) : (cvals gs F k m).set k (.slice (some ⟨g, 0, none⟩) n n) = cvals (gs ++ [g]) F (k + 1) m := by
  apply List.ext_getElem
  · simp [cvals]
  · intro i h1 h2
    simp only [cvals, List.length_map, List.length_range] at h2
    rw [List.getElem_set]
    by_cases e : k = i
    · subst e
      simp [cvals, cv, ← hn, ← hk]
    · simp only [e, if_false, cvals, List.getElem_map, List.getElem_range]
      by_cases hi : i < k
      · simp [hi, show i < k + 1 by omega, cv, hk]
      · simp [hi, show ¬ i < k + 1 by omega]
theorem CSo.step {w w2 : World} {base B k m g n : Nat} {gs : List Nat} {F : List (List Int)} (h : CSo w base B gs F k m) (hb : Below w.heap.size w w2) (hbase : base ≤ w.heap.size)
    (own : w2.ownsRow w.heap.size 3 1 (.slice (some ⟨g, 0, none⟩) n n) n (ints (F.getD k []))) (hn : (F.getD k []).length = n) :
    CSo (w2.setCell ⟨B, k, none⟩ (.slice (some ⟨g, 0, none⟩) n n)) base B (gs ++ [g]) F (k + 1) m := by
  obtain ⟨hB0, hB1⟩ := h.2.1.lt B rfl
  obtain ⟨hg0, hg1⟩ := own.lt g rfl
  obtain ⟨st1, st2⟩ := (g_own h.2.1 hb).stored k (.slice (some ⟨g, 0, none⟩) n n)
  rw [cvals_snoc h.1 hn] at st1
  refine ⟨by simp [h.1], st1, fun i hi => ?_, ?_, ?_⟩
  · by_cases e : i = k
    · subst e
      have e1 : cv (gs ++ [g]) F i = .slice (some ⟨g, 0, none⟩) n n := by simp [cv, ← h.1, ← hn]
      rw [e1, hn]
      exact (owns_low own hbase).kept st2 (Or.inr (by simp [Value.ownBlock]; omega))
    · have hi' : i < k := by omega
      have e1 : cv (gs ++ [g]) F i = cv gs F i := by simp [cv, List.getElem?_append, h.1, hi']
      rw [e1]
      have hm := h.2.2.2.2 _ (h.at_mem hi')
      exact (g_own (h.2.2.1 i hi') hb).kept st2 (Or.inr (by simp only [cv, Value.ownBlock, ne_eq, Option.some.injEq]; omega))
  · rw [List.pairwise_append]
    refine ⟨h.2.2.2.1, by simp, fun a ha b hb' => ?_⟩
    simp at hb'
    have := (h.lt ha).2
    omega
  · intro x hx
    rcases List.mem_append.1 hx with hx | hx
    · exact h.2.2.2.2 x hx
    · simp at hx; omega
/-- Fits of one's own, all of them below hi. -/
def COw (w : World) (B hi : Nat) (F : List (List Int)) : Prop := hi ≤ w.heap.size ∧ B < hi ∧ ∃ gs, (∀ g ∈ gs, g < hi) ∧ CSo w B B gs F F.length F.length
theorem COw.below {w w' : World} {B hi : Nat} {F : List (List Int)} (h : COw w B hi F) (hb : Below w.heap.size w w') : COw w' B hi F := by
  obtain ⟨h1, h2, gs, h3, h4⟩ := h
  exact ⟨Nat.le_trans h1 hb.size, h2, gs, h3, h4.below hb⟩
theorem COw.row {w : World} {B hi : Nat} {F : List (List Int)} (h : COw w B hi F) : CRow w (some ⟨B, 0, none⟩) F := by
  obtain ⟨h1, h2, gs, h3, h⟩ := h
  refine Or.inr ⟨B, 0, rfl, (h.2.1.lt B rfl).2, fun i hi => ⟨_, (F.getD i []).length, ?_, arow_owns rfl (h.2.2.1 i hi)⟩⟩
  rw [Nat.zero_add, h.2.1.cellAt i (by omega)]
  simp [cvals, hi, cv]

theorem makeC_run (n : Nat) (hn : n ≤ 1048576) (w : World) : (Instr.makeSlice 22 (.int .i64 (n : Int)) (.int .i64 (n : Int))).run Try.prog w = .ok (.slice (some ⟨w.heap.size, 0, none⟩) n n) (w.alloc (.cells (madeCells #[.slice none 0 0] n) 24)) := by
  have h : (Try.prog.info? 24).map (fun i => (i.zero, i.size, i.bytes)) = some (some (.slice none 0 0), 1, 24) := by kernel_rfl
  obtain ⟨i, hi, hzz⟩ := Option.map_eq_some_iff.1 h
  simp only [Prod.mk.injEq] at hzz
  obtain ⟨hz, hs, hb⟩ := hzz
  have := run_make (P := Try.prog) w 22 24 i _ Try.underlying22 hi hz .i64 .i64 (n : Int) (n : Int) (by omega) (by omega) (by rw [hb]; omega) (by omega)
  simpa [hs, Value.cells] using this
theorem madeC_own (w : World) (n : Nat) (hn : n ≤ 1048576) (gs : List Nat) (F : List (List Int)) : (w.alloc (.cells (madeCells #[.slice none 0 0] n) 24)).ownsRow w.heap.size 24 1 (.slice (some ⟨w.heap.size, 0, none⟩) n n) n (cvals gs F 0 n) := by
  have h := World.ownsRow_lit (base := w.heap.size) (e := 24) (size := 1) w (madeCells #[.slice none 0 0] n) n (Nat.le_refl _) (by unfold maxLen; omega) (by simp [madeCells])
  rw [toList_madeCells_one] at h
  have e : cvals gs F 0 n = List.replicate n (.slice none 0 0) := by
    apply List.ext_getElem <;> simp [cvals]
  rw [e]
  simpa using h
set_option maxHeartbeats 2000000 in
theorem toC_own {a : Option Addr} {n c : Nat} {F : List (List Int)} {w : World} (hn : F.length = n) (h1 : n ≤ 1048576) (hl : ∀ i, i < n → (F.getD i []).length ≤ 1048576) (ha : CRow w a F) :
    Calls Try.prog 7 #[.slice a n c] w fun e w' => e = .returned (.slice (some ⟨w.heap.size, 0, none⟩) n n) ∧ Below w.heap.size w w' ∧ COw w' w.heap.size w'.heap.size F := by
  have hmk := makeC_run n h1
  have HR := hide ha
  have HN := hide hn
  have HL := hide hl
  clear ha hn hl
  go_enter Try.func7, Try.ntmps7
  go_wp2_with fail
  go_loopw [4] (fun s wr => ∃ (k : Nat) (gs : List Nat), s = .int .i64 k ∧ k ≤ n ∧ Hid (CSo wr w.heap.size w.heap.size gs F k n) ∧ Hid (Below w.heap.size w wr)) (fun s _ => n - (intOf s).toNat)
  case atStart => exact ⟨0, [], rfl, Nat.zero_le _, hide ⟨rfl, madeC_own w n h1 [] F, fun i hi => absurd hi (Nat.not_lt_zero _), by simp, by simp⟩, hide (below_new _ _)⟩
  case round =>
    obtain ⟨k, gs, rfl, hk, HS, HB⟩ := hrel
    by_cases hlt : k < n
    · obtain ⟨b, off, ai, ci, rfl, hb, r1, R1⟩ := (HR.out.below HB.out).at (i := k) (by rw [HN.out]; exact hlt)
      have i0 : (0 : Int) ≤ (k : Int) := by omega
      have i1 : (k : Int) < (n : Int) := by omega
      have HC := hide (toI_own ai ci _ _ wr rfl (HL.out k hlt) R1)
      generalize hm : (F.getD k []).length = m at r1 HC
      have HM := hide hm
      clear R1 hm hmk
      go_wp2_with fail
      refine HC.out.mono ?_
      rintro e w2 ⟨rfl, hb2, hz2, own2⟩
      have HS2 := hide (HS.out.step hb2 HB.out.size own2 HM.out)
      have o2 := (g_own HS.out.2.1 hb2)
      have c0 : w2.cell? ⟨w.heap.size, k, none⟩ = some (.slice none 0 0) := by
        rw [o2.cellAt k (by omega)]
        simp [cvals, hlt]
      have f0 := o2.frozenAt k
      have HB2 := hide (HB.out.trans (hb2.mono HB.out.size))
      clear o2 own2
      go_wp2_with fail
      exact ⟨⟨k + 1, gs ++ [wr.heap.size], by go_num, by omega, HS2, hide (HB2.out.setCell (Nat.le_refl _) _)⟩, by simp only [intOf]; omega⟩
    · have hke : k = n := by omega
      subst hke
      have HO : Hid (COw wr w.heap.size wr.heap.size F) := hide ⟨Nat.le_refl _, (HS.out.2.1.lt _ rfl).2, gs, fun g hg => (HS.out.lt hg).2, by rw [HN.out]; exact HS.out⟩
      clear hmk
      go_wp2_with fail
      go_ret
      exact ⟨rfl, HB.out, HO.out⟩

set_option maxHeartbeats 2000000 in
theorem eqC_b {ba oa bb ob n c d : Nat} {F : List (List Int)} {w : World} (hn : F.length = n) (hn' : n ≤ 1048576) (hl : ∀ i, i < n → (F.getD i []).length ≤ 1048576) (h1 : CRow w (some ⟨ba, oa, none⟩) F) (h2 : CRow w (some ⟨bb, ob, none⟩) F) :
    Calls Try.prog 10 #[.slice (some ⟨ba, oa, none⟩) n c, .slice (some ⟨bb, ob, none⟩) n d] w fun e w' => e = .returned (.bool true) ∧ Below w.heap.size w w' := by
  have hne : ((n : Int) != (n : Int)) = false := by simp
  have H1 := hide h1
  have H2 := hide h2
  have HN := hide hn
  have HL := hide hl
  clear h1 h2 hn hl
  go_enter Try.func10, Try.ntmps10
  go_wp2_with fail
  go_loopw [5] (fun s wr => ∃ k : Nat, s = .int .i64 k ∧ k ≤ n ∧ Hid (Below w.heap.size w wr)) (fun s _ => n - (intOf s).toNat)
  case atStart => exact ⟨0, rfl, Nat.zero_le _, hide (Below.refl _ _)⟩
  case round =>
    obtain ⟨k, rfl, hk, HB⟩ := hrel
    by_cases hlt : k < n
    · obtain ⟨b, off, a1, c1, e1, hb, r1, R1⟩ := (H1.out.below HB.out).at (i := k) (by rw [HN.out]; exact hlt)
      cases e1
      obtain ⟨b', off', a2, c2, e2, hb', r2, R2⟩ := (H2.out.below HB.out).at (i := k) (by rw [HN.out]; exact hlt)
      cases e2
      have hln := HL.out k hlt
      have hcall := hide (fun (w' : World) (hb : Below wr.heap.size wr w') => eqI_b (c := c1) (d := c2) rfl hln (R1.below hb) (R2.below hb))
      generalize (F.getD k []).length = m at *
      have k0 : (0 : Int) ≤ (k : Int) := by omega
      have k1 : (k : Int) < (n : Int) := by omega
      clear R1 R2
      go_wp2_with fail
      go_region_held3 (fun w' => w'.cell? ⟨ba, oa + k, none⟩ = some (.slice a1 m c1) ∧ w'.cell? ⟨bb, ob + k, none⟩ = some (.slice a2 m c2) ∧ Below wr.heap.size wr w' ∧ wr.heap.size ≤ w'.heap.size)
        (first | exact ⟨r1, r2, (Below.refl _ _).drew, Nat.le_refl _⟩ | assumption | exact two_call8 hb hb' ‹_› (by assumption) | fail)
        (first | (go_at_call 9; obtain ⟨_, _, hbS, _⟩ := ‹_ ∧ _ ∧ _ ∧ _›; refine (hcall.out _ hbS).mono ?_; rintro e w3 ⟨rfl, hb3⟩) | fail)
      obtain ⟨_, _, hbE, _⟩ := ‹_ ∧ _ ∧ _ ∧ _›
      go_wp2_with fail
      go_roundw
      case rel => exact ⟨k + 1, by go_num, by omega, hide (HB.out.trans (hbE.mono HB.out.size))⟩
      case measure => simp only [intOf]; omega
    · go_wp2_with fail
      go_ret
      exact ⟨rfl, HB.out⟩
theorem eqC_ow {B hi B' hi' n : Nat} {F : List (List Int)} {w : World} (hn : Hid (F.length = n)) (hn' : n ≤ 1048576) (hl : Hid (∀ i, i < n → (F.getD i []).length ≤ 1048576)) (h1 : COw w B hi F) (h2 : COw w B' hi' F) :
    Calls Try.prog 10 #[.slice (some ⟨B, 0, none⟩) n n, .slice (some ⟨B', 0, none⟩) n n] w fun e w' => e = .returned (.bool true) ∧ Below w.heap.size w w' := eqC_b hn.out hn' hl.out h1.row h2.row

/-- What is marked of fits so far: those rows from i on are as they were, nothing else is written but their blocks. -/
def MkC (w w' : World) (B hi : Nat) (gs : List Nat) (F : List (List Int)) (i : Nat) : Prop :=
  (∀ t, t < F.length → w'.cell? ⟨B, t, none⟩ = some (cv gs F t)) ∧ (∀ t, i ≤ t → t < F.length → w'.ownsRow B 3 1 (cv gs F t) (F.getD t []).length (ints (F.getD t []))) ∧ Rng B hi w w'
set_option maxHeartbeats 2000000 in
theorem markC_any {B hi n : Nat} {F : List (List Int)} {w : World} (HN : Hid (F.length = n)) (hn' : n ≤ 1048576) (HL : Hid (∀ i, i < n → (F.getD i []).length ≤ 1048576)) (h : COw w B hi F) :
    Calls Try.prog 11 #[.slice (some ⟨B, 0, none⟩) n n, .int .i64 1] w fun e w' => ∃ q : Int, e = .returned (.int .i64 q) ∧ 0 ≤ q ∧ Rng B hi w w' := by
  obtain ⟨hz, hBz, gs, hgz, h⟩ := h
  have H := hide h
  have HZ := hide hgz
  clear h hgz
  go_enter Try.func11, Try.ntmps11
  go_wp2_with fail
  go_loopw [1, 5] (fun s t wr => ∃ (i : Nat) (q : Int), s = .int .i64 q ∧ t = .int .i64 i ∧ i ≤ n ∧ 0 ≤ q ∧ q ≤ 1 + 1048576 * (i : Int) ∧ Hid (MkC w wr B hi gs F i)) (fun _ t _ => n - (intOf t).toNat)
  case atStart =>
    refine ⟨0, 1, rfl, rfl, Nat.zero_le _, by omega, by omega, hide ⟨fun t ht => ?_, fun t _ ht => H.out.2.2.1 t ht, Rng.refl _ _ _⟩⟩
    rw [H.out.2.1.cellAt t (by omega)]
    simp [cvals, ht]
  case round =>
    obtain ⟨i, q, rfl, rfl, hi', q0, q1, HM⟩ := hrel
    by_cases hlt : i < n
    · have hiL : i < F.length := by rw [HN.out]; exact hlt
      have c0 := HM.out.1 i hiL
      have HO := hide (HM.out.2.1 i (Nat.le_refl _) hiL)
      have hln := HL.out i hlt
      unfold cv at c0 HO
      generalize hm : (F.getD i []).length = m at c0 HO hln
      generalize hg : gs.getD i 0 = g at c0 HO
      have i0 : (0 : Int) ≤ (i : Int) := by omega
      have i1 : (i : Int) < (n : Int) := by omega
      have HX := hide hm
      have HG := hide hg
      clear hm hg
      go_wp2_with fail
      refine (mark_any g m m B (F.getD i []) q _ HX.out (by omega) (by omega) (by omega) HO.out).mono ?_
      rintro e w2 ⟨rfl, _, hg2⟩
      have hgm : g ∈ gs := by rw [← HG.out]; exact H.out.at_mem hiL
      have hgb := (H.out.lt hgm)
      have hgh := HZ.out g hgm
      have hBg := H.out.2.2.2.2 g hgm
      have HM2 : Hid (MkC w w2 B hi gs F (i + 1)) := hide (by
        obtain ⟨m1, m2, m3⟩ := HM.out
        refine ⟨fun t ht => ?_, fun t h1 h2 => ?_, m3.grown hg2 (by omega) hgh⟩
        · have hBs := (H.out.2.1.lt B rfl).2
          have := m3.2.2.2.1
          exact (World.cell?_of_block (w := wr) (a := ⟨B, t, none⟩) (hg2.block B (by omega) (by simp; omega))).trans (m1 t ht)
        · refine (m2 t (by omega) h2).kept hg2 (Or.inr ?_)
          have := lt_of_pw8 H.out.2.2.2.1 (show i < t by omega) (by rw [H.out.1]; exact h2)
          rw [HG.out] at this
          simp only [cv, Value.ownBlock, ne_eq, Option.some.injEq]
          omega)
      clear hg2
      go_wp2_with fail
      go_roundw
      case rel => exact ⟨i + 1, q + m, rfl, by go_num, by omega, by omega, by omega, HM2⟩
      case measure => simp only [intOf]; omega
    · go_wp2_with fail
      go_ret
      exact ⟨q, rfl, q0, HM.out.2.2⟩
end Go.Proofs.Ytdpjkblondoimab
namespace Go.Proofs.Ytdpjkblondoimab
namespace Nt
def rowB (g : Int) (n : Nat) (r : List Int) : Bool := decide (r.length = n) && Pf.allB r 0 g
def sqB (g : Int) (c : List (List Int)) : Bool := c.all (rowB g c.length)
theorem rowB_len {g : Int} {n : Nat} {r : List Int} (h : r.length ≠ n) : rowB g n r = false := by simp [rowB, h]
theorem rowB_all {g : Int} {n : Nat} {r : List Int} (h : r.length = n) : rowB g n r = Pf.allB r 0 g := by simp [rowB, h]
theorem sqB_row {g : Int} {c : List (List Int)} (h : sqB g c = true) {i : Nat} (hi : i < c.length) : (c.getD i []).length = c.length ∧ Pf.allB (c.getD i []) 0 g = true := by
  have h2 := List.all_eq_true.1 h (c.getD i []) (by rw [Pf.getD_lt _ _ hi]; exact List.getElem_mem hi)
  simpa [rowB] using h2
theorem sqB_not {g : Int} {c : List (List Int)} {i : Nat} (hi : i < c.length) (h : rowB g c.length (c.getD i []) = false) : sqB g c = false := by
  cases e : sqB g c
  · rfl
  · have := sqB_row e hi
    rw [rowB, this.1, this.2] at h
    simp at h
theorem sqB_of {g : Int} {c : List (List Int)} (h : ∀ i, i < c.length → rowB g c.length (c.getD i []) = true) : sqB g c = true := by
  refine List.all_eq_true.2 fun r hr => ?_
  obtain ⟨i, hi, rfl⟩ := List.getElem_of_mem hr
  have := h i hi
  rwa [Pf.getD_lt _ _ hi] at this
end Nt
open Go.RowKit

theorem areb9_eqn {a : Option Addr} {n c : Nat} {xs : List Int} {lo hi : Int} {w : World} {r : Bool} (h : Hid (ARow w a xs)) (hn : Hid (xs.length = n)) (hl : n ≤ 1048576) (hr : Hid (Pf.allB xs lo hi = r)) :
    Calls Try.prog 57 #[.slice a n c, .int .i64 lo, .int .i64 hi] w fun e w' => e = .returned (.bool r) ∧ w' = w := by
  have := hn.out
  subst this
  have := areb_any (c := c) (lo := lo) (hi := hi) h.out (by omega)
  rwa [hr.out] at this
theorem all9_eqn {a : Option Addr} {n c : Nat} {xs : List Int} {lo hi : Int} {w : World} {r : Bool} (h : Hid (ARow w a xs)) (hn : Hid (xs.length = n)) (hl : n ≤ 1048576) (hr : Hid (Pf.allB xs lo hi = r)) :
    Calls Try.prog 45 #[.slice a n c, .int .i64 lo, .int .i64 hi] w fun e w' => e = .returned (.bool r) ∧ w' = w := by
  have := hn.out
  subst this
  have := all_any (c := c) (lo := lo) (hi := hi) h.out (by omega)
  rwa [hr.out] at this
set_option maxHeartbeats 2000000 in
theorem as_any {a : Option Addr} {n c : Nat} {g : Int} {C : List (List Int)} {w : World} (hn : C.length = n) (hl : n ≤ 1048576) (h : CRow w a C) :
    Calls Try.prog 47 #[.slice a n c, .int .i64 g] w fun e w' => e = .returned (.bool (Nt.sqB g C)) ∧ w' = w := by
  have HN := hide hn
  have H := hide h
  have HNOT := hide fun (i : Nat) (hi : i < C.length) (hh : Nt.rowB g C.length (C.getD i []) = false) => Nt.sqB_not hi hh
  have HOF := hide (@Nt.sqB_of g C)
  rw [hn] at HNOT HOF
  generalize Nt.sqB g C = G at *
  clear h hn
  go_enter Try.func47, Try.ntmps47
  go_wp2_with fail
  go_loop [4, 6, 9] (fun s2 _ s => ∃ (k : Nat), s2 = .bool false ∧ s = .int .i64 k ∧ k ≤ n ∧ Hid (∀ i, i < k → Nt.rowB g n (C.getD i []) = true)) (fun _ _ s => n - (intOf s).toNat)
  case atStart => exact ⟨0, rfl, rfl, Nat.zero_le _, hide fun i hi => absurd hi (Nat.not_lt_zero _)⟩
  case round =>
    obtain ⟨k, rfl, rfl, hk, HK⟩ := hrel
    by_cases hlt : k < n
    · obtain ⟨b, off, ai, ci, rfl, hb, r1, R1⟩ := H.out.at (i := k) (by rw [HN.out]; exact hlt)
      have j0 : (0 : Int) ≤ (k : Int) := by omega
      have j1 : (k : Int) < (n : Int) := by omega
      have HR := hide R1
      have HRB := hide (fun h => Nt.rowB_all (g := g) (r := C.getD k []) (n := n) h)
      have HRL := hide (fun h => Nt.rowB_len (g := g) (r := C.getD k []) (n := n) h)
      generalize hq : (C.getD k []).length = q at r1 HRB HRL
      have HQ := hide hq
      clear hq R1
      by_cases e : q = n
      · subst e
        have he : ((q : Int) != (q : Int)) = false := by simp
        cases hal : Pf.allB (C.getD k []) 0 g
        · have HAL := hide hal
          have H1 := hide (HNOT.out k hlt ((HRB.out rfl).trans hal))
          clear hal
          go_wp2_with fail
          refine (areb9_eqn HR HQ (by omega) HAL).mono ?_
          rintro e w1 ⟨rfl, hw1⟩
          obtain rfl : w = w1 := hw1.symm
          go_wp2_with fail
          go_ret
          exact ⟨ret_bool H1.out.symm, rfl⟩
        · have HAL := hide hal
          have H1 : Hid (∀ i, i < k + 1 → Nt.rowB g q (C.getD i []) = true) := hide fun i hi => by
            by_cases e : i = k
            · subst e; exact (HRB.out rfl).trans hal
            · exact HK.out i (by omega)
          clear hal
          go_wp2_with fail
          refine (areb9_eqn HR HQ (by omega) HAL).mono ?_
          rintro e w1 ⟨rfl, hw1⟩
          obtain rfl : w = w1 := hw1.symm
          go_wp2_with fail
          go_round
          case rel => exact ⟨k + 1, rfl, by go_num, by omega, H1⟩
          case measure => simp only [intOf]; omega
      · have he : ((q : Int) != (n : Int)) = true := by simp; omega
        have H1 := hide (HNOT.out k hlt (HRL.out e))
        clear e
        go_wp2_with fail
        go_ret
        exact ⟨ret_bool H1.out.symm, rfl⟩
    · have hke : k = n := by omega
      subst hke
      have H1 := hide (HOF.out HK.out)
      go_wp2_with fail
      go_ret
      exact ⟨ret_bool H1.out.symm, rfl⟩
theorem as_eq {a : Option Addr} {n c : Nat} {g : Int} {C : List (List Int)} {w : World} {r : Bool} (hn : Hid (C.length = n)) (hl : n ≤ 1048576) (h : Hid (CRow w a C)) (hr : Hid (Nt.sqB g C = r)) :
    Calls Try.prog 47 #[.slice a n c, .int .i64 g] w fun e w' => e = .returned (.bool r) ∧ w' = w := hr.out ▸ as_any hn.out hl h.out
end Go.Proofs.Ytdpjkblondoimab
namespace Go.Proofs.Ytdpjkblondoimab.Nt
open Bx (sumTo)

/-- 2 to 8 rows of as many numbers in 0..50. -/
def rowsB (c : List (List Int)) : Bool := Pf.inB (c.length : Int) 2 8 && sqB 50 c
def at2 (c : List (List Int)) (i k : Nat) : Int := (c.getD i []).getD k 0
theorem rowsB_len {c : List (List Int)} (h : rowsB c = true) : 2 ≤ c.length ∧ c.length ≤ 8 := by
  simp only [rowsB, Bool.and_eq_true] at h
  have := Pf.inB_yes h.1
  omega
theorem rowsB_sq {c : List (List Int)} (h : rowsB c = true) : sqB 50 c = true := by
  simp only [rowsB, Bool.and_eq_true] at h; exact h.2
theorem rowsB_row {c : List (List Int)} (h : rowsB c = true) {i : Nat} (hi : i < c.length) : (c.getD i []).length = c.length := (sqB_row (rowsB_sq h) hi).1
theorem rowsB_bd {c : List (List Int)} (h : rowsB c = true) {i k : Nat} (hi : i < c.length) (hk : k < c.length) : 0 ≤ at2 c i k ∧ at2 c i k ≤ 50 := by
  have h1 := sqB_row (rowsB_sq h) hi
  have := Pf.inB_yes (Pf.allB_get h1.2 (i := k) (by omega))
  exact this
def netB (c : List (List Int)) : Bool := rowsB c && (List.range c.length).all fun i => at2 c i i == 0
theorem netB_rows {c : List (List Int)} (h : netB c = true) : rowsB c = true := by
  simp only [netB, Bool.and_eq_true] at h; exact h.1
theorem netB_diag {c : List (List Int)} (h : netB c = true) {i : Nat} (hi : i < c.length) : at2 c i i = 0 := by
  simp only [netB, Bool.and_eq_true, List.all_eq_true, List.mem_range] at h
  simpa using h.2 i hi
theorem netB_no {c : List (List Int)} (h : rowsB c = false) : netB c = false := by simp [netB, h]
theorem netB_not {c : List (List Int)} {i : Nat} (hi : i < c.length) (h : at2 c i i ≠ 0) : netB c = false := by
  cases e : netB c
  · rfl
  · exact absurd (netB_diag e hi) h
theorem netB_of {c : List (List Int)} (h : rowsB c = true) (hd : ∀ i, i < c.length → at2 c i i = 0) : netB c = true := by
  simp only [netB, Bool.and_eq_true, List.all_eq_true, List.mem_range]
  exact ⟨h, fun i hi => by simp [hd i hi]⟩
/-- What goes out of a hall less what goes into it. -/
def outI (c : List (List Int)) (h : Nat) : Int := Fl.ex c.length (at2 c) h
def fvI (c : List (List Int)) : Int := if rowsB c then outI c 0 else 0
theorem sumTo_bd {f : Nat → Int} {lo hi : Int} : ∀ n, (∀ i, i < n → lo ≤ f i ∧ f i ≤ hi) → lo * n ≤ sumTo f n ∧ sumTo f n ≤ hi * n
  | 0, _ => by simp [sumTo]
  | n + 1, h => by
    have h1 := sumTo_bd n fun i hi => h i (by omega)
    have h2 := h n (by omega)
    have e1 : lo * ((n + 1 : Nat) : Int) = lo * n + lo := by rw [Int.natCast_add, Int.mul_add]; simp
    have e2 : hi * ((n + 1 : Nat) : Int) = hi * n + hi := by rw [Int.natCast_add, Int.mul_add]; simp
    simp only [sumTo]
    rw [e1, e2]
    omega
theorem sumTo_sub (f g : Nat → Int) : ∀ n, sumTo (fun k => f k - g k) n = sumTo f n - sumTo g n
  | 0 => by simp [sumTo]
  | n + 1 => by simp only [sumTo]; rw [sumTo_sub f g n]; omega
theorem sum_list : ∀ (l : List Int), l.sum = sumTo (fun k => l.getD k 0) l.length := by
  intro l
  have : ∀ k, k ≤ l.length → (l.take k).sum = sumTo (fun k => l.getD k 0) k := by
    intro k
    induction k with
    | zero => intro _; simp [sumTo]
    | succ k ih =>
      intro hk
      rw [List.take_succ_eq_append_getElem (by omega), List.sum_append, ih (by omega)]
      simp only [sumTo]
      rw [Pf.getD_lt _ _ (show k < l.length by omega)]
      simp
  have h := this l.length (Nat.le_refl _)
  rwa [List.take_length] at h
/-- All of a row less the first so many of a column. -/
theorem out_eq {c : List (List Int)} {h : Nat} (hl : (c.getD h []).length = c.length) : outI c h = (c.getD h []).sum - sumTo (fun k => at2 c k h) c.length := by
  rw [outI, Fl.ex, sumTo_sub, sum_list, hl]; rfl
/-- The halls of a side: rising, with 0, without the last one. -/
def sideB (c : List (List Int)) (s : List Int) : Bool := netB c && (decide (0 < s.length) && (s.getD 0 0 == 0) && Ma.riseB s (c.length - 1))
end Go.Proofs.Ytdpjkblondoimab.Nt
namespace Go.Proofs.Ytdpjkblondoimab
open Go.RowKit
open Bx (sumTo)

/-- One number of the rows, in memory. -/
theorem crow_at2 {w : World} {a : Option Addr} {C : List (List Int)} (h : CRow w a C) {n i k : Nat} (hn : C.length = n) (hr : Nt.rowsB C = true) (hi : i < n) (hk : k < n) :
    ∃ b off b' off' ci, a = some ⟨b, off, none⟩ ∧ w.cell? ⟨b, off + i, none⟩ = some (.slice (some ⟨b', off', none⟩) n ci) ∧ w.cell? ⟨b', off' + k, none⟩ = some (.int .i64 (Nt.at2 C i k)) := by
  obtain ⟨b, off, ai, ci, ha, _, h1, h2⟩ := h.at (i := i) (by omega)
  have hl := Nt.rowsB_row hr (i := i) (by omega)
  obtain ⟨b', off', e, h3⟩ := h2.at (i := k) (by omega)
  subst e
  rw [hl, hn] at h1
  exact ⟨b, off, b', off', ci, ha, h1, h3⟩
set_option maxHeartbeats 1000000 in
theorem ahr_any {a : Option Addr} {n c : Nat} {C : List (List Int)} {w : World} (hn : C.length = n) (h : CRow w a C) :
    Calls Try.prog 36 #[.slice a n c] w fun e w' => e = .returned (.bool (Nt.rowsB C)) ∧ w' = w := by
  have HE : Hid (Nt.rowsB C = (Pf.inB (n : Int) 2 8 && Nt.sqB 50 C)) := hide (by rw [Nt.rowsB, hn])
  cases hi : Pf.inB (n : Int) 2 8
  · have H1 : Hid (Nt.rowsB C = false) := hide (by rw [HE.out, hi]; rfl)
    generalize Nt.rowsB C = G at *
    clear h hn HE
    go_enter Try.func36, Try.ntmps36
    go_wp2_with fail
    refine (between_eq hi).mono ?_
    rintro e w1 ⟨rfl, hw1⟩
    obtain rfl : w = w1 := hw1.symm
    go_wp2_with fail
    go_ret
    exact ⟨ret_bool H1.out.symm, rfl⟩
  · have hl := Pf.inB_yes hi
    have H1 : Hid (Nt.rowsB C = Nt.sqB 50 C) := hide (by rw [HE.out, hi]; rfl)
    have HC := hide (as_any (c := c) (g := 50) hn (by omega) h)
    generalize Nt.rowsB C = G at *
    generalize Nt.sqB 50 C = Y at *
    clear h hn HE
    go_enter Try.func36, Try.ntmps36
    go_wp2_with fail
    refine (between_eq hi).mono ?_
    rintro e w1 ⟨rfl, hw1⟩
    obtain rfl : w = w1 := hw1.symm
    go_wp2_with fail
    refine HC.out.mono ?_
    rintro e w1 ⟨rfl, hw1⟩
    obtain rfl : w = w1 := hw1.symm
    go_wp2_with fail
    go_ret
    exact ⟨ret_bool H1.out.symm, rfl⟩
theorem ahr_eq {a : Option Addr} {n c : Nat} {C : List (List Int)} {w : World} {r : Bool} (hn : Hid (C.length = n)) (h : Hid (CRow w a C)) (hr : Hid (Nt.rowsB C = r)) :
    Calls Try.prog 36 #[.slice a n c] w fun e w' => e = .returned (.bool r) ∧ w' = w := hr.out ▸ ahr_any hn.out h.out
set_option maxHeartbeats 2000000 in
theorem slr_any {a : Option Addr} {n c : Nat} {C : List (List Int)} {w : World} (hn : C.length = n) (hl : n ≤ 1048576) (h : CRow w a C) :
    Calls Try.prog 33 #[.slice a n c] w fun e w' => e = .returned (.bool (Nt.rowsB C)) ∧ w' = w := by
  have HE : Hid (Nt.rowsB C = (Pf.inB (n : Int) 2 8 && Nt.sqB 50 C)) := hide (by rw [Nt.rowsB, hn])
  have HN := hide hn
  have H := hide h
  have HNOT := hide fun (i : Nat) (hi : i < C.length) (hh : Nt.rowB 50 C.length (C.getD i []) = false) => Nt.sqB_not hi hh
  have HOF := hide (@Nt.sqB_of 50 C)
  rw [hn] at HNOT HOF
  generalize Nt.rowsB C = G at *
  generalize Nt.sqB 50 C = Y at *
  clear h hn
  go_enter Try.func33, Try.ntmps33
  go_wp2_with fail
  go_loop [2, 4, 7] (fun s2 _ s => ∃ (k : Nat), s2 = .bool false ∧ s = .int .i64 k ∧ k ≤ n ∧ Hid (∀ i, i < k → Nt.rowB 50 n (C.getD i []) = true)) (fun _ _ s => n - (intOf s).toNat)
  case atStart => exact ⟨0, rfl, rfl, Nat.zero_le _, hide fun i hi => absurd hi (Nat.not_lt_zero _)⟩
  case round =>
    obtain ⟨k, rfl, rfl, hk, HK⟩ := hrel
    by_cases hlt : k < n
    · obtain ⟨b, off, ai, ci, rfl, hb, r1, R1⟩ := H.out.at (i := k) (by rw [HN.out]; exact hlt)
      have j0 : (0 : Int) ≤ (k : Int) := by omega
      have j1 : (k : Int) < (n : Int) := by omega
      have HR := hide R1
      have HRB := hide (fun h => Nt.rowB_all (g := 50) (r := C.getD k []) (n := n) h)
      have HRL := hide (fun h => Nt.rowB_len (g := 50) (r := C.getD k []) (n := n) h)
      generalize hq : (C.getD k []).length = q at r1 HRB HRL
      have HQ := hide hq
      clear hq R1
      by_cases e : q = n
      · subst e
        have he : ((q : Int) != (q : Int)) = false := by simp
        cases hal : Pf.allB (C.getD k []) 0 50
        · have HAL := hide hal
          have H1 : Hid (G = false) := hide (by rw [HE.out, HNOT.out k hlt ((HRB.out rfl).trans hal), Bool.and_false])
          clear hal
          go_wp2_with fail
          refine (all9_eqn HR HQ (by omega) HAL).mono ?_
          rintro e w1 ⟨rfl, hw1⟩
          obtain rfl : w = w1 := hw1.symm
          go_wp2_with fail
          go_ret
          exact ⟨ret_bool H1.out.symm, rfl⟩
        · have HAL := hide hal
          have H1 : Hid (∀ i, i < k + 1 → Nt.rowB 50 q (C.getD i []) = true) := hide fun i hi => by
            by_cases e : i = k
            · subst e; exact (HRB.out rfl).trans hal
            · exact HK.out i (by omega)
          clear hal
          go_wp2_with fail
          refine (all9_eqn HR HQ (by omega) HAL).mono ?_
          rintro e w1 ⟨rfl, hw1⟩
          obtain rfl : w = w1 := hw1.symm
          go_wp2_with fail
          go_round
          case rel => exact ⟨k + 1, rfl, by go_num, by omega, H1⟩
          case measure => simp only [intOf]; omega
      · have he : ((q : Int) != (n : Int)) = true := by simp; omega
        have H1 : Hid (G = false) := hide (by rw [HE.out, HNOT.out k hlt (HRL.out e), Bool.and_false])
        clear e
        go_wp2_with fail
        go_ret
        exact ⟨ret_bool H1.out.symm, rfl⟩
    · have hke : k = n := by omega
      subst hke
      have H1 : Hid (G = Pf.inB (k : Int) 2 8) := hide (by rw [HE.out, HOF.out HK.out, Bool.and_true])
      cases hi : Pf.inB (k : Int) 2 8
      · have hi' := hide (Pf.inB_no hi)
        go_wp2_with fail
        refine (in_no hi'.out).mono ?_
        rintro e w1 ⟨rfl, hw1⟩
        obtain rfl : w = w1 := hw1.symm
        go_wp2_with fail
        go_ret
        exact ⟨ret_bool (H1.out.trans hi).symm, rfl⟩
      · have hi' := Pf.inB_yes hi
        go_wp2_with fail
        refine (in_yes hi'.1 hi'.2).mono ?_
        rintro e w1 ⟨rfl, hw1⟩
        obtain rfl : w = w1 := hw1.symm
        go_wp2_with fail
        go_ret
        exact ⟨ret_bool (H1.out.trans hi).symm, rfl⟩
theorem slr_eq {a : Option Addr} {n c : Nat} {C : List (List Int)} {w : World} {r : Bool} (hn : Hid (C.length = n)) (hl : n ≤ 1048576) (h : Hid (CRow w a C)) (hr : Hid (Nt.rowsB C = r)) :
    Calls Try.prog 33 #[.slice a n c] w fun e w' => e = .returned (.bool r) ∧ w' = w := hr.out ▸ slr_any hn.out hl h.out
set_option maxHeartbeats 1000000 in
theorem gn_any {a : Option Addr} {n c : Nat} {C : List (List Int)} {w : World} (hn : C.length = n) (h : CRow w a C) :
    Calls Try.prog 35 #[.slice a n c] w fun e w' => e = .returned (.bool (Nt.netB C)) ∧ w' = w := by
  have HN := hide hn
  have H := hide h
  cases hr : Nt.rowsB C
  · have HR := hide hr
    have H1 := hide (Nt.netB_no hr)
    generalize Nt.netB C = G at *
    clear h hn hr
    go_enter Try.func35, Try.ntmps35
    go_wp2_with fail
    refine (ahr_eq HN H HR).mono ?_
    rintro e w1 ⟨rfl, hw1⟩
    obtain rfl : w = w1 := hw1.symm
    go_wp2_with fail
    go_ret
    exact ⟨ret_bool H1.out.symm, rfl⟩
  · have HR := hide hr
    have HNOT := hide fun (i : Nat) (hi : i < C.length) (hh : Nt.at2 C i i ≠ 0) => Nt.netB_not hi hh
    have HOF := hide fun h => Nt.netB_of hr h
    rw [hn] at HNOT HOF
    have h8 := Nt.rowsB_len hr
    rw [hn] at h8
    obtain ⟨h2, h8⟩ := h8
    generalize Nt.netB C = G at *
    clear h hn hr
    go_enter Try.func35, Try.ntmps35
    go_wp2_with fail
    refine (ahr_eq HN H HR).mono ?_
    rintro e w1 ⟨rfl, hw1⟩
    obtain rfl : w = w1 := hw1.symm
    go_wp2_with fail
    go_loop [2, 3, 4, 10] (fun s2 _ _ s => ∃ (k : Nat), s2 = .bool false ∧ s = .int .i64 k ∧ k ≤ n ∧ Hid (∀ i, i < k → Nt.at2 C i i = 0)) (fun _ _ _ s => n - (intOf s).toNat)
    case atStart => exact ⟨0, rfl, rfl, Nat.zero_le _, hide fun i hi => absurd hi (Nat.not_lt_zero _)⟩
    case round =>
      obtain ⟨k, rfl, rfl, hk, HK⟩ := hrel
      by_cases hlt : k < n
      · obtain ⟨b, off, b', off', ci, rfl, r1, r2⟩ := crow_at2 H.out HN.out HR.out hlt hlt
        have j0 : (0 : Int) ≤ (k : Int) := by omega
        have j1 : (k : Int) < (n : Int) := by omega
        have HNK := hide (HNOT.out k hlt)
        have HKK : Hid (Nt.at2 C k k = 0 → ∀ i, i < k + 1 → Nt.at2 C i i = 0) := hide fun h0 i hi => by
          by_cases e : i = k
          · subst e; exact h0
          · exact HK.out i (by omega)
        generalize Nt.at2 C k k = x at *
        by_cases e : x = 0
        · subst e
          have H1 := hide (HKK.out rfl)
          go_wp2_with fail
          go_round
          case rel => exact ⟨k + 1, rfl, by go_num, by omega, H1⟩
          case measure => simp only [intOf]; omega
        · have H1 := hide (HNK.out e)
          have he : (x != (0 : Int)) = true := by simpa using e
          clear e
          go_wp2_with fail
          go_ret
          exact ⟨ret_bool H1.out.symm, rfl⟩
      · have hke : k = n := by omega
        subst hke
        have H1 := hide (HOF.out HK.out)
        go_wp2_with fail
        go_ret
        exact ⟨ret_bool H1.out.symm, rfl⟩
theorem gn_eq {a : Option Addr} {n c : Nat} {C : List (List Int)} {w : World} {r : Bool} (hn : Hid (C.length = n)) (h : Hid (CRow w a C)) (hr : Hid (Nt.netB C = r)) :
    Calls Try.prog 35 #[.slice a n c] w fun e w' => e = .returned (.bool r) ∧ w' = w := hr.out ▸ gn_any hn.out h.out
set_option maxHeartbeats 1000000 in
theorem sgn_any {a : Option Addr} {n c : Nat} {C : List (List Int)} {w : World} (hn : C.length = n) (hl : n ≤ 1048576) (h : CRow w a C) :
    Calls Try.prog 19 #[.slice a n c] w fun e w' => e = .returned (.bool (Nt.netB C)) ∧ w' = w := by
  have HN := hide hn
  have H := hide h
  cases hr : Nt.rowsB C
  · have HR := hide hr
    have H1 := hide (Nt.netB_no hr)
    generalize Nt.netB C = G at *
    clear h hn hr
    go_enter Try.func19, Try.ntmps19
    go_wp2_with fail
    refine (slr_eq HN hl H HR).mono ?_
    rintro e w1 ⟨rfl, hw1⟩
    obtain rfl : w = w1 := hw1.symm
    go_wp2_with fail
    go_ret
    exact ⟨ret_bool H1.out.symm, rfl⟩
  · have HR := hide hr
    have HNOT := hide fun (i : Nat) (hi : i < C.length) (hh : Nt.at2 C i i ≠ 0) => Nt.netB_not hi hh
    have HOF := hide fun h => Nt.netB_of hr h
    rw [hn] at HNOT HOF
    have h8 := Nt.rowsB_len hr
    rw [hn] at h8
    obtain ⟨h2, h8⟩ := h8
    generalize Nt.netB C = G at *
    clear h hn hr
    go_enter Try.func19, Try.ntmps19
    go_wp2_with fail
    refine (slr_eq HN hl H HR).mono ?_
    rintro e w1 ⟨rfl, hw1⟩
    obtain rfl : w = w1 := hw1.symm
    go_wp2_with fail
    go_loop [2, 3, 9] (fun s2 _ s => ∃ (k : Nat), s2 = .bool false ∧ s = .int .i64 k ∧ k ≤ n ∧ Hid (∀ i, i < k → Nt.at2 C i i = 0)) (fun _ _ s => n - (intOf s).toNat)
    case atStart => exact ⟨0, rfl, rfl, Nat.zero_le _, hide fun i hi => absurd hi (Nat.not_lt_zero _)⟩
    case round =>
      obtain ⟨k, rfl, rfl, hk, HK⟩ := hrel
      by_cases hlt : k < n
      · obtain ⟨b, off, b', off', ci, rfl, r1, r2⟩ := crow_at2 H.out HN.out HR.out hlt hlt
        have j0 : (0 : Int) ≤ (k : Int) := by omega
        have j1 : (k : Int) < (n : Int) := by omega
        have HNK := hide (HNOT.out k hlt)
        have HKK : Hid (Nt.at2 C k k = 0 → ∀ i, i < k + 1 → Nt.at2 C i i = 0) := hide fun h0 i hi => by
          by_cases e : i = k
          · subst e; exact h0
          · exact HK.out i (by omega)
        generalize Nt.at2 C k k = x at *
        by_cases e : x = 0
        · subst e
          have H1 := hide (HKK.out rfl)
          go_wp2_with fail
          go_round
          case rel => exact ⟨k + 1, rfl, by go_num, by omega, H1⟩
          case measure => simp only [intOf]; omega
        · have H1 := hide (HNK.out e)
          have he : (x != (0 : Int)) = true := by simpa using e
          clear e
          go_wp2_with fail
          go_ret
          exact ⟨ret_bool H1.out.symm, rfl⟩
      · have hke : k = n := by omega
        subst hke
        have H1 := hide (HOF.out HK.out)
        go_wp2_with fail
        go_ret
        exact ⟨ret_bool H1.out.symm, rfl⟩
theorem sgn_eq {a : Option Addr} {n c : Nat} {C : List (List Int)} {w : World} {r : Bool} (hn : Hid (C.length = n)) (hl : n ≤ 1048576) (h : Hid (CRow w a C)) (hr : Hid (Nt.netB C = r)) :
    Calls Try.prog 19 #[.slice a n c] w fun e w' => e = .returned (.bool r) ∧ w' = w := hr.out ▸ sgn_any hn.out hl h.out
theorem isum13 {a : Option Addr} {n c : Nat} {xs : List Int} {w : World} {S : Int} (hx : Hid (xs.length = n)) (hn : n ≤ 8) (ha : Hid (ARow w a xs)) (hg : Hid (Pf.allB xs 0 50 = true)) (hs : Hid (xs.sum = S)) :
    Calls Try.prog 58 #[.slice a n c] w fun e w' => e = .returned (.int .i64 S) ∧ w' = w := by
  have h1 := hx.out
  have h2 := hs.out
  subst h1 h2
  exact isum_any ha.out (by omega) (Pf.allB_of fun i hi => by have := Pf.inB_yes (Pf.allB_get hg.out hi); exact Pf.inB_of (by omega) (by omega))
set_option maxHeartbeats 1000000 in
theorem oli_any {a : Option Addr} {n c h : Nat} {C : List (List Int)} {w : World} (HN : Hid (C.length = n)) (hh : h < n) (HR : Hid (Nt.rowsB C = true)) (H : Hid (CRow w a C)) :
    Calls Try.prog 48 #[.slice a n c, .int .i64 (h : Int)] w fun e w' => e = .returned (.int .i64 (Nt.outI C h)) ∧ w' = w := by
  have h8 := Nt.rowsB_len HR.out
  rw [HN.out] at h8
  obtain ⟨h2, h8⟩ := h8
  have hrow := Nt.sqB_row (Nt.rowsB_sq HR.out) (i := h) (by rw [HN.out]; exact hh)
  have HE := hide (Nt.out_eq (c := C) (h := h) hrow.1)
  obtain ⟨b, off, ai, ci, rfl, hb, r1, R1⟩ := H.out.at (i := h) (by rw [HN.out]; exact hh)
  have HL : Hid ((C.getD h []).length = n) := hide (hrow.1.trans HN.out)
  have HAl := hide hrow.2
  have HR1 := hide R1
  have hS : 0 ≤ (C.getD h []).sum ∧ (C.getD h []).sum ≤ 400 := by
    have e1 := Nt.sum_list (C.getD h [])
    have e2 := Nt.sumTo_bd (f := fun k => (C.getD h []).getD k 0) (lo := 0) (hi := 50) n fun i hi => Pf.inB_yes (Pf.allB_get HAl.out (i := i) (by rw [HL.out]; exact hi))
    rw [HL.out] at e1
    rw [e1]
    omega
  obtain ⟨S, eS⟩ : ∃ S, (C.getD h []).sum = S := ⟨_, rfl⟩
  have HS := hide eS
  rw [eS] at HE hS
  obtain ⟨S0, S1⟩ := hS
  rw [HL.out] at r1
  rw [HN.out] at HE
  clear hrow R1 eS
  generalize Nt.outI C h = G at *
  have j0 : (0 : Int) ≤ (h : Int) := by omega
  have j1 : (h : Int) < (n : Int) := by omega
  go_enter Try.func48, Try.ntmps48
  go_wp2_with fail
  refine (isum13 HL h8 HR1 HAl HS).mono ?_
  rintro e w1 ⟨rfl, hw1⟩
  obtain rfl : w = w1 := hw1.symm
  go_wp2_with fail
  go_loop [5, 7, 15] (fun s5 _ s => ∃ (k : Nat) (x : Int), s5 = .int .i64 x ∧ s = .int .i64 k ∧ k ≤ n ∧ Hid (x = S - sumTo (fun k => Nt.at2 C k h) k)) (fun _ _ s => n - (intOf s).toNat)
  case atStart => exact ⟨0, S, rfl, rfl, Nat.zero_le _, hide (by simp [sumTo])⟩
  case round =>
    obtain ⟨k, x, rfl, rfl, hk, HX⟩ := hrel
    by_cases hlt : k < n
    · obtain ⟨b1, off1, b', off', ci', e1, r2, r3⟩ := crow_at2 H.out HN.out HR.out hlt hh
      cases e1
      have k0 : (0 : Int) ≤ (k : Int) := by omega
      have k1 : (k : Int) < (n : Int) := by omega
      have hbd := Nt.rowsB_bd HR.out (i := k) (k := h) (by rw [HN.out]; exact hlt) (by rw [HN.out]; exact hh)
      have hs := Nt.sumTo_bd (f := fun k => Nt.at2 C k h) (lo := 0) (hi := 50) k fun i hi => Nt.rowsB_bd HR.out (i := i) (k := h) (by rw [HN.out]; omega) (by rw [HN.out]; exact hh)
      have hx := HX.out
      have H1 : Hid (x - Nt.at2 C k h = S - sumTo (fun k => Nt.at2 C k h) (k + 1)) := hide (by rw [HX.out]; simp only [sumTo]; omega)
      generalize sumTo (fun k => Nt.at2 C k h) k = Z at hs hx
      generalize Nt.at2 C k h = y at *
      have x0 : -1000 ≤ x := by omega
      have x1 : x ≤ 1000 := by omega
      obtain ⟨y0, y1⟩ := hbd
      clear hs hx
      go_wp2_with fail
      go_round
      case rel => exact ⟨k + 1, x - y, by go_num, by go_num, by omega, H1⟩
      case measure => simp only [intOf]; omega
    · have hke : k = n := by omega
      subst hke
      have H1 : Hid (G = x) := hide (by rw [HX.out]; exact HE.out)
      go_wp2_with fail
      go_ret
      exact ⟨ret_int H1.out.symm, rfl⟩
end Go.Proofs.Ytdpjkblondoimab
namespace Go.Proofs.Ytdpjkblondoimab.Nt
open Bx (sumTo)

def roomAt (W F : List (List Int)) (i k : Nat) : Int := at2 W i k - at2 F i k + at2 F k i
def roomR (W F : List (List Int)) (i : Nat) : List Int := (List.range W.length).map (roomAt W F i)
def rooms (W F : List (List Int)) : List (List Int) := (List.range W.length).map (roomR W F)
theorem rooms_len (W F : List (List Int)) : (rooms W F).length = W.length := by simp [rooms]
theorem roomR_len (W F : List (List Int)) (i : Nat) : (roomR W F i).length = W.length := by simp [roomR]
theorem rooms_row (W F : List (List Int)) {i : Nat} (h : i < W.length) : (rooms W F).getD i [] = roomR W F i := by simp [rooms, h]
theorem roomR_at (W F : List (List Int)) {i k : Nat} (h : k < W.length) : (roomR W F i).getD k 0 = roomAt W F i k := by simp [roomR, h]
theorem rooms_at (W F : List (List Int)) {i k : Nat} (hi : i < W.length) (hk : k < W.length) : at2 (rooms W F) i k = roomAt W F i k := by rw [at2, rooms_row W F hi, roomR_at W F hk]
theorem rooms_snoc (W F : List (List Int)) {k : Nat} (hk : k < W.length) : (rooms W F).take k ++ [roomR W F k] = (rooms W F).take (k + 1) := by
  rw [List.take_add_one, List.getElem?_eq_getElem (by rw [rooms_len]; exact hk)]
  simp [rooms]
/-- Nowhere more than the width. -/
def withB (W F : List (List Int)) : Bool := (List.range W.length).all fun i => (List.range W.length).all fun k => decide (at2 F i k ≤ at2 W i k)
/-- As much in as out, but at the first hall and at the last one. -/
def passB (F : List (List Int)) : Bool := (List.range F.length).all fun i => decide (i = 0) || decide (F.length ≤ i + 1) || (outI F i == 0)
def flowB (W F : List (List Int)) : Bool := (rowsB F && decide (F.length = W.length)) && (withB W F && passB F)
/-- A flow of a net. -/
def nfB (W F : List (List Int)) : Bool := netB W && flowB W F
structure NF (W F : List (List Int)) : Prop where
  net : netB W = true
  rows : rowsB F = true
  len : F.length = W.length
  hi : ∀ i k, i < W.length → k < W.length → at2 F i k ≤ at2 W i k
  bal : ∀ i, 0 < i → i + 1 < W.length → outI F i = 0
theorem withB_iff {W F : List (List Int)} : withB W F = true ↔ ∀ i k, i < W.length → k < W.length → at2 F i k ≤ at2 W i k := by
  simp only [withB, List.all_eq_true, List.mem_range, decide_eq_true_eq]
  exact ⟨fun h i k hi hk => h i hi k hk, fun h i hi k hk => h i k hi hk⟩
theorem passB_iff {F : List (List Int)} : passB F = true ↔ ∀ i, 0 < i → i + 1 < F.length → outI F i = 0 := by
  simp only [passB, List.all_eq_true, List.mem_range, Bool.or_eq_true, decide_eq_true_eq, beq_iff_eq]
  refine ⟨fun h i h0 h1 => ?_, fun h i hi => ?_⟩
  · rcases h i (by omega) with (h | h) | h
    · omega
    · omega
    · exact h
  · by_cases e : i = 0
    · exact Or.inl (Or.inl e)
    · by_cases e2 : F.length ≤ i + 1
      · exact Or.inl (Or.inr e2)
      · exact Or.inr (h i (by omega) (by omega))
theorem nfB_iff {W F : List (List Int)} : nfB W F = true ↔ NF W F := by
  simp only [nfB, flowB, Bool.and_eq_true, decide_eq_true_eq, withB_iff, passB_iff]
  refine ⟨fun ⟨h1, ⟨h2, h3⟩, h4, h5⟩ => ⟨h1, h2, h3, h4, fun i h0 hi => h5 i h0 (by omega)⟩, fun h => ⟨h.net, ⟨h.rows, h.len⟩, h.hi, fun i h0 hi => h.bal i h0 (by rw [← h.len]; exact hi)⟩⟩
theorem NF.flow {W F : List (List Int)} (h : NF W F) : Fl.Flow W.length (at2 W) (at2 F) :=
  ⟨⟨fun i k hi hk => (rowsB_bd h.rows (i := i) (k := k) (by rw [h.len]; exact hi) (by rw [h.len]; exact hk)).1, h.hi⟩, fun i h0 hi => by have := h.bal i h0 hi; rw [outI, h.len] at this; exact this⟩
theorem NF.room_bd {W F : List (List Int)} (h : NF W F) {i k : Nat} (hi : i < W.length) (hk : k < W.length) : 0 ≤ roomAt W F i k ∧ roomAt W F i k ≤ 100 := by
  have h1 := rowsB_bd (netB_rows h.net) hi hk
  have h2 := rowsB_bd h.rows (i := i) (k := k) (by rw [h.len]; exact hi) (by rw [h.len]; exact hk)
  have h3 := rowsB_bd h.rows (i := k) (k := i) (by rw [h.len]; exact hk) (by rw [h.len]; exact hi)
  have h4 := h.hi i k hi hk
  unfold roomAt
  omega
/-- No flow at all. -/
def zeros (n : Nat) : List (List Int) := List.replicate n (List.replicate n 0)
theorem zeros_len (n : Nat) : (zeros n).length = n := by simp [zeros]
theorem zeros_row {n i : Nat} (h : i < n) : (zeros n).getD i [] = List.replicate n 0 := by simp [zeros, h]
theorem zeros_at (n i k : Nat) : at2 (zeros n) i k = 0 := by
  unfold at2
  by_cases h : i < n
  · rw [zeros_row h]
    by_cases hk : k < n <;> simp [hk]
  · simp [zeros, h]
theorem zeros_snoc {n k : Nat} (hk : k < n) : (zeros n).take k ++ [List.replicate n 0] = (zeros n).take (k + 1) := by
  rw [List.take_add_one, List.getElem?_eq_getElem (by rw [zeros_len]; exact hk)]
  simp [zeros]
theorem ex_zero {n : Nat} {f : Nat → Nat → Int} (h : ∀ i k, f i k = 0) (i : Nat) : Fl.ex n f i = 0 := by
  unfold Fl.ex
  have : sumTo (fun k => f i k - f k i) n = sumTo (fun _ => 0) n := Bx.sum_eq n fun k _ => by rw [h, h]; rfl
  rw [this, Bx.sum_const]; simp
theorem zeros_nf {W : List (List Int)} (h : netB W = true) : NF W (zeros W.length) := by
  have hl := rowsB_len (netB_rows h)
  refine ⟨h, ?_, zeros_len _, fun i k hi hk => ?_, fun i _ _ => ?_⟩
  · simp only [rowsB, Bool.and_eq_true]
    refine ⟨Pf.inB_of (by rw [zeros_len]; omega) (by rw [zeros_len]; omega), sqB_of fun i hi => ?_⟩
    rw [zeros_len] at hi ⊢
    rw [zeros_row hi, rowB_all (by simp)]
    exact Pf.allB_of fun j hj => by simp at hj; simp [hj, Pf.inB]
  · rw [zeros_at]; exact (rowsB_bd (netB_rows h) hi hk).1
  · rw [outI]; exact ex_zero (fun a b => zeros_at _ a b) i
/-- One number is another one. -/
def setM (F : List (List Int)) (i k : Nat) (x : Int) : List (List Int) := F.set i ((F.getD i []).set k x)
theorem setM_len (F : List (List Int)) (i k : Nat) (x : Int) : (setM F i k x).length = F.length := by simp [setM]
theorem setM_row (F : List (List Int)) (i k : Nat) (x : Int) (j : Nat) : ((setM F i k x).getD j []).length = (F.getD j []).length := by
  unfold setM
  by_cases hi : i < F.length
  · by_cases e : j = i
    · subst e; simp [hi]
    · simp [List.getElem?_set_ne (Ne.symm e)]
  · rw [List.set_eq_of_length_le (by omega)]
theorem setM_at {F : List (List Int)} {i k : Nat} {x : Int} (hi : i < F.length) (hk : k < (F.getD i []).length) (a b : Nat) : at2 (setM F i k x) a b = if a = i ∧ b = k then x else at2 F a b := by
  unfold at2 setM
  by_cases e : a = i
  · subst e
    simp only [List.getD_eq_getElem?_getD, List.getElem?_set_self hi, Option.getD_some, true_and]
    simp only [List.getD_eq_getElem?_getD] at hk
    by_cases e2 : b = k
    · subst e2; simp [List.getElem?_set_self hk]
    · rw [if_neg e2, List.getElem?_set_ne (Ne.symm e2)]
  · rw [if_neg (fun h => e h.1)]
    simp [List.getElem?_set_ne (Ne.symm e)]
/-- So much more from a to b: first less from b to a. -/
def stL (F : List (List Int)) (y : Int) (a b : Nat) : List (List Int) :=
  setM (setM F b a (at2 F b a - min y (at2 F b a))) a b (at2 (setM F b a (at2 F b a - min y (at2 F b a))) a b + (y - min y (at2 F b a)))
theorem stL_len (F : List (List Int)) (y : Int) (a b : Nat) : (stL F y a b).length = F.length := by simp [stL, setM_len]
theorem stL_row (F : List (List Int)) (y : Int) (a b j : Nat) : ((stL F y a b).getD j []).length = (F.getD j []).length := by simp only [stL, setM_row]
theorem stL_at {F : List (List Int)} {n a b : Nat} (y : Int) (hl : F.length = n) (hr : ∀ i, i < n → (F.getD i []).length = n) (ha : a < n) (hb : b < n) (hne : a ≠ b) (i k : Nat) : at2 (stL F y a b) i k = Fl.st (at2 F) y a b i k := by
  have h0 : at2 (setM F b a (at2 F b a - min y (at2 F b a))) a b = at2 F a b := by
    rw [setM_at (by omega) (by rw [hr b hb]; exact ha), if_neg (fun h => hne h.1)]
  rw [stL, setM_at (by rw [setM_len]; omega) (by rw [setM_row, hr a ha]; exact hb), h0]
  rw [setM_at (by omega) (by rw [hr b hb]; exact ha)]
  unfold Fl.st
  by_cases e1 : i = b ∧ k = a
  · rw [if_pos e1, if_pos e1, if_neg (fun e2 => hne (e2.1.symm.trans e1.1))]
  · rw [if_neg e1, if_neg e1]
/-- The first so many steps of a way. -/
def pushTo (y : Int) (F : List (List Int)) (P : List Int) : Nat → List (List Int)
  | 0 => F
  | k + 1 => stL (pushTo y F P k) y (P.getD k 0).toNat (P.getD (k + 1) 0).toNat
def pushL (y : Int) (F : List (List Int)) (P : List Int) : List (List Int) := pushTo y F P (P.length - 1)
theorem pushTo_len (y : Int) (F : List (List Int)) (P : List Int) : ∀ k, (pushTo y F P k).length = F.length
  | 0 => rfl
  | k + 1 => by rw [pushTo, stL_len, pushTo_len y F P k]
theorem pushTo_row (y : Int) (F : List (List Int)) (P : List Int) (j : Nat) : ∀ k, ((pushTo y F P k).getD j []).length = (F.getD j []).length
  | 0 => rfl
  | k + 1 => by rw [pushTo, stL_row, pushTo_row y F P j k]
/-- Halls of a way: unlike, each in the net, with room from each to the next one. -/
structure Way (R : List (List Int)) (n : Nat) (P : List Int) : Prop where
  len : 2 ≤ P.length
  first : P.getD 0 0 = 0
  last : P.getD (P.length - 1) 0 = (n : Int) - 1
  lo : ∀ i, i < P.length → 0 ≤ P.getD i 0 ∧ P.getD i 0 < n
  ne : ∀ i j, i < P.length → j < P.length → i ≠ j → P.getD i 0 ≠ P.getD j 0
  room : ∀ i, i + 1 < P.length → 0 < at2 R (P.getD i 0).toNat (P.getD (i + 1) 0).toNat
/-- Unlike numbers below n are at most n. -/
theorem few {P : List Int} {n k : Nat} (lo : ∀ i, i < k → 0 ≤ P.getD i 0 ∧ P.getD i 0 < n) (ne : ∀ i j, i < k → j < k → i ≠ j → P.getD i 0 ≠ P.getD j 0) : k ≤ n := by
  have hnd : ((List.range k).map fun i => (P.getD i 0).toNat).Nodup := by
    rw [List.nodup_iff_pairwise_ne, List.pairwise_map]
    refine List.Pairwise.imp_of_mem ?_ (List.nodup_iff_pairwise_ne.1 (List.nodup_range (n := k)))
    intro a b ha hb hab e
    rw [List.mem_range] at ha hb
    have h1 := lo a ha
    have h2 := lo b hb
    exact ne a b ha hb hab (by omega)
  have := hnd.length_le_of_subset (l₂ := List.range n) fun x hx => by
    obtain ⟨i, hi, rfl⟩ := List.mem_map.1 hx
    rw [List.mem_range] at hi ⊢
    have := lo i hi
    omega
  simpa using this
theorem Way.few {R : List (List Int)} {n : Nat} {P : List Int} (h : Way R n P) : P.length ≤ n := Nt.few h.lo h.ne
/-- The rooms along a way. -/
def along (R : List (List Int)) (P : List Int) : List Int := (List.range (P.length - 1)).map fun i => at2 R (P.getD i 0).toNat (P.getD (i + 1) 0).toNat
theorem along_len (R : List (List Int)) (P : List Int) : (along R P).length = P.length - 1 := by simp [along]
theorem along_at (R : List (List Int)) (P : List Int) {i : Nat} (h : i + 1 < P.length) : (along R P).getD i 0 = at2 R (P.getD i 0).toNat (P.getD (i + 1) 0).toNat := by
  have : i < P.length - 1 := by omega
  simp [along, this]
theorem along_snoc (R : List (List Int)) (P : List Int) {k : Nat} (hk : k + 1 < P.length) : (along R P).take k ++ [at2 R (P.getD k 0).toNat (P.getD (k + 1) 0).toNat] = (along R P).take (k + 1) := by
  rw [List.take_add_one, List.getElem?_eq_getElem (by rw [along_len]; omega)]
  simp [along]
/-- What holds behind the first so many steps of a push. -/
structure Psh (W F : List (List Int)) (y : Int) (P : List Int) (k : Nat) : Prop where
  cap : Fl.Cap W.length (at2 W) (at2 (pushTo y F P k))
  ex : ∀ i, Fl.ex W.length (at2 (pushTo y F P k)) i = Fl.ex W.length (at2 F) i + (if i = 0 then y else 0) - (if i = (P.getD k 0).toNat then y else 0)
  room : ∀ i, k ≤ i → i + 1 < P.length → y ≤ roomAt W (pushTo y F P k) (P.getD i 0).toNat (P.getD (i + 1) 0).toNat
theorem st_ext {F : List (List Int)} {f : Nat → Nat → Int} (h : ∀ i k, at2 F i k = f i k) : at2 F = f := funext fun i => funext fun k => h i k
theorem push_to {W F : List (List Int)} {y : Int} {P : List Int} (hf : NF W F) (hw : Way (rooms W F) W.length P) (hy : 0 ≤ y) (hle : ∀ i, i + 1 < P.length → y ≤ roomAt W F (P.getD i 0).toNat (P.getD (i + 1) 0).toNat) : ∀ k, k < P.length → Psh W F y P k
  | 0, _ => ⟨hf.flow.cap, fun i => by
      show Fl.ex W.length (at2 F) i = _
      rw [hw.first]
      show Fl.ex W.length (at2 F) i = Fl.ex W.length (at2 F) i + (if i = 0 then y else 0) - (if i = 0 then y else 0)
      omega, fun i _ hi => hle i hi⟩
  | k + 1, hk => by
    have ih := push_to hf hw hy hle k (by omega)
    have ha := hw.lo k (by omega)
    have hb := hw.lo (k + 1) hk
    have hne := hw.ne k (k + 1) (by omega) hk (by omega)
    obtain ⟨a, ea⟩ : ∃ a : Nat, P.getD k 0 = (a : Int) := ⟨(P.getD k 0).toNat, by omega⟩
    obtain ⟨b, eb⟩ : ∃ b : Nat, P.getD (k + 1) 0 = (b : Int) := ⟨(P.getD (k + 1) 0).toNat, by omega⟩
    have hab : a ≠ b := fun e => hne (by rw [ea, eb, e])
    have han : a < W.length := by omega
    have hbn : b < W.length := by omega
    have hstep : at2 (pushTo y F P (k + 1)) = Fl.st (at2 (pushTo y F P k)) y a b := st_ext fun i j => by
      rw [pushTo, ea, eb, Int.toNat_natCast, Int.toNat_natCast]
      exact stL_at y (by rw [pushTo_len, hf.len]) (fun i hi => by rw [pushTo_row, rowsB_row hf.rows (by rw [hf.len]; exact hi), hf.len]) han hbn hab i j
    have hr := ih.room k (Nat.le_refl _) hk
    rw [ea, eb, Int.toNat_natCast, Int.toNat_natCast] at hr
    refine ⟨?_, fun i => ?_, fun i hki hi => ?_⟩
    · rw [hstep]; exact Fl.st_cap ih.cap hab han hbn hy hr
    · rw [hstep, Fl.st_ex _ y hab han hbn i, ih.ex i, ea, eb, Int.toNat_natCast, Int.toNat_natCast]
      omega
    · have h1 := ih.room i (by omega) hi
      have hc := hw.lo i (by omega)
      have hd := hw.lo (i + 1) hi
      have n1 := hw.ne i k (by omega) (by omega) (by omega)
      have n2 := hw.ne (i + 1) k (by omega) (by omega) (by omega)
      unfold roomAt at h1 ⊢
      rw [hstep, Fl.st_else _ y (by omega) (by omega), Fl.st_else _ y (by omega) (by omega)]
      exact h1
theorem ex_out {F : List (List Int)} {n i : Nat} (hl : F.length = n) : outI F i = Fl.ex n (at2 F) i := by rw [outI, hl]
/-- What is pushed along a way is a flow, just so much more. -/
theorem push_nf {W F : List (List Int)} {y : Int} {P : List Int} (hf : NF W F) (hw : Way (rooms W F) W.length P) (hy : 0 ≤ y) (hle : ∀ i, i + 1 < P.length → y ≤ roomAt W F (P.getD i 0).toNat (P.getD (i + 1) 0).toNat) : NF W (pushL y F P) ∧ outI (pushL y F P) 0 = outI F 0 + y := by
  have h2 := hw.len
  have hp := push_to hf hw hy hle (P.length - 1) (by omega)
  have hW := rowsB_len (netB_rows hf.net)
  have hl : (pushL y F P).length = W.length := by rw [pushL, pushTo_len, hf.len]
  have hlast : (P.getD (P.length - 1) 0).toNat = W.length - 1 := by rw [hw.last]; omega
  refine ⟨⟨hf.net, ?_, hl, hp.cap.hi, fun i h0 hi => ?_⟩, ?_⟩
  · simp only [rowsB, Bool.and_eq_true]
    refine ⟨Pf.inB_of (by rw [hl]; omega) (by rw [hl]; omega), sqB_of fun i hi => ?_⟩
    have hrow : ((pushL y F P).getD i []).length = W.length := by rw [pushL, pushTo_row, rowsB_row hf.rows (by rw [hf.len, ← hl]; exact hi), hf.len]
    rw [hl] at hi ⊢
    rw [rowB_all hrow]
    refine Pf.allB_of fun j hj => ?_
    rw [hrow] at hj
    have h1 := hp.cap.lo i j hi hj
    have h2 := hp.cap.hi i j hi hj
    have h3 := rowsB_bd (netB_rows hf.net) hi hj
    exact Pf.inB_of h1 (by show at2 (pushL y F P) i j ≤ 50; unfold pushL; omega)
  · rw [ex_out hl, pushL, hp.ex i, hlast, if_neg (by omega), if_neg (by omega)]
    have := hf.bal i h0 hi
    rw [ex_out hf.len] at this
    omega
  · rw [ex_out hl, pushL, hp.ex 0, hlast, if_pos rfl, if_neg (by omega), ex_out hf.len]; omega
end Go.Proofs.Ytdpjkblondoimab.Nt
namespace Go.Proofs.Ytdpjkblondoimab
namespace Nt
theorem with_no {W F : List (List Int)} {i k : Nat} (hi : i < W.length) (hk : k < W.length) (h : at2 W i k < at2 F i k) : withB W F = false := by
  cases e : withB W F
  · rfl
  · have := withB_iff.1 e i k hi hk; omega
theorem pass_no {F : List (List Int)} {i : Nat} (h0 : 0 < i) (hi : i + 1 < F.length) (h : outI F i ≠ 0) : passB F = false := by
  cases e : passB F
  · rfl
  · exact absurd (passB_iff.1 e i h0 hi) h
/-- The arguments are as said. -/
def askB (W F : List (List Int)) : Bool := netB W && (rowsB F && decide (F.length = W.length))
theorem nf_eq (W F : List (List Int)) : nfB W F = (askB W F && (withB W F && passB F)) := by
  unfold nfB flowB askB
  cases netB W <;> simp
theorem flow_eq {W F : List (List Int)} (h : netB W = true) : nfB W F = flowB W F := by unfold nfB; rw [h]; rfl
end Nt
open Go.RowKit
open Bx (sumTo)
set_option maxHeartbeats 2000000 in
theorem iwi_any {aw af : Option Addr} {n c d : Nat} {W F : List (List Int)} {w : World} (HN : Hid (W.length = n)) (HM : Hid (F.length = n)) (HR : Hid (Nt.rowsB W = true)) (HS : Hid (Nt.rowsB F = true)) (HW : Hid (CRow w aw W)) (HA : Hid (CRow w af F)) :
    Calls Try.prog 37 #[.slice aw n c, .slice af n d] w fun e w' => e = .returned (.bool (Nt.withB W F)) ∧ w' = w := by
  have HNO : Hid (∀ i k, i < W.length → k < W.length → Nt.at2 W i k < Nt.at2 F i k → Nt.withB W F = false) := hide fun i k hi hk h => Nt.with_no hi hk h
  have HYE := hide (@Nt.withB_iff W F).2
  rw [HN.out] at HNO HYE
  generalize Nt.withB W F = G at *
  have h8 := Nt.rowsB_len HR.out
  rw [HN.out] at h8
  obtain ⟨h2, h8⟩ := h8
  go_enter Try.func37, Try.ntmps37
  go_wp2_with fail
  go_loop [4, 5, 6, 7, 8, 11] (fun s4 _ _ _ _ sk => ∃ (i : Nat), s4 = .bool false ∧ sk = .int .i64 i ∧ i ≤ n ∧ Hid (∀ a k, a < i → k < n → Nt.at2 F a k ≤ Nt.at2 W a k)) (fun _ _ _ _ _ sk => n - (intOf sk).toNat)
  case atStart => exact ⟨0, rfl, rfl, Nat.zero_le _, hide fun a k ha => absurd ha (Nat.not_lt_zero _)⟩
  case round =>
    obtain ⟨i, rfl, rfl, hi, HK⟩ := hrel
    by_cases hlt : i < n
    · obtain ⟨b, off, ai, ci, rfl, hb, r1, R1⟩ := HW.out.at (i := i) (by rw [HN.out]; exact hlt)
      have hrl := Nt.rowsB_row HR.out (i := i) (by rw [HN.out]; exact hlt)
      rw [hrl, HN.out] at r1
      have HR1 := hide R1
      have HRL : Hid ((W.getD i []).length = n) := hide (hrl.trans HN.out)
      have i0 : (0 : Int) ≤ (i : Int) := by omega
      have i1 : (i : Int) < (n : Int) := by omega
      clear R1 hrl
      go_wp2_with fail
      go_loop [4, 7, 8, 18] (fun s4 _ _ sk => ∃ (k : Nat), s4 = .bool false ∧ sk = .int .i64 k ∧ k ≤ n ∧ Hid (∀ j, j < k → Nt.at2 F i j ≤ Nt.at2 W i j)) (fun _ _ _ sk => n - (intOf sk).toNat)
      case atStart => exact ⟨0, rfl, rfl, Nat.zero_le _, hide fun a ha => absurd ha (Nat.not_lt_zero _)⟩
      case round =>
        obtain ⟨k, rfl, rfl, hk, HJ⟩ := hrel
        by_cases hkn : k < n
        · obtain ⟨b1, o1, rfl, r2⟩ := HR1.out.at (i := k) (by rw [HRL.out]; exact hkn)
          have r3 : w.cell? ⟨b1, o1 + k, none⟩ = some (.int .i64 (Nt.at2 W i k)) := r2
          obtain ⟨b2, o2, b3, o3, c3, rfl, r4, r5⟩ := crow_at2 HA.out HM.out HS.out hlt hkn
          have k0 : (0 : Int) ≤ (k : Int) := by omega
          have k1 : (k : Int) < (n : Int) := by omega
          have HNK := hide (fun h => HNO.out i k hlt hkn h)
          have HYK : Hid (Nt.at2 F i k ≤ Nt.at2 W i k → ∀ j, j < k + 1 → Nt.at2 F i j ≤ Nt.at2 W i j) := hide fun h j hj => by
            by_cases e : j = k
            · subst e; exact h
            · exact HJ.out j (by omega)
          generalize Nt.at2 W i k = x at *
          generalize Nt.at2 F i k = y at *
          clear r2
          by_cases hxy : x < y
          · have H1 := hide (HNK.out hxy)
            go_wp2_with fail
            go_ret
            exact ⟨ret_bool H1.out.symm, rfl⟩
          · have H1 := hide (HYK.out (by omega))
            go_wp2_with fail
            go_round
            case rel => exact ⟨k + 1, rfl, by go_num, by omega, H1⟩
            case measure => simp only [intOf]; omega
        · have hke : k = n := by omega
          subst hke
          have H1 : Hid (∀ a j, a < i + 1 → j < k → Nt.at2 F a j ≤ Nt.at2 W a j) := hide fun a j ha hj => by
            by_cases e : a = i
            · subst e; exact HJ.out j hj
            · exact HK.out a j (by omega) hj
          go_wp2_with fail
          go_round
          case rel => exact ⟨i + 1, rfl, by go_num, by omega, H1⟩
          case measure => simp only [intOf]; omega
    · have hke : i = n := by omega
      subst hke
      have H1 := hide (HYE.out HK.out)
      go_wp2_with fail
      go_ret
      exact ⟨ret_bool H1.out.symm, rfl⟩
set_option maxHeartbeats 2000000 in
theorem pon_any {af : Option Addr} {n d : Nat} {F : List (List Int)} {w : World} (HM : Hid (F.length = n)) (HS : Hid (Nt.rowsB F = true)) (HA : Hid (CRow w af F)) :
    Calls Try.prog 38 #[.slice af n d] w fun e w' => e = .returned (.bool (Nt.passB F)) ∧ w' = w := by
  have HNO : Hid (∀ i, 0 < i → i + 1 < F.length → Nt.outI F i ≠ 0 → Nt.passB F = false) := hide fun i h0 hi h => Nt.pass_no h0 hi h
  have HYE := hide (@Nt.passB_iff F).2
  rw [HM.out] at HNO HYE
  generalize Nt.passB F = G at *
  have h8 := Nt.rowsB_len HS.out
  rw [HM.out] at h8
  obtain ⟨h2, h8⟩ := h8
  go_enter Try.func38, Try.ntmps38
  go_wp2_with fail
  go_loop [2, 3] (fun s2 s3 => ∃ (i : Nat), s2 = .bool false ∧ s3 = .int .i64 (i : Int) ∧ 1 ≤ i ∧ i ≤ n ∧ Hid (∀ a, 0 < a → a < i → a + 1 < n → Nt.outI F a = 0)) (fun _ s3 => n - (intOf s3).toNat)
  case atStart => exact ⟨1, rfl, rfl, Nat.le_refl _, by omega, hide fun a h0 h1 => by omega⟩
  case round =>
    obtain ⟨i, rfl, rfl, hi1, hi, HK⟩ := hrel
    by_cases hlt : i + 1 < n
    · have HO := hide (oli_any (c := d) (h := i) HM (by omega) HS HA)
      have HNI := hide (fun h => HNO.out i (by omega) hlt h)
      have HYI : Hid (Nt.outI F i = 0 → ∀ a, 0 < a → a < i + 1 → a + 1 < n → Nt.outI F a = 0) := hide fun h a h0 h1 h2 => by
        by_cases e : a = i
        · subst e; exact h
        · exact HK.out a h0 (by omega) h2
      generalize Nt.outI F i = x at *
      have j1 : (i : Int) < (n : Int) - 1 := by omega
      by_cases hx : x = 0
      · subst hx
        have H1 := hide (HYI.out rfl)
        go_wp2_with fail
        refine HO.out.mono ?_
        rintro e w1 ⟨rfl, hw1⟩
        obtain rfl : w = w1 := hw1.symm
        go_wp2_with fail
        go_round
        case rel => exact ⟨i + 1, rfl, by go_num, by omega, by omega, H1⟩
        case measure => simp only [intOf]; omega
      · have H1 := hide (HNI.out hx)
        have hx' : (x != (0 : Int)) = true := by simpa using hx
        clear hx
        go_wp2_with fail
        refine HO.out.mono ?_
        rintro e w1 ⟨rfl, hw1⟩
        obtain rfl : w = w1 := hw1.symm
        go_wp2_with fail
        go_ret
        exact ⟨ret_bool H1.out.symm, rfl⟩
    · have j1 : ¬ (i : Int) < (n : Int) - 1 := by omega
      have H1 := hide (HYE.out fun a h0 h1 => HK.out a h0 (by omega) h1)
      go_wp2_with fail
      go_ret
      exact ⟨ret_bool H1.out.symm, rfl⟩
set_option maxHeartbeats 2000000 in
theorem isf_w {aw af : Option Addr} {n m c d : Nat} {W F : List (List Int)} {w : World} (HN : Hid (W.length = n)) (HM : Hid (F.length = m)) (HW : Hid (CRow w aw W)) (HA : Hid (CRow w af F)) :
    Calls Try.prog 22 #[.slice aw n c, .slice af m d] w fun e w' => e = .returned (.tuple #[.bool (Nt.nfB W F), .bool (Nt.askB W F)]) ∧ w' = w := by
  have hE := Nt.nf_eq W F
  cases hg : Nt.netB W
  · have HG := hide hg
    have e1 : Nt.askB W F = false := by simp [Nt.askB, hg]
    rw [e1] at hE
    rw [e1, hE]
    clear hg e1 hE
    go_enter Try.func22, Try.ntmps22
    go_wp2_with fail
    refine (gn_eq HN HW HG).mono ?_
    rintro e w1 ⟨rfl, hw1⟩
    obtain rfl : w = w1 := hw1.symm
    go_wp2_with fail
    go_ret2
    exact ⟨rfl, rfl⟩
  · have HG := hide hg
    cases hs : Nt.rowsB F
    · have HS := hide hs
      have e1 : Nt.askB W F = false := by simp [Nt.askB, hs]
      rw [e1] at hE
      rw [e1, hE]
      clear hg hs e1 hE
      go_enter Try.func22, Try.ntmps22
      go_wp2_with fail
      refine (gn_eq HN HW HG).mono ?_
      rintro e w1 ⟨rfl, hw1⟩
      obtain rfl : w = w1 := hw1.symm
      go_wp2_with fail
      refine (ahr_eq HM HA HS).mono ?_
      rintro e w1 ⟨rfl, hw1⟩
      obtain rfl : w = w1 := hw1.symm
      go_wp2_with fail
      go_ret2
      exact ⟨rfl, rfl⟩
    · have HS := hide hs
      by_cases hmn : m = n
      · subst hmn
        have e1 : Nt.askB W F = true := by simp [Nt.askB, hg, hs, HN.out, HM.out]
        rw [e1] at hE
        rw [e1, hE]
        have HWI := hide (iwi_any (c := c) (d := d) HN HM (hide (Nt.netB_rows hg)) HS HW HA)
        have HPO := hide (pon_any (d := d) HM HS HA)
        have hne : ((m : Int) != (m : Int)) = false := by simp
        clear hg hs e1 hE
        cases hwi : Nt.withB W F
        · rw [hwi] at HWI
          clear hwi
          go_enter Try.func22, Try.ntmps22
          go_wp2_with fail
          refine (gn_eq HN HW HG).mono ?_
          rintro e w1 ⟨rfl, hw1⟩
          obtain rfl : w = w1 := hw1.symm
          go_wp2_with fail
          refine (ahr_eq HM HA HS).mono ?_
          rintro e w1 ⟨rfl, hw1⟩
          obtain rfl : w = w1 := hw1.symm
          go_wp2_with fail
          refine HWI.out.mono ?_
          rintro e w1 ⟨rfl, hw1⟩
          obtain rfl : w = w1 := hw1.symm
          go_wp2_with fail
          go_ret2
          exact ⟨rfl, rfl⟩
        · rw [hwi] at HWI
          clear hwi
          generalize Nt.passB F = G at *
          go_enter Try.func22, Try.ntmps22
          go_wp2_with fail
          refine (gn_eq HN HW HG).mono ?_
          rintro e w1 ⟨rfl, hw1⟩
          obtain rfl : w = w1 := hw1.symm
          go_wp2_with fail
          refine (ahr_eq HM HA HS).mono ?_
          rintro e w1 ⟨rfl, hw1⟩
          obtain rfl : w = w1 := hw1.symm
          go_wp2_with fail
          refine HWI.out.mono ?_
          rintro e w1 ⟨rfl, hw1⟩
          obtain rfl : w = w1 := hw1.symm
          go_wp2_with fail
          refine HPO.out.mono ?_
          rintro e w1 ⟨rfl, hw1⟩
          obtain rfl : w = w1 := hw1.symm
          go_wp2_with fail
          go_ret2
          exact ⟨rfl, rfl⟩
      · have e1 : Nt.askB W F = false := by simp [Nt.askB, HN.out, HM.out, hmn]
        rw [e1] at hE
        rw [e1, hE]
        have hne : ((m : Int) != (n : Int)) = true := by simp; omega
        clear hg hs e1 hE
        go_enter Try.func22, Try.ntmps22
        go_wp2_with fail
        refine (gn_eq HN HW HG).mono ?_
        rintro e w1 ⟨rfl, hw1⟩
        obtain rfl : w = w1 := hw1.symm
        go_wp2_with fail
        refine (ahr_eq HM HA HS).mono ?_
        rintro e w1 ⟨rfl, hw1⟩
        obtain rfl : w = w1 := hw1.symm
        go_wp2_with fail
        go_ret2
        exact ⟨rfl, rfl⟩
set_option maxHeartbeats 4000000 in
theorem slf_yes {aw af : Option Addr} {n c d : Nat} {W F : List (List Int)} {w : World} (HN : Hid (W.length = n)) (HM : Hid (F.length = n)) (HR : Hid (Nt.rowsB W = true)) (HS : Hid (Nt.rowsB F = true)) (HW : Hid (CRow w aw W)) (HA : Hid (CRow w af F)) :
    Calls Try.prog 20 #[.slice aw n c, .slice af n d] w fun e w' => e = .returned (.bool (Nt.withB W F && Nt.passB F)) ∧ Below w.heap.size w w' := by
  have HNO : Hid (∀ {i k : Nat}, i < n → k < n → Nt.at2 W i k < Nt.at2 F i k → (Nt.withB W F && Nt.passB F) = false) := hide fun hi hk h => by rw [Nt.with_no (by rw [HN.out]; exact hi) (by rw [HN.out]; exact hk) h]; rfl
  have HNP : Hid (∀ {i : Nat}, 0 < i → i + 1 < n → Nt.outI F i ≠ 0 → (Nt.withB W F && Nt.passB F) = false) := hide fun h0 hi h => by rw [Nt.pass_no h0 (by rw [HM.out]; exact hi) h, Bool.and_false]
  have HYE : Hid ((∀ a k, a < n → k < n → Nt.at2 F a k ≤ Nt.at2 W a k) → (∀ a, 0 < a → a + 1 < n → Nt.outI F a = 0) → (Nt.withB W F && Nt.passB F) = true) := hide fun h1 h2 => by
    rw [(Nt.withB_iff (W := W) (F := F)).2 (by rw [HN.out]; exact h1), (Nt.passB_iff (F := F)).2 (by rw [HM.out]; exact h2)]; rfl
  generalize (Nt.withB W F && Nt.passB F) = G at *
  have h8 := Nt.rowsB_len HR.out
  rw [HN.out] at h8
  obtain ⟨h2, h8⟩ := h8
  have hnl : n ≤ 1048576 := by omega
  have hne : ((n : Int) != (n : Int)) = false := by simp
  go_enter Try.func20, Try.ntmps20
  go_wp2_with fail
  refine (slr_eq HM hnl HA HS).mono ?_
  rintro e w1 ⟨rfl, hw1⟩
  obtain rfl : w = w1 := hw1.symm
  go_wp2_with fail
  go_loopw [4, 5, 6, 7, 20] (fun s4 _ _ _ sk wr => ∃ (i : Nat), s4 = .bool false ∧ sk = .int .i64 i ∧ i ≤ n ∧ Hid (∀ a k, a < i → k < n → Nt.at2 F a k ≤ Nt.at2 W a k) ∧ Hid (∀ a, 0 < a → a < i → a + 1 < n → Nt.outI F a = 0) ∧ Hid (Below w.heap.size w wr)) (fun _ _ _ _ sk _ => n - (intOf sk).toNat)
  case atStart => exact ⟨0, rfl, rfl, Nat.zero_le _, hide fun a k ha => absurd ha (Nat.not_lt_zero _), hide fun a _ ha => absurd ha (Nat.not_lt_zero _), hide (Below.refl _ _)⟩
  case round =>
    obtain ⟨i, rfl, rfl, hi, HK, HP, HB⟩ := hrel
    by_cases hlt : i < n
    · have i0 : (0 : Int) ≤ (i : Int) := by omega
      have i1 : (i : Int) < (n : Int) := by omega
      go_wp2_with fail
      go_loopw [4, 6, 7, 25] (fun s4 s6 _ sk wq => ∃ (k : Nat) (x : Int), s4 = .bool false ∧ s6 = .int .i64 x ∧ sk = .int .i64 k ∧ k ≤ n ∧ Hid (∀ j, j < k → Nt.at2 F i j ≤ Nt.at2 W i j) ∧ Hid (x = sumTo (fun k => Nt.at2 F i k - Nt.at2 F k i) k) ∧ Hid (Below w.heap.size w wq)) (fun _ _ _ sk _ => n - (intOf sk).toNat)
      case atStart => exact ⟨0, 0, rfl, rfl, rfl, Nat.zero_le _, hide fun a ha => absurd ha (Nat.not_lt_zero _), hide rfl, HB⟩
      case round =>
        clear HB
        obtain ⟨k, x, rfl, rfl, rfl, hk, HJ, HX, HB⟩ := hrel
        by_cases hkn : k < n
        · obtain ⟨b1, o1, b2, o2, c2, rfl, r1, r2⟩ := crow_at2 (HW.out.below HB.out) HN.out HR.out hlt hkn
          obtain ⟨b3, o3, b4, o4, c4, rfl, r3, r4⟩ := crow_at2 (HA.out.below HB.out) HM.out HS.out hlt hkn
          obtain ⟨b5, o5, b6, o6, c6, e5, r5, r6⟩ := crow_at2 (HA.out.below HB.out) HM.out HS.out hkn hlt
          cases e5
          have k0 : (0 : Int) ≤ (k : Int) := by omega
          have k1 : (k : Int) < (n : Int) := by omega
          have hb1 := Nt.rowsB_bd HS.out (i := i) (k := k) (by rw [HM.out]; exact hlt) (by rw [HM.out]; exact hkn)
          have hb2 := Nt.rowsB_bd HS.out (i := k) (k := i) (by rw [HM.out]; exact hkn) (by rw [HM.out]; exact hlt)
          have hs := Nt.sumTo_bd (f := fun k => Nt.at2 F i k - Nt.at2 F k i) (lo := -50) (hi := 50) k fun j hj => by
            have h1 := Nt.rowsB_bd HS.out (i := i) (k := j) (by rw [HM.out]; exact hlt) (by rw [HM.out]; omega)
            have h2 := Nt.rowsB_bd HS.out (i := j) (k := i) (by rw [HM.out]; omega) (by rw [HM.out]; exact hlt)
            show -50 ≤ Nt.at2 F i j - Nt.at2 F j i ∧ Nt.at2 F i j - Nt.at2 F j i ≤ 50
            omega
          rw [← HX.out] at hs
          have HX1 : Hid (x + (Nt.at2 F i k - Nt.at2 F k i) = sumTo (fun k => Nt.at2 F i k - Nt.at2 F k i) (k + 1)) := hide (by rw [HX.out]; rfl)
          have HNK := hide (fun h => HNO.out hlt hkn h)
          have HYK : Hid (Nt.at2 F i k ≤ Nt.at2 W i k → ∀ j, j < k + 1 → Nt.at2 F i j ≤ Nt.at2 W i j) := hide fun h j hj => by
            by_cases e : j = k
            · subst e; exact h
            · exact HJ.out j (by omega)
          generalize Nt.at2 W i k = y at *
          generalize Nt.at2 F i k = z at *
          generalize Nt.at2 F k i = u at *
          have x0 : -1000 ≤ x := by omega
          have x1 : x ≤ 1000 := by omega
          obtain ⟨z0, z1⟩ := hb1
          obtain ⟨u0, u1⟩ := hb2
          clear hs HX
          by_cases hyz : y < z
          · have H1 := hide (HNK.out hyz)
            go_wp2_with fail
            go_quiet (fail)
            go_wp2_with fail
            go_ret
            exact ⟨ret_bool H1.out.symm, below_drewN HB.out _⟩
          · have H1 := hide (HYK.out (by omega))
            go_wp2_with fail
            go_quiet (fail)
            go_wp2_with fail
            go_quiet (fail)
            go_wp2_with fail
            go_roundw
            case rel => exact ⟨k + 1, x + (z - u), rfl, by go_num, by go_num, by omega, H1, HX1, hide (below_drewN HB.out _)⟩
            case measure => simp only [intOf]; omega
        · have hke : k = n := by omega
          subst hke
          have HO : Hid (x = Nt.outI F i) := hide (by rw [HX.out, Nt.outI, Fl.ex, HM.out])
          have HK2 : Hid (∀ a j, a < i + 1 → j < k → Nt.at2 F a j ≤ Nt.at2 W a j) := hide fun a j ha hj => by
            by_cases e : a = i
            · subst e; exact HJ.out j hj
            · exact HK.out a j (by omega) hj
          have HPI : Hid ((0 < i → i + 1 < k → x = 0) → ∀ a, 0 < a → a < i + 1 → a + 1 < k → Nt.outI F a = 0) := hide fun h a h0 h1 h2 => by
            by_cases e : a = i
            · subst e; rw [← HO.out]; exact h h0 h2
            · exact HP.out a h0 (by omega) h2
          have HNI : Hid (0 < i → i + 1 < k → x ≠ 0 → G = false) := hide fun h0 h1 hx => HNP.out h0 h1 (by rw [← HO.out]; exact hx)
          clear HX HJ HO
          by_cases h0 : 0 < i
          · have h0' : ¬ (i : Int) ≤ 0 := by omega
            have h0'' : (0 : Int) < (i : Int) := by omega
            by_cases h1 : i + 1 < k
            · have h1' : (i : Int) < (k : Int) - 1 := by omega
              by_cases hx : x = 0
              · have H1 := hide (HPI.out fun _ _ => hx)
                subst hx
                go_wp2_with fail
                go_roundw
                case rel => exact ⟨i + 1, rfl, by go_num, by omega, HK2, H1, HB⟩
                case measure => simp only [intOf]; omega
              · have H1 := hide (HNI.out h0 h1 hx)
                have hx' : (x != (0 : Int)) = true := by simpa using hx
                go_wp2_with fail
                go_ret
                exact ⟨ret_bool H1.out.symm, HB.out⟩
            · have h1' : ¬ (i : Int) < (k : Int) - 1 := by omega
              have H1 := hide (HPI.out fun _ h => absurd h h1)
              go_wp2_with fail
              go_roundw
              case rel => exact ⟨i + 1, rfl, by go_num, by omega, HK2, H1, HB⟩
              case measure => simp only [intOf]; omega
          · have hi0 : i = 0 := by omega
            subst hi0
            have H1 := hide (HPI.out fun h => absurd h (Nat.lt_irrefl _))
            go_wp2_with fail
            go_roundw
            case rel => exact ⟨1, rfl, by go_num, by omega, HK2, H1, HB⟩
            case measure => simp only [intOf]; omega
    · have hke : i = n := by omega
      subst hke
      have H1 := hide (HYE.out HK.out fun a h0 h1 => HP.out a h0 (by omega) h1)
      go_wp2_with fail
      go_ret
      exact ⟨ret_bool H1.out.symm, HB.out⟩
set_option maxHeartbeats 1000000 in
theorem slf_w {aw af : Option Addr} {n m c d : Nat} {W F : List (List Int)} {w : World} (HN : Hid (W.length = n)) (HM : Hid (F.length = m)) (hm : m ≤ 1048576) (HR : Hid (Nt.rowsB W = true)) (HW : Hid (CRow w aw W)) (HA : Hid (CRow w af F)) :
    Calls Try.prog 20 #[.slice aw n c, .slice af m d] w fun e w' => e = .returned (.bool (Nt.flowB W F)) ∧ Below w.heap.size w w' := by
  cases hs : Nt.rowsB F
  · have HS := hide hs
    have e1 : Nt.flowB W F = false := by simp [Nt.flowB, hs]
    rw [e1]
    clear hs e1
    go_enter Try.func20, Try.ntmps20
    go_wp2_with fail
    refine (slr_eq HM hm HA HS).mono ?_
    rintro e w1 ⟨rfl, hw1⟩
    obtain rfl : w = w1 := hw1.symm
    go_wp2_with fail
    go_ret
    exact ⟨rfl, Below.refl _ _⟩
  · have HS := hide hs
    by_cases hmn : m = n
    · subst hmn
      have e1 : Nt.flowB W F = (Nt.withB W F && Nt.passB F) := by simp [Nt.flowB, hs, HN.out, HM.out]
      rw [e1]
      exact slf_yes HN HM HR HS HW HA
    · have e1 : Nt.flowB W F = false := by simp [Nt.flowB, HN.out, HM.out, hmn]
      have hne : ((m : Int) != (n : Int)) = true := by simp; omega
      rw [e1]
      clear hs e1
      go_enter Try.func20, Try.ntmps20
      go_wp2_with fail
      refine (slr_eq HM hm HA HS).mono ?_
      rintro e w1 ⟨rfl, hw1⟩
      obtain rfl : w = w1 := hw1.symm
      go_wp2_with fail
      go_ret
      exact ⟨rfl, Below.refl _ _⟩
end Go.Proofs.Ytdpjkblondoimab
namespace Go.Proofs.Ytdpjkblondoimab
open Go.RowKit

theorem mem9 {α : Type} (l : List α) (d : α) {i : Nat} (h : i < l.length) : l.getD i d ∈ l := by rw [List.getD_eq_getElem?_getD, List.getElem?_eq_getElem h]; exact List.getElem_mem h
theorem add_plain9 (b o j : Nat) : (⟨b, o, none⟩ : Addr).add j = ⟨b, o + j, none⟩ := by unfold Addr.add; split <;> simp_all
/-- One value more behind an owned list, and where it lies then. -/
theorem push_9 {w : World} {base n e t bytes : Nat} {z x v : Value} {xs : List Value} (hu : Try.prog.underlying t = some (.slice e)) (hinf : ∃ i, Try.prog.info? e = some i ∧ i.zero = some z ∧ i.size = 1 ∧ i.bytes = bytes) (hz : z.cells.size = 1) (hx : x.oneCell' = true) (h24 : bytes ≤ 24) (hown : w.ownsRow base e 1 v n xs) (hn : n ≤ 100000) (hb : base ≤ w.heap.size) :
    ∃ g cap w', (∀ ty, (Builtin.append_ #[t, t] ty #[v, .slice (some ⟨w.heap.size, 0, none⟩) 1 1]).run Try.prog (w.alloc (.cells #[x] e)) = .ok (.slice (some ⟨g, 0, none⟩) (n + 1) cap) w') ∧ w'.ownsRow base e 1 (.slice (some ⟨g, 0, none⟩) (n + 1) cap) (n + 1) (xs ++ [x]) ∧ (w.alloc (.cells #[x] e)).grownBy w' v.ownBlock ∧ (v.ownBlock = some g ∨ g = w.heap.size + 1) := by
  obtain ⟨i0, hi, hz0, hz1, hz2⟩ := hinf
  have hby : (n + 1) * bytes ≤ 100001 * 24 := Nat.mul_le_mul (by omega) h24
  obtain ⟨g, cap, w', h1, h2, h3, h4, _⟩ := run_append_lies (P := Try.prog) (w := w.alloc (.cells #[x] e)) t 0 base e i0 _ 1 bytes hu hi hz0 hz1 hz2 hz (by decide) v n xs (hown.alloc _) ⟨w.heap.size, 0, none⟩ 1 1 [x] rfl (fun j u hj => by
      have hj2 : j = 0 := by
        have := (List.getElem?_eq_some_iff.1 hj).1
        simp at this; omega
      subst hj2
      rw [add_plain9]
      simp at hj; subst hj; simp) (fun u hu => by simp at hu; subst hu; exact hx) (by omega) (by unfold maxLen; omega) (by omega) (by simp; omega) _ rfl
  refine ⟨g, cap, w', fun _ => h1, h2, h3, ?_⟩
  rcases h4 with h4 | h4
  · exact Or.inl h4
  · exact Or.inr (by rw [h4]; simp)
theorem step_append_run9 {P : Program} {w : World} {ops : Array Oper} {o : Oper} {a : Act} {K : Act → World → Prop} {Q : Exit → Act → World → Prop} {E : Prop} (hgd : o.guard = none) (d s : Operand) (t t' : TypeId)
    (ho : o.op = .call { callee := .builtin .append, args := #[d, s], argTypes := #[t, t'] }) (vd vs : Value) (hd : a.eval d = vd) (hs : a.eval s = vs)
    (v' : Value) (w' : World) (hr : (Builtin.append_ #[t, t'] o.type #[vd, vs]).run P w = .ok v' w') (h : K (a.put o.dst v') w') :
    if Region.wanted o (yielded ops a.tmps) = true then Oper.wp P o a w K Q else E := by
  have hw : Region.wanted o (yielded ops a.tmps) = true := by simp [Region.wanted, hgd]
  rw [if_pos hw]
  unfold Oper.wp execOp
  simp only [ho, resolve, invoke, builtin, Sem.run_bind, Sem.run_pure, Result.andThen_ok, List.map_toArray, List.map_cons, List.map_nil, hd, hs, hr]
  exact h
end Go.Proofs.Ytdpjkblondoimab
namespace Go.Proofs.Ytdpjkblondoimab
open Go.RowKit

theorem infoI : ∃ i, Try.prog.info? 3 = some i ∧ i.zero = some (.int .i64 0) ∧ i.size = 1 ∧ i.bytes = 8 := by
  have h : (Try.prog.info? 3).map (fun i => (i.zero, i.size, i.bytes)) = some (some (.int .i64 0), 1, 8) := by kernel_rfl
  obtain ⟨i, hi, hzz⟩ := Option.map_eq_some_iff.1 h
  simp only [Prod.mk.injEq] at hzz
  exact ⟨i, hi, hzz.1, hzz.2.1, hzz.2.2⟩
/-- A slice of values of one cell each. -/
def VRow (w : World) (a : Option Addr) (vs : List Value) : Prop := vs = [] ∨ ∃ b off, a = some ⟨b, off, none⟩ ∧ b < w.heap.size ∧ ∀ j u, vs[j]? = some u → w.cell? ⟨b, off + j, none⟩ = some u
theorem VRow.below {w w' : World} {a : Option Addr} {vs : List Value} (h : VRow w a vs) (hb : Below w.heap.size w w') : VRow w' a vs := by
  rcases h with h | ⟨b, off, ha, hl, hc⟩
  · exact Or.inl h
  · exact Or.inr ⟨b, off, ha, Nat.lt_of_lt_of_le hl hb.size, fun j u hj => (hb.cell (p := ⟨b, off + j, none⟩) hl).trans (hc j u hj)⟩
theorem ARow.vrow {w : World} {a : Option Addr} {xs : List Int} (h : ARow w a xs) : VRow w a (ints xs) := by
  rcases h with h | ⟨b, off, ha, hl, hc⟩
  · exact Or.inl (by rw [h]; rfl)
  · refine Or.inr ⟨b, off, ha, hl, fun j u hj => ?_⟩
    have hjl : j < xs.length := by
      have := (List.getElem?_eq_some_iff.1 hj).1
      simpa [ints] using this
    rw [hc j hjl]
    rw [ints_get xs j hjl] at hj
    exact hj
theorem c_ints (xs : List Int) : ∀ u ∈ ints xs, u.oneCell' = true := by
  intro u hu
  simp only [ints, List.mem_map] at hu
  obtain ⟨x, _, rfl⟩ := hu; rfl
theorem add_plain' (b o j : Nat) : (⟨b, o, none⟩ : Addr).add j = ⟨b, o + j, none⟩ := by unfold Addr.add; split <;> simp_all
/-- Append of whatever list of values, onto an owned one. -/
theorem run_append_v {P : Program} (w : World) (base : Nat) (t ty e : TypeId) (i : TypeInfo) (z : Value) (bytes : Nat) (ht : P.underlying t = some (.slice e)) (hi : P.info? e = some i) (hz : i.zero = some z)
    (hsize : i.size = 1) (hby : i.bytes = bytes) (hzs : z.cells.size = 1) (v : Value) (n : Nat) (xs : List Value) (hown : w.ownsRow base e 1 v n xs)
    (a : Option Addr) (m c : Nat) (news : List Value) (hm : news.length = m) (hv : VRow w a news) (h1 : ∀ u ∈ news, u.oneCell' = true) (h63 : n + m ≤ maxLen) (hbytes : (n + m) * bytes ≤ 140737488355328) (hbase : base ≤ w.heap.size) :
    ∃ v' w', (Builtin.append_ #[t, t] ty #[v, .slice a m c]).run P w = .ok v' w' ∧ w'.ownsRow base e 1 v' (n + m) (xs ++ news) ∧ w.grownBy w' v.ownBlock := by
  cases a with
  | none =>
    have hn : news = [] := by
      rcases hv with h | ⟨b, off, h, _⟩
      · exact h
      · cases h
    subst hn
    have : m = 0 := by simpa using hm.symm
    subst this
    refine ⟨v, w, ?_, by simpa using hown, World.grownBy.refl _ _⟩
    rcases hown.2 with ⟨rfl, rfl⟩ | ⟨g, cap, cur, rfl, _, _, hnc, _⟩
    · simp [Builtin.append_, run_underlying ht, sizeOf, typeInfo, hi, Builtin.lenOf, Builtin.firstCells]
    · simp [Builtin.append_, run_underlying ht, sizeOf, typeInfo, hi, Builtin.lenOf, Builtin.firstCells, hnc, storeCells]
  | some ad =>
    obtain ⟨v', w', hr, h2, h3, _⟩ := run_append_own (P := P) w base t ty e i z 1 bytes ht hi hz hsize hby hzs (by decide) v n xs hown ad m c news (by omega) (fun j u hj => by
      rcases hv with h | ⟨b, off, h, _, hc⟩
      · rw [h] at hj; simp at hj
      · cases h; rw [add_plain']; exact hc j u hj) h1 h63 hbytes hbase
    exact ⟨v', w', hr, h2, h3⟩
theorem grown_under' {w w' : World} {base e s n k : Nat} {v : Value} {xs : List Value} (hg : w.grownBy w' v.ownBlock) (h : w.ownsRow base e s v n xs) (hk : k ≤ base) (hs : k ≤ w.heap.size) : Below k w w' :=
  ⟨hg.os, hg.tape, hg.output, hg.size, fun b hb => hg.block b (by omega) (fun he => by have := h.lt b he.symm; omega)⟩
theorem vrow_new (w : World) (u : Value) (e : TypeId) : VRow (w.alloc (.cells #[u] e)) (some ⟨w.heap.size, 0, none⟩) [u] := by
  refine Or.inr ⟨w.heap.size, 0, rfl, by simp, fun j x hj => ?_⟩
  have : j = 0 := by
    have := (List.getElem?_eq_some_iff.1 hj).1
    simpa using this
  subst this
  have : x = u := by simpa using hj.symm
  subst this
  simp
/-- One value more behind an owned list of ints. -/
theorem push_int {w : World} {base n : Nat} {v : Value} {xs : List Value} {x : Int} (hown : w.ownsRow base 3 1 v n xs) (hn : n ≤ 100000) (hb : base ≤ w.heap.size) :
    ∃ v' w', (∀ ty, (Builtin.append_ #[24, 24] ty #[v, .slice (some ⟨w.heap.size, 0, none⟩) 1 1]).run Try.prog (w.alloc (.cells #[.int .i64 x] 3)) = .ok v' w') ∧ w'.ownsRow base 3 1 v' (n + 1) (xs ++ [.int .i64 x]) ∧ w.grownBy w' v.ownBlock := by
  obtain ⟨i0, hi, hz0, hz1, hz2⟩ := infoI
  obtain ⟨v', w', h1, h2, h3⟩ := run_append_v (P := Try.prog) (w.alloc (.cells #[.int .i64 x] 3)) base 24 0 3 i0 _ 8 Try.underlying24 hi hz0 hz1 hz2 rfl v n xs (hown.alloc _) (some ⟨w.heap.size, 0, none⟩) 1 1 [.int .i64 x] rfl (vrow_new w _ 3) (fun u hu => by simp at hu; subst hu; rfl) (by unfold maxLen; omega) (by omega) (by simp; omega)
  refine ⟨v', w', fun _ => h1, h2, ?_⟩
  have hg := World.grownBy_alloc w (.cells #[.int .i64 x] 3) v.ownBlock
  exact ⟨h3.os.trans hg.os, h3.tape.trans hg.tape, h3.output.trans hg.output, Nat.le_trans hg.size h3.size, fun b hb hne => (h3.block b (Nat.lt_of_lt_of_le hb hg.size) hne).trans (hg.block b hb hne)⟩
/-- An owned list is nothing, or lies somewhere. -/
theorem own_form {w : World} {base e s n : Nat} {v : Value} {xs : List Value} (h : w.ownsRow base e s v n xs) : ∃ a c, v = .slice a n c := by
  rcases h.2 with ⟨rfl, rfl⟩ | ⟨g, cap, cur, rfl, _⟩
  · exact ⟨none, 0, rfl⟩
  · exact ⟨_, _, rfl⟩
end Go.Proofs.Ytdpjkblondoimab
namespace Go.Proofs.Ytdpjkblondoimab
open Go.RowKit

theorem own_form2 {w : World} {base e s n : Nat} {v : Value} {xs : List Value} (h : w.ownsRow base e s v n xs) : ∃ a cap, v = .slice a n cap := by
  rcases h.2 with ⟨rfl, hn⟩ | ⟨g, cap, cur, rfl, _⟩
  · exact ⟨none, 0, by rw [hn]⟩
  · exact ⟨_, _, rfl⟩
theorem own_keep2 {w w' : World} {base e s n : Nat} {v : Value} {xs : List Value} (h : w.ownsRow base e s v n xs) (hb : ∀ g, v.ownBlock = some g → g < w.heap.size → w'.heap[g]? = w.heap[g]?) : w'.ownsRow base e s v n xs := by
  rcases h with ⟨h0, h | ⟨g', cap, cur, rfl, h2, h3, h4⟩⟩
  · exact ⟨h0, Or.inl h⟩
  · exact ⟨h0, Or.inr ⟨g', cap, cur, rfl, h2, (hb g' rfl (Array.getElem?_eq_some_iff.1 h3).1).trans h3, h4⟩⟩
theorem own_below2 {w w' : World} {base e s n : Nat} {v : Value} {xs : List Value} (h : w.ownsRow base e s v n xs) (hb : Below w.heap.size w w') : w'.ownsRow base e s v n xs := own_keep2 h fun _ _ hl => hb.block _ hl
theorem own_low2 {w : World} {base base' e s n : Nat} {v : Value} {xs : List Value} (h : w.ownsRow base e s v n xs) (hb : base' ≤ base) : w.ownsRow base' e s v n xs := by
  rcases h with ⟨h0, h | ⟨g, cap, cur, h1, h2, h3⟩⟩
  · exact ⟨h0, Or.inl h⟩
  · exact ⟨h0, Or.inr ⟨g, cap, cur, h1, Nat.le_trans hb h2, h3⟩⟩
theorem infoS : ∃ i, Try.prog.info? 24 = some i ∧ i.zero = some (.slice none 0 0) ∧ i.size = 1 ∧ i.bytes = 24 := by
  have h : (Try.prog.info? 24).map (fun i => (i.zero, i.size, i.bytes)) = some (some (.slice none 0 0), 1, 24) := by kernel_rfl
  obtain ⟨i, hi, hzz⟩ := Option.map_eq_some_iff.1 h
  simp only [Prod.mk.injEq] at hzz
  exact ⟨i, hi, hzz.1, hzz.2.1, hzz.2.2⟩
def nilS : Value := .slice none 0 0
def LL {α : Type} (W : World) (base T E s : Nat) (enc : List α → List Value) (v : Value) (us : List Value) (R : List (List α)) : Prop :=
  W.ownsRow base T 1 v R.length us ∧ (∀ i, i < R.length → W.ownsRow base E s (us.getD i nilS) (R.getD i []).length (enc (R.getD i []))) ∧
  (∀ i g, i < R.length → (us.getD i nilS).ownBlock = some g → v.ownBlock ≠ some g) ∧
  (∀ i j g, i < R.length → j < R.length → i ≠ j → (us.getD i nilS).ownBlock = some g → (us.getD j nilS).ownBlock ≠ some g)
theorem LL.len {α : Type} {W : World} {base T E s : Nat} {enc : List α → List Value} {v : Value} {us : List Value} {R : List (List α)} (h : LL W base T E s enc v us R) : us.length = R.length := by
  have := h.1.1; omega
theorem LL.nil {α : Type} (W : World) (base T E s : Nat) (enc : List α → List Value) : LL W base T E s enc nilS [] ([] : List (List α)) :=
  ⟨World.ownsRow_nil _ _ _ _, fun _ hi => absurd hi (Nat.not_lt_zero _), fun _ _ hi => absurd hi (Nat.not_lt_zero _), fun _ _ _ hi => absurd hi (Nat.not_lt_zero _)⟩
theorem LL.keep {α : Type} {W W' : World} {base T E s : Nat} {enc : List α → List Value} {v : Value} {us : List Value} {R : List (List α)} (h : LL W base T E s enc v us R) (hb : ∀ g, base ≤ g → g < W.heap.size → W'.heap[g]? = W.heap[g]?) : LL W' base T E s enc v us R :=
  ⟨own_keep2 h.1 fun g hv hl => hb g (h.1.lt g hv).1 hl, fun i hi => own_keep2 (h.2.1 i hi) fun g hv hl => hb g ((h.2.1 i hi).lt g hv).1 hl, h.2.2⟩
theorem LL.below {α : Type} {W W' : World} {base T E s : Nat} {enc : List α → List Value} {v : Value} {us : List Value} {R : List (List α)} (h : LL W base T E s enc v us R) (hb : Below W.heap.size W W') : LL W' base T E s enc v us R := h.keep fun g _ hl => hb.block g hl
theorem LL.form {α : Type} {W : World} {base T E s : Nat} {enc : List α → List Value} {v : Value} {us : List Value} {R : List (List α)} (h : LL W base T E s enc v us R) : ∃ a c, v = .slice a R.length c := own_form2 h.1
theorem LL.cell {α : Type} {W : World} {base T E s G cap : Nat} {enc : List α → List Value} {us : List Value} {R : List (List α)} (h : LL W base T E s enc (.slice (some ⟨G, 0, none⟩) R.length cap) us R) {i : Nat} (hi : i < R.length) : W.cell? ⟨G, i, none⟩ = some (us.getD i nilS) := by
  have hl := h.len
  rw [h.1.cellAt i (by omega), List.getD_eq_getElem?_getD, List.getElem?_eq_getElem (by omega)]; rfl
theorem getD_set' {α : Type} {l : List α} {i b : Nat} {x d : α} (hi : i < l.length) : (l.set i x).getD b d = if b = i then x else l.getD b d := by
  by_cases e : b = i
  · subst e; simp [hi]
  · rw [if_neg e]; simp [Ne.symm e]
theorem getD_snoc {α : Type} {l : List α} {b : Nat} {x d : α} (hb : b < l.length + 1) : (l ++ [x]).getD b d = if b = l.length then x else l.getD b d := by
  by_cases e : b = l.length
  · subst e; simp
  · rw [if_neg e]; simp [List.getElem?_append_left (show b < l.length by omega)]
/-- A row in place i is another one now. -/
theorem LL.put {α : Type} {W W' : World} {base T E s G cap i : Nat} {enc : List α → List Value} {us : List Value} {R : List (List α)} {u' : Value} {r' : List α} (h : LL W base T E s enc (.slice (some ⟨G, 0, none⟩) R.length cap) us R) (hi : i < R.length)
    (hB : ∀ b, b < W.heap.size → some b ≠ (us.getD i nilS).ownBlock → W'.heap[b]? = W.heap[b]?) (_hs : W.heap.size ≤ W'.heap.size) (hu : W'.ownsRow base E s u' r'.length (enc r')) (hf : ∀ g, u'.ownBlock = some g → (us.getD i nilS).ownBlock = some g ∨ W.heap.size ≤ g) :
    LL (W'.setCell ⟨G, i, none⟩ u') base T E s enc (.slice (some ⟨G, 0, none⟩) R.length cap) (us.set i u') (R.set i r') := by
  have hl := h.len
  have hG : G < W.heap.size := (h.1.lt G rfl).2
  have hGi : ∀ j, j < R.length → (us.getD j nilS).ownBlock ≠ some G := fun j hj e => h.2.2.1 j G hj e rfl
  have hG' : W'.ownsRow base T 1 (.slice (some ⟨G, 0, none⟩) R.length cap) R.length us := own_keep2 h.1 fun g hv hl' => hB g hl' (fun e => by
    obtain rfl : G = g := by simpa [Value.ownBlock] using hv
    exact hGi i hi e.symm)
  have huG : u'.ownBlock ≠ some G := fun e => by
    rcases hf G e with e' | e'
    · exact hGi i hi e'
    · omega
  have far : ∀ g, g ≠ G → (W'.setCell ⟨G, i, none⟩ u').heap[g]? = W'.heap[g]? := fun g hg => Below.heap_setCell W' ⟨G, i, none⟩ u' g hg
  refine ⟨by rw [List.length_set]; exact (hG'.stored i u').1, fun j hj => ?_, fun j g hj he => ?_, fun j k g hj hk hne he => ?_⟩
  · rw [List.length_set] at hj
    rw [getD_set' (by omega), getD_set' hi]
    by_cases e : j = i
    · rw [if_pos e, if_pos e]
      exact own_keep2 hu fun g hv _ => far g (fun e' => huG (e' ▸ hv))
    · rw [if_neg e, if_neg e]
      refine own_keep2 (own_keep2 (h.2.1 j hj) fun g hv hl' => hB g hl' (fun e' => h.2.2.2 j i g hj hi e hv e'.symm)) fun g hv _ => far g (fun e' => hGi j hj (e' ▸ hv))
  · rw [List.length_set] at hj
    rw [getD_set' (by omega)] at he
    intro e2
    obtain rfl : G = g := by simpa [Value.ownBlock] using e2
    by_cases e : j = i
    · rw [if_pos e] at he; exact huG he
    · rw [if_neg e] at he; exact hGi j hj he
  · rw [List.length_set] at hj hk
    rw [getD_set' (by omega)] at he ⊢
    by_cases e1 : j = i
    · subst e1
      rw [if_pos rfl] at he
      rw [if_neg (Ne.symm hne)]
      intro e2
      rcases hf g he with e' | e'
      · exact h.2.2.2 j k g hj hk hne e' e2
      · have := ((h.2.1 k hk).lt g e2).2; omega
    · rw [if_neg e1] at he
      by_cases e2 : k = i
      · subst e2
        rw [if_pos rfl]
        intro e3
        rcases hf g e3 with e' | e'
        · exact h.2.2.2 j k g hj hk hne he e'
        · have := ((h.2.1 j hj).lt g he).2; omega
      · rw [if_neg e2]; exact h.2.2.2 j k g hj hk hne he
/-- One row more. -/
theorem LL.snoc {α : Type} {W W' : World} {base T E s : Nat} {enc : List α → List Value} {v v' : Value} {us : List Value} {R : List (List α)} {u : Value} {r : List α} (h : LL W base T E s enc v us R)
    (hv : W'.ownsRow base T 1 v' (R.length + 1) (us ++ [u])) (hB : ∀ b, b < W.heap.size → some b ≠ v.ownBlock → W'.heap[b]? = W.heap[b]?) (hf : ∀ g, v'.ownBlock = some g → v.ownBlock = some g ∨ W.heap.size ≤ g)
    (hu : W'.ownsRow base E s u r.length (enc r)) (huf : ∀ g, u.ownBlock = some g → W.heap.size ≤ g ∧ v'.ownBlock ≠ some g) :
    LL W' base T E s enc v' (us ++ [u]) (R ++ [r]) := by
  have hl := h.len
  refine ⟨by rw [List.length_append]; exact hv, fun j hj => ?_, fun j g hj he => ?_, fun j k g hj hk hne he => ?_⟩
  · rw [List.length_append] at hj
    simp only [List.length_cons, List.length_nil] at hj
    rw [getD_snoc (by omega), getD_snoc hj, hl]
    by_cases e : j = R.length
    · rw [if_pos e, if_pos e]; exact hu
    · rw [if_neg e, if_neg e]
      exact own_keep2 (h.2.1 j (by omega)) fun g hv' hl' => hB g hl' (fun e' => h.2.2.1 j g (by omega) hv' e'.symm)
  · rw [List.length_append] at hj
    simp only [List.length_cons, List.length_nil] at hj
    rw [getD_snoc (by omega), hl] at he
    intro e2
    by_cases e : j = R.length
    · rw [if_pos e] at he; exact (huf g he).2 e2
    · rw [if_neg e] at he
      rcases hf g e2 with e' | e'
      · exact h.2.2.1 j g (by omega) he e'
      · have := ((h.2.1 j (by omega)).lt g he).2; omega
  · rw [List.length_append] at hj hk
    simp only [List.length_cons, List.length_nil] at hj hk
    rw [getD_snoc (by omega), hl] at he ⊢
    by_cases e1 : j = R.length
    · rw [if_pos e1] at he
      rw [if_neg (by omega)]
      intro e2
      have h1 := (huf g he).1
      have h2 := ((h.2.1 k (by omega)).lt g e2).2
      omega
    · rw [if_neg e1] at he
      by_cases e2 : k = R.length
      · rw [if_pos e2]
        intro e3
        have h1 := (huf g e3).1
        have h2 := ((h.2.1 j (by omega)).lt g he).2
        omega
      · rw [if_neg e2]; exact h.2.2.2 j k g (by omega) (by omega) hne he
/-- Lists of ints can be read. -/
theorem LL.crow {W : World} {base T E : Nat} {a : Option Addr} {c : Nat} {us : List Value} {R : List (List Int)} (h : LL W base T E 1 ints (.slice a R.length c) us R) : CRow W a R := by
  rcases h.1.2 with ⟨hv, hn⟩ | ⟨g, cap, cur, hv, _, hg, _⟩
  · exact Or.inl (List.length_eq_zero_iff.1 hn)
  · cases hv
    refine Or.inr ⟨g, 0, rfl, (Array.getElem?_eq_some_iff.1 hg).1, fun i hi => ?_⟩
    have ho := h.2.1 i hi
    have hc := h.cell hi
    rw [Nat.zero_add, hc]
    rcases ho.2 with ⟨hv, hn⟩ | ⟨g', cap', cur', hv, _⟩
    · exact ⟨none, 0, by rw [hv, hn], Or.inl (List.length_eq_zero_iff.1 hn)⟩
    · refine ⟨some ⟨g', 0, none⟩, cap', by rw [hv], ?_⟩
      rw [hv] at ho
      exact arow_owns rfl ho
theorem LL.keep2 {α : Type} {W W' : World} {base T E s : Nat} {enc : List α → List Value} {v : Value} {us : List Value} {R : List (List α)} (h : LL W base T E s enc v us R) (hb : ∀ g, g < W.heap.size → (v.ownBlock = some g ∨ ∃ i, i < R.length ∧ (us.getD i nilS).ownBlock = some g) → W'.heap[g]? = W.heap[g]?) : LL W' base T E s enc v us R :=
  ⟨own_keep2 h.1 fun g hv hl => hb g hl (Or.inl hv), fun i hi => own_keep2 (h.2.1 i hi) fun g hv hl => hb g hl (Or.inr ⟨i, hi, hv⟩), h.2.2⟩
/-- A list more, which lies behind all. -/
theorem LL.pushRow {W V : World} {base : Nat} {v : Value} {us : List Value} {R : List (List Int)} {r : List Int} {u : Value} (h : LL W base 24 3 1 ints v us R) (hV : Below W.heap.size W V) (hu : V.ownsRow W.heap.size 3 1 u r.length (ints r)) (hu1 : u.oneCell' = true) (hn : R.length ≤ 1000) (hb : base ≤ W.heap.size) :
    ∃ G cap w1, (∀ ty, (Builtin.append_ #[22, 22] ty #[v, .slice (some ⟨V.heap.size, 0, none⟩) 1 1]).run Try.prog (V.alloc (.cells #[u] 24)) = .ok (.slice (some ⟨G, 0, none⟩) (R.length + 1) cap) w1) ∧
      LL w1 base 24 3 1 ints (.slice (some ⟨G, 0, none⟩) (R.length + 1) cap) (us ++ [u]) (R ++ [r]) ∧ Below base W w1 := by
  have hv := own_below2 h.1 hV
  obtain ⟨G, cap, w1, r1, o1, g1, f1⟩ := push_9 (x := u) Try.underlying22 infoS rfl hu1 (by omega) hv (by omega) (Nat.le_trans hb hV.size)
  have k1 : ∀ b, b < V.heap.size → some b ≠ v.ownBlock → w1.heap[b]? = V.heap[b]? := fun b hb' hne => (g1.block b (by simp; omega) hne).trans ((below_new V _).block b hb')
  have z1 : V.heap.size ≤ w1.heap.size := Nat.le_trans (by simp) g1.size
  have z0 := hV.size
  have hG : (Value.slice (some ⟨G, 0, none⟩) (R.length + 1) cap).ownBlock = some G := rfl
  refine ⟨G, cap, w1, r1, h.snoc o1 (fun b hb' hne => (k1 b (by omega) hne).trans (hV.block b hb')) (fun g e => ?_) (own_low2 (own_keep2 hu fun g hv' hl => k1 g hl (fun e => ?_)) hb) (fun g e => ⟨(hu.lt g e).1, fun e2 => ?_⟩), ?_⟩
  · rw [hG] at e; cases e
    rcases f1 with f1 | f1
    · exact Or.inl f1
    · exact Or.inr (by omega)
  · have h1 := (hu.lt g hv').1
    have h2 := (h.1.lt g e.symm).2
    omega
  · rw [hG] at e2; cases e2
    have h1 := hu.lt G e
    rcases f1 with f1 | f1
    · have := (h.1.lt G f1).2; omega
    · omega
  · exact ⟨g1.os.trans hV.os, g1.tape.trans hV.tape, g1.output.trans hV.output, by omega, fun b hb' => (k1 b (by omega) (fun e => by have := (hv.lt b e.symm).1; omega)).trans (hV.block b (by omega))⟩
/-- One number in row i is another one now. -/
theorem LL.write {W : World} {base T i k : Nat} {v : Value} {us : List Value} {R : List (List Int)} {x : Int} (h : LL W base T 3 1 ints v us R) (hi : i < R.length) (hk : k < (R.getD i []).length) :
    ∃ g c, us.getD i nilS = .slice (some ⟨g, 0, none⟩) (R.getD i []).length c ∧ W.cell? ⟨g, k, none⟩ = some (.int .i64 ((R.getD i []).getD k 0)) ∧ W.frozen? ⟨g, k, none⟩ = false ∧ base ≤ g ∧ g < W.heap.size ∧
      LL (W.setCell ⟨g, k, none⟩ (.int .i64 x)) base T 3 1 ints v us (R.set i ((R.getD i []).set k x)) := by
  have ho := h.2.1 i hi
  have hl := h.len
  obtain ⟨g, c, e, _, _⟩ := ho.form (by omega)
  rw [e] at ho
  have hgi : (us.getD i nilS).ownBlock = some g := by rw [e]; rfl
  obtain ⟨st1, st2⟩ := ho.stored k (.int .i64 x)
  rw [ints_set] at st1
  have far : ∀ b, b ≠ g → (W.setCell ⟨g, k, none⟩ (.int .i64 x)).heap[b]? = W.heap[b]? := fun b hb => Below.heap_setCell W ⟨g, k, none⟩ _ b hb
  refine ⟨g, c, e, ?_, ho.frozenAt k, (ho.lt g rfl).1, (ho.lt g rfl).2, ⟨?_, fun j hj => ?_, fun j b hj he => h.2.2.1 j b (by rwa [List.length_set] at hj) he, fun j l b hj hl' hne he => h.2.2.2 j l b (by rwa [List.length_set] at hj) (by rwa [List.length_set] at hl') hne he⟩⟩
  · rw [ho.cellAt k (by omega), ints_get _ k hk]
  · rw [List.length_set]
    exact own_keep2 h.1 fun b hv _ => far b (fun e' => h.2.2.1 i g hi hgi (e' ▸ hv))
  · rw [List.length_set] at hj
    rw [getD_set' hi]
    by_cases e' : j = i
    · subst e'
      rw [if_pos rfl, List.length_set, e]
      exact st1
    · rw [if_neg e']
      exact own_keep2 (h.2.1 j hj) fun b hv _ => far b (fun e2 => h.2.2.2 j i g hj hi e' (e2 ▸ hv) hgi)
theorem LL.low {W : World} {base base' T : Nat} {v : Value} {us : List Value} {R : List (List Int)} (h : LL W base T 3 1 ints v us R) (hb : base' ≤ base) : LL W base' T 3 1 ints v us R :=
  ⟨own_low2 h.1 hb, fun i hi => own_low2 (h.2.1 i hi) hb, h.2.2⟩
/-- One number, in memory. -/
theorem LL.at2 {W : World} {base T i k n cap G : Nat} {us : List Value} {R : List (List Int)} (h : LL W base T 3 1 ints (.slice (some ⟨G, 0, none⟩) n cap) us R) (hn : R.length = n) (hi : i < n) (hk : k < (R.getD i []).length) :
    ∃ g c, W.cell? ⟨G, i, none⟩ = some (.slice (some ⟨g, 0, none⟩) (R.getD i []).length c) ∧ us.getD i nilS = .slice (some ⟨g, 0, none⟩) (R.getD i []).length c ∧ W.cell? ⟨g, k, none⟩ = some (.int .i64 ((R.getD i []).getD k 0)) := by
  subst hn
  obtain ⟨g, c, e, h1, _⟩ := h.write (x := 0) hi hk
  exact ⟨g, c, by rw [← e]; exact h.cell hi, e, h1⟩
end Go.Proofs.Ytdpjkblondoimab
namespace Go.Proofs.Ytdpjkblondoimab
open Go.RowKit

set_option maxHeartbeats 2000000 in
theorem slm_q {aw af : Option Addr} {n c d i k : Nat} {W F : List (List Int)} {w : World} (HN : Hid (W.length = n)) (hi : i < n) (hk : k < n) (HF : Hid (Nt.NF W F)) (HW : Hid (CRow w aw W)) (HA : Hid (CRow w af F)) :
    Calls Try.prog 26 #[.slice aw n c, .slice af n d, .int .i64 (i : Int), .int .i64 (k : Int)] w fun e w' => e = .returned (.int .i64 (Nt.roomAt W F i k)) ∧ ∃ q, w' = w.drewN q := by
  have hFn : F.length = n := HF.out.len.trans HN.out
  obtain ⟨b, off, b', off', ci, rfl, r1, r2⟩ := crow_at2 HW.out HN.out (Nt.netB_rows HF.out.net) hi hk
  obtain ⟨b1, off1, b2, off2, ci2, rfl, r3, r4⟩ := crow_at2 HA.out hFn HF.out.rows hi hk
  obtain ⟨b5, off5, b3, off3, ci3, e5, r5, r6⟩ := crow_at2 HA.out hFn HF.out.rows hk hi
  cases e5
  have h1 := Nt.rowsB_bd (Nt.netB_rows HF.out.net) (i := i) (k := k) (by rw [HN.out]; exact hi) (by rw [HN.out]; exact hk)
  have h2 := Nt.rowsB_bd HF.out.rows (i := i) (k := k) (by omega) (by omega)
  have h3 := Nt.rowsB_bd HF.out.rows (i := k) (k := i) (by omega) (by omega)
  unfold Nt.roomAt
  generalize Nt.at2 W i k = x at *
  generalize Nt.at2 F i k = y at *
  generalize Nt.at2 F k i = z at *
  obtain ⟨x0, x1⟩ := h1
  obtain ⟨y0, y1⟩ := h2
  obtain ⟨z0, z1⟩ := h3
  have i0 : (0 : Int) ≤ (i : Int) := by omega
  have i1 : (i : Int) < (n : Int) := by omega
  have k0 : (0 : Int) ≤ (k : Int) := by omega
  have k1 : (k : Int) < (n : Int) := by omega
  clear HN HF HW HA hFn
  go_enter Try.func26, Try.ntmps26
  go_wp2_with fail
  go_quiet (fail)
  go_wp2_with fail
  go_ret
  exact ⟨ret_int (by go_num), _, rfl⟩
theorem slm_any {aw af : Option Addr} {n c d i k : Nat} {W F : List (List Int)} {w : World} (HN : Hid (W.length = n)) (hi : i < n) (hk : k < n) (HF : Hid (Nt.NF W F)) (HW : Hid (CRow w aw W)) (HA : Hid (CRow w af F)) :
    Calls Try.prog 26 #[.slice aw n c, .slice af n d, .int .i64 (i : Int), .int .i64 (k : Int)] w fun e w' => e = .returned (.int .i64 (Nt.roomAt W F i k)) ∧ Below w.heap.size w w' :=
  (slm_q HN hi hk HF HW HA).mono fun _ _ ⟨h1, _, h2⟩ => ⟨h1, h2 ▸ below_drewN (Below.refl _ _) _⟩
theorem set_snoc {α : Type} (l : List α) (z y : α) {k : Nat} (hk : l.length = k) : (l ++ [z]).set k y = l ++ [y] := by subst hk; simp
theorem getD_end {α : Type} (l : List α) (z d : α) {k : Nat} (hk : l.length = k) : (l ++ [z]).getD k d = z := by subst hk; simp
set_option maxRecDepth 100000 in
set_option maxHeartbeats 8000000 in
theorem ro13_any {aw af : Option Addr} {n c d : Nat} {W F : List (List Int)} {w : World} (HN : Hid (W.length = n)) (HF : Hid (Nt.NF W F)) (HW : Hid (CRow w aw W)) (HA : Hid (CRow w af F)) :
    Calls Try.prog 24 #[.slice aw n c, .slice af n d] w fun e w' => ∃ v us, e = .returned v ∧ LL w' w.heap.size 24 3 1 ints v us (Nt.rooms W F) ∧ Below w.heap.size w w' := by
  have hFn : Hid (F.length = n) := hide (HF.out.len.trans HN.out)
  have HRW := hide (Nt.netB_rows HF.out.net)
  have h8 := Nt.rowsB_len HRW.out
  rw [HN.out] at h8
  obtain ⟨h2, h8⟩ := h8
  have hmk := makeI_run n (by omega)
  have HLR : Hid ((Nt.rooms W F).length = n) := hide ((Nt.rooms_len W F).trans HN.out)
  go_enter Try.func24, Try.ntmps24
  go_wp2_with fail
  go_loopw [5, 6, 7, 8, 9, 12] (fun s5 _ _ _ _ sk wr => ∃ (k : Nat) (us : List Value), sk = .int .i64 k ∧ k ≤ n ∧ Hid (LL wr w.heap.size 24 3 1 ints s5 us ((Nt.rooms W F).take k)) ∧ Hid (Below w.heap.size w wr)) (fun _ _ _ _ _ sk _ => n - (intOf sk).toNat)
  case atStart => exact ⟨0, [], rfl, Nat.zero_le _, hide (LL.nil _ _ _ _ _ _), hide (Below.refl _ _)⟩
  case round =>
    obtain ⟨k, us, rfl, hk, HL, HB⟩ := hrel
    by_cases hlt : k < n
    · obtain ⟨b, off, ai, ci, rfl, hb, q1, Q1⟩ := HW.out.at (i := k) (by rw [HN.out]; exact hlt)
      rw [Nt.rowsB_row HRW.out (i := k) (by rw [HN.out]; exact hlt), HN.out] at q1
      have r1 := (HB.out.cell (p := ⟨b, off + k, none⟩) hb).trans q1
      have HQ1 := hide Q1
      have j0 : (0 : Int) ≤ (k : Int) := by omega
      have j1 : (k : Int) < (n : Int) := by omega
      have hkl : ((Nt.rooms W F).take k).length = k := by rw [List.length_take, HLR.out]; omega
      obtain ⟨av, cv, ev⟩ := HL.out.form
      rw [hkl] at ev
      subst ev
      obtain ⟨G, cap, w1, p1, L1, B1⟩ := HL.out.pushRow (V := wr.alloc (.cells (madeCells #[.int .i64 0] n) 3)) (u := .slice (some ⟨wr.heap.size, 0, none⟩) n n) (r := List.replicate n 0) (below_new _ _) (by rw [List.length_replicate]; exact made_own wr n (by omega)) rfl (by rw [hkl]; omega) HB.out.size
      rw [hkl] at p1 L1
      rw [World.size_alloc] at p1
      generalize us ++ [Value.slice (some ⟨wr.heap.size, 0, none⟩) n n] = us2 at L1
      have HL1 := hide L1
      have HB1 := hide (HB.out.trans (B1.mono (Nat.le_refl _)))
      have HKL := hide hkl
      clear Q1 q1 L1 B1 HL hkl
      go_wp2_with (first | (at_builtin; refine Lib.wpList_append_run _ rfl (.tmp 17) (.tmp 21) 22 22 rfl _ _ rfl rfl _ _ (p1 _) ?_))
      clear p1 hmk HB r1
      go_loopw [8, 9, 25] (fun _ _ sj wq => ∃ (j : Nat) (zs : List Int), sj = .int .i64 j ∧ j ≤ n ∧ zs.length = n ∧ Hid (zs.take j = (Nt.roomR W F k).take j) ∧ Hid (LL wq w.heap.size 24 3 1 ints (.slice (some ⟨G, 0, none⟩) (k + 1) cap) us2 ((Nt.rooms W F).take k ++ [zs])) ∧ Hid (Below w.heap.size w wq)) (fun _ _ sj _ => n - (intOf sj).toNat)
      case atStart => exact ⟨0, List.replicate n 0, rfl, Nat.zero_le _, by simp, hide (by simp), HL1, HB1⟩
      case round =>
        clear HL1 HB1
        obtain ⟨j, zs, rfl, hj, hzl, HT, HL, HB⟩ := hrel
        by_cases hjn : j < n
        · have hR : ((Nt.rooms W F).take k ++ [zs]).length = k + 1 := by rw [List.length_append, HKL.out]; rfl
          have hrow := getD_end ((Nt.rooms W F).take k) zs [] HKL.out
          obtain ⟨g, cg, e1, r1, r2, hg0, hg1, L2⟩ := HL.out.write (i := k) (k := j) (x := Nt.roomAt W F k j) (by omega) (by rw [hrow]; omega)
          rw [hrow, set_snoc _ _ _ HKL.out] at L2
          rw [hrow] at r1 e1
          rw [hzl] at e1
          have hv := HL.out
          rw [← hR] at hv
          have r3 := hv.cell (i := k) (by omega)
          rw [e1] at r3
          obtain ⟨b1, off1, b2, off2, ci2, rfl, r4, r5⟩ := crow_at2 (HA.out.below HB.out) hFn.out HF.out.rows hlt hjn
          obtain ⟨b5, off5, b3, off3, ci3, e5, r6, r7⟩ := crow_at2 (HA.out.below HB.out) hFn.out HF.out.rows hjn hlt
          cases e5
          obtain ⟨bq, oq, rfl, r8⟩ := (HQ1.out.below HB.out).at (i := j) (by rw [Nt.rowsB_row HRW.out (i := k) (by rw [HN.out]; exact hlt), HN.out]; exact hjn)
          have k0 : (0 : Int) ≤ (j : Int) := by omega
          have k1 : (j : Int) < (n : Int) := by omega
          have jj : (k : Int) < (k : Int) + 1 := by omega
          have h1 := Nt.rowsB_bd HRW.out (i := k) (k := j) (by rw [HN.out]; exact hlt) (by rw [HN.out]; exact hjn)
          have h3 := Nt.rowsB_bd HF.out.rows (i := k) (k := j) (by rw [hFn.out]; exact hlt) (by rw [hFn.out]; exact hjn)
          have h4 := Nt.rowsB_bd HF.out.rows (i := j) (k := k) (by rw [hFn.out]; exact hjn) (by rw [hFn.out]; exact hlt)
          have HT2 : Hid ((zs.set j (Nt.roomAt W F k j)).take (j + 1) = (Nt.roomR W F k).take (j + 1)) := hide (by
            have := getD_set_take (Nt.roomR W F k) zs j (by rw [Nt.roomR_len, HN.out]; exact hzl) (by rw [Nt.roomR_len, HN.out]; exact hjn) HT.out
            rwa [Nt.roomR_at W F (by rw [HN.out]; exact hjn)] at this)
          have HL2 := hide L2
          have HB2 := hide (HB.out.setCell (p := ⟨g, j, none⟩) hg0 (.int .i64 (Nt.roomAt W F k j)))
          have r9 : wr.cell? ⟨bq, oq + j, none⟩ = some (.int .i64 (Nt.at2 W k j)) := r8
          unfold Nt.roomAt at HL2 HB2 HT2
          generalize Nt.at2 W k j = x at *
          generalize Nt.at2 F k j = y at *
          generalize Nt.at2 F j k = z at *
          generalize zs.getD j 0 = z0 at *
          obtain ⟨x0, x1⟩ := h1
          obtain ⟨y0, y1⟩ := h3
          obtain ⟨z1, z2⟩ := h4
          have wr1 : wrap64 (x - y) = x - y := wrap_id' _ (by omega) (by omega)
          have wr2 : wrap64 (x - y + z) = x - y + z := wrap_id' _ (by omega) (by omega)
          clear r8 hrow hv L2 e1 hR
          go_wp2_with fail
          go_region
          go_wp2_with fail
          go_roundw
          case rel => exact ⟨j + 1, zs.set j (x - y + z), by go_num, by omega, by simpa using hzl, HT2, hide (HL2.out.keep fun g _ _ => rfl), hide HB2.out.drew⟩
          case measure => simp only [intOf]; omega
        · have hje : j = n := by omega
          subst hje
          have HE : Hid ((Nt.rooms W F).take k ++ [zs] = (Nt.rooms W F).take (k + 1)) := hide (by
            have := HT.out
            rw [List.take_of_length_le (by omega), List.take_of_length_le (by rw [Nt.roomR_len, HN.out]; exact Nat.le_refl _)] at this
            rw [this]; exact Nt.rooms_snoc W F (by rw [HN.out]; exact hlt))
          have HL2 : Hid (LL wr w.heap.size 24 3 1 ints (.slice (some ⟨G, 0, none⟩) (k + 1) cap) us2 ((Nt.rooms W F).take (k + 1))) := hide (by rw [← HE.out]; exact HL.out)
          go_wp2_with fail
          go_roundw
          case rel => exact ⟨k + 1, us2, by go_num, by omega, HL2, HB⟩
          case measure => simp only [intOf]; omega
    · have hke : k = n := by omega
      subst hke
      have HE : Hid ((Nt.rooms W F).take k = Nt.rooms W F) := hide (List.take_of_length_le (by rw [HLR.out]; exact Nat.le_refl _))
      rw [HE.out] at HL
      clear hmk
      go_wp2_with fail
      go_ret
      exact ⟨_, us, rfl, HL.out, HB.out⟩
end Go.Proofs.Ytdpjkblondoimab
namespace Go.Proofs.Ytdpjkblondoimab.Nt
open Bx (sumTo)

/-- The first so many halls are looked at from hall a: those not come to yet (-2) wait behind. -/
def scanTo (R : List (List Int)) (a : Int) (M Q : List Int) : Nat → List Int × List Int
  | 0 => (M, Q)
  | k + 1 => if (scanTo R a M Q k).1.getD k 0 = -2 ∧ 0 < at2 R a.toNat k then ((scanTo R a M Q k).1.set k a, (scanTo R a M Q k).2 ++ [(k : Int)]) else scanTo R a M Q k
def bfs (R : List (List Int)) (n : Nat) : Nat → List Int → List Int → List Int
  | 0, M, _ => M
  | _ + 1, M, [] => M
  | f + 1, M, a :: Q => bfs R n f (scanTo R a M Q n).1 (scanTo R a M Q n).2
def start (n : Nat) : List Int := (List.replicate n (-2)).set 0 (-1)
/-- From which hall each one is come to: -1 for 0, -2 for those not come to. -/
def come (R : List (List Int)) (n : Nat) : List Int := bfs R n n (start n) [0]
def open2 (M Q : List Int) : Nat := M.count (-2) + Q.length
theorem start_len (n : Nat) : (start n).length = n := by simp [start]
theorem count_set {M : List Int} {k : Nat} {a : Int} (hk : k < M.length) (h : M.getD k 0 = -2) (ha : a ≠ -2) : (M.set k a).count (-2) + 1 = M.count (-2) := by
  induction M generalizing k with
  | nil => simp at hk
  | cons x M ih =>
    cases k with
    | zero =>
      simp at h
      subst h
      simp [ha]
    | succ k =>
      have := ih (k := k) (by simpa using hk) (by simpa using h)
      simp only [List.set_cons_succ, List.count_cons]
      omega
theorem scan_len (R : List (List Int)) (a : Int) (M Q : List Int) : ∀ k, (scanTo R a M Q k).1.length = M.length
  | 0 => rfl
  | k + 1 => by
    rw [scanTo]
    split
    · rw [List.length_set, scan_len R a M Q k]
    · exact scan_len R a M Q k
theorem scan_open {R : List (List Int)} {a : Int} {M Q : List Int} (ha : 0 ≤ a) : ∀ k, k ≤ M.length → open2 (scanTo R a M Q k).1 (scanTo R a M Q k).2 = open2 M Q
  | 0, _ => rfl
  | k + 1, hk => by
    have ih := scan_open (R := R) (a := a) (M := M) (Q := Q) ha k (by omega)
    rw [scanTo]
    split
    · next h =>
      have := count_set (a := a) (by rw [scan_len]; omega) h.1 (by omega)
      unfold open2 at ih ⊢
      simp only [List.length_append, List.length_cons, List.length_nil]
      omega
    · exact ih
theorem start_open {n : Nat} (hn : 0 < n) : open2 (start n) [0] = n := by
  have h1 := count_set (M := List.replicate n (-2)) (k := 0) (a := -1) (by simpa using hn) (by simp [hn]) (by omega)
  rw [List.count_replicate_self] at h1
  unfold open2 start
  simp only [List.length_cons, List.length_nil]
  omega
theorem open_pos {M Q : List Int} {k : Nat} (hk : k < M.length) (h : M.getD k 0 = -2) : Q.length + 1 ≤ open2 M Q := by
  have : 0 < M.count (-2) := List.count_pos_iff.2 (by rw [← h, Pf.getD_lt _ _ hk]; exact List.getElem_mem hk)
  unfold open2; omega
/-- What holds on the way: H are all that came, the first i of them are done, the next one up to k. -/
structure Bi (R : List (List Int)) (n : Nat) (M H : List Int) (i k : Nat) : Prop where
  len : M.length = n
  pos : 0 < H.length
  h0 : H.getD 0 0 = 0
  lo : ∀ j, j < H.length → 0 ≤ H.getD j 0 ∧ H.getD j 0 < n
  nd : ∀ j l, j < H.length → l < H.length → j ≠ l → H.getD j 0 ≠ H.getD l 0
  m0 : M.getD 0 0 = -1
  mem : ∀ b, b < n → (M.getD b 0 ≠ -2 ↔ ∃ j, j < H.length ∧ H.getD j 0 = (b : Int))
  par : ∀ j, 0 < j → j < H.length → ∃ l, l < j ∧ M.getD (H.getD j 0).toNat 0 = H.getD l 0 ∧ 0 < at2 R (H.getD l 0).toNat (H.getD j 0).toNat
  done : ∀ l, l < i → ∀ b, b < n → 0 < at2 R (H.getD l 0).toNat b → M.getD b 0 ≠ -2
  cur : ∀ b, b < k → 0 < at2 R (H.getD i 0).toNat b → M.getD b 0 ≠ -2
theorem snoc_lt {l : List Int} {x : Int} {j : Nat} (h : j < l.length) : (l ++ [x]).getD j 0 = l.getD j 0 := by simp [List.getElem?_append_left h]
theorem snoc_end {l : List Int} {x : Int} : (l ++ [x]).getD l.length 0 = x := by simp
theorem set_self {M : List Int} {k : Nat} {a : Int} (h : k < M.length) : (M.set k a).getD k 0 = a := by simp [h]
theorem set_else {M : List Int} {k b : Nat} {a : Int} (h : b ≠ k) : (M.set k a).getD b 0 = M.getD b 0 := by simp [List.getElem?_set_ne (Ne.symm h)]
theorem Bi.step_no {R : List (List Int)} {n i k : Nat} {M H : List Int} (h : Bi R n M H i k) (hno : ¬ (M.getD k 0 = -2 ∧ 0 < at2 R (H.getD i 0).toNat k)) : Bi R n M H i (k + 1) :=
  ⟨h.len, h.pos, h.h0, h.lo, h.nd, h.m0, h.mem, h.par, h.done, fun b hb hr => by
    by_cases e : b = k
    · subst e; exact fun h2 => hno ⟨h2, hr⟩
    · exact h.cur b (by omega) hr⟩
theorem Bi.step_yes {R : List (List Int)} {n i k : Nat} {M H : List Int} (h : Bi R n M H i k) (hi : i < H.length) (hk : k < n) (hy : M.getD k 0 = -2 ∧ 0 < at2 R (H.getD i 0).toNat k) : Bi R n (M.set k (H.getD i 0)) (H ++ [(k : Int)]) i (k + 1) := by
  have hkM : k < M.length := by rw [h.len]; exact hk
  have hk0 : k ≠ 0 := fun e => by have := h.m0; rw [e] at hy; rw [hy.1] at this; omega
  have hnew : ∀ j, j < H.length → H.getD j 0 ≠ (k : Int) := fun j hj e => (h.mem k hk).2 ⟨j, hj, e⟩ hy.1
  have ha := h.lo i hi
  have old : ∀ b, b ≠ k → (M.set k (H.getD i 0)).getD b 0 = M.getD b 0 := fun b hb => set_else hb
  have big : ∀ b, M.getD b 0 ≠ -2 → (M.set k (H.getD i 0)).getD b 0 ≠ -2 := fun b hb => by
    by_cases e : b = k
    · subst e; exact absurd hy.1 hb
    · rw [old b e]; exact hb
  refine ⟨by rw [List.length_set]; exact h.len, by simp, by rw [snoc_lt h.pos]; exact h.h0, fun j hj => ?_, fun j l hj hl hne => ?_, by rw [old 0 (Ne.symm hk0)]; exact h.m0, fun b hb => ?_, fun j h0 hj => ?_, fun l hl b hb hr => ?_, fun b hb hr => ?_⟩
  · simp only [List.length_append, List.length_cons, List.length_nil] at hj
    by_cases e : j = H.length
    · subst e; rw [snoc_end]; omega
    · rw [snoc_lt (by omega)]; exact h.lo j (by omega)
  · simp only [List.length_append, List.length_cons, List.length_nil] at hj hl
    by_cases e1 : j = H.length
    · subst e1
      rw [snoc_end, snoc_lt (by omega)]
      exact fun e => hnew l (by omega) e.symm
    · by_cases e2 : l = H.length
      · subst e2
        rw [snoc_end, snoc_lt (by omega)]
        exact hnew j (by omega)
      · rw [snoc_lt (by omega), snoc_lt (by omega)]; exact h.nd j l (by omega) (by omega) hne
  · by_cases e : b = k
    · subst e
      refine ⟨fun _ => ⟨H.length, by simp, snoc_end⟩, fun _ => ?_⟩
      rw [set_self hkM]; omega
    · rw [old b e, h.mem b hb]
      refine ⟨fun ⟨j, hj, ej⟩ => ⟨j, by simp; omega, by rw [snoc_lt hj]; exact ej⟩, fun ⟨j, hj, ej⟩ => ?_⟩
      simp only [List.length_append, List.length_cons, List.length_nil] at hj
      by_cases e2 : j = H.length
      · subst e2; rw [snoc_end] at ej; omega
      · rw [snoc_lt (by omega)] at ej; exact ⟨j, by omega, ej⟩
  · simp only [List.length_append, List.length_cons, List.length_nil] at hj
    by_cases e : j = H.length
    · subst e
      refine ⟨i, hi, ?_, ?_⟩
      · rw [snoc_end, Int.toNat_natCast, set_self hkM, snoc_lt hi]
      · rw [snoc_end, Int.toNat_natCast, snoc_lt hi]; exact hy.2
    · obtain ⟨l, hl, e1, e2⟩ := h.par j h0 (by omega)
      refine ⟨l, hl, ?_, ?_⟩
      · rw [snoc_lt (by omega), snoc_lt (by omega), old _ (fun e' => hnew j (by omega) (by have := h.lo j (by omega); omega))]; exact e1
      · rw [snoc_lt (by omega), snoc_lt (by omega)]; exact e2
  · rw [snoc_lt (by omega)] at hr
    exact big b (h.done l hl b hb hr)
  · rw [snoc_lt hi] at hr
    by_cases e : b = k
    · subst e; rw [set_self hkM]; omega
    · exact big b (h.cur b (by omega) hr)
theorem Bi.scan {R : List (List Int)} {n i : Nat} {M H Q : List Int} (h : Bi R n M H i 0) (hi : i < H.length) (hQ : Q = H.drop (i + 1)) : ∀ k, k ≤ n → ∃ H', Bi R n (scanTo R (H.getD i 0) M Q k).1 H' i k ∧ (scanTo R (H.getD i 0) M Q k).2 = H'.drop (i + 1) ∧ i < H'.length ∧ H'.getD i 0 = H.getD i 0
  | 0, _ => ⟨H, h, hQ, hi, rfl⟩
  | k + 1, hk => by
    obtain ⟨H', h1, h2, h3, h4⟩ := Bi.scan h hi hQ k (by omega)
    rw [scanTo]
    split
    · next hy =>
      refine ⟨H' ++ [(k : Int)], ?_, ?_, by simp; omega, by rw [snoc_lt h3]; exact h4⟩
      · have := h1.step_yes h3 (by omega) (by rw [h4]; exact hy)
        rw [h4] at this
        exact this
      · show (scanTo R (H.getD i 0) M Q k).2 ++ [(k : Int)] = (H' ++ [(k : Int)]).drop (i + 1)
        rw [h2, List.drop_append_of_le_length (by omega)]
    · next hn => exact ⟨H', h1.step_no (by rw [h4]; exact hn), h2, h3, h4⟩
theorem Bi.pop {R : List (List Int)} {n i : Nat} {M H : List Int} (h : Bi R n M H i n) : Bi R n M H (i + 1) 0 :=
  ⟨h.len, h.pos, h.h0, h.lo, h.nd, h.m0, h.mem, h.par, fun l hl b hb hr => by
    by_cases e : l = i
    · subst e; exact h.cur b hb hr
    · exact h.done l (by omega) b hb hr, fun b hb => absurd hb (Nat.not_lt_zero _)⟩
theorem bfs_inv {R : List (List Int)} {n : Nat} : ∀ f {M Q H : List Int} {i : Nat}, Bi R n M H i 0 → i ≤ H.length → Q = H.drop i → open2 M Q ≤ f → ∃ H', Bi R n (bfs R n f M Q) H' H'.length 0
  | 0, M, Q, H, i, h, hi, hQ, hf => by
    have hq : Q.length = 0 := by unfold open2 at hf; omega
    have : i = H.length := by rw [hQ, List.length_drop] at hq; omega
    exact ⟨H, this ▸ h⟩
  | f + 1, M, [], H, i, h, hi, hQ, _ => by
    have : i = H.length := by
      have : (H.drop i).length = 0 := by rw [← hQ]; rfl
      rw [List.length_drop] at this; omega
    exact ⟨H, this ▸ h⟩
  | f + 1, M, a :: Q, H, i, h, hi, hQ, hf => by
    have hlt : i < H.length := by
      have : (H.drop i).length = Q.length + 1 := by rw [← hQ]; rfl
      rw [List.length_drop] at this; omega
    rw [List.drop_eq_getElem_cons hlt] at hQ
    have ea : a = H.getD i 0 := by rw [Pf.getD_lt _ _ hlt]; exact (List.cons.inj hQ).1
    have eQ : Q = H.drop (i + 1) := (List.cons.inj hQ).2
    obtain ⟨H', h1, h2, h3, _⟩ := h.scan hlt eQ n (Nat.le_refl _)
    rw [← ea] at h1 h2
    rw [bfs]
    refine bfs_inv f h1.pop (by omega) h2 ?_
    have h0 := h.lo i hlt
    rw [scan_open (by omega) n (by rw [h.len]; exact Nat.le_refl _)]
    unfold open2 at hf ⊢
    simp only [List.length_cons] at hf
    omega
theorem come_inv (R : List (List Int)) {n : Nat} (hn : 0 < n) : ∃ H, Bi R n (come R n) H H.length 0 := by
  refine bfs_inv n (H := [0]) (i := 0) ⟨start_len n, by simp, rfl, fun j hj => ?_, fun j l hj hl hne => ?_, by simp [start, hn], fun b hb => ?_, fun j h0 hj => ?_, fun l hl => absurd hl (Nat.not_lt_zero _), fun b hb => absurd hb (Nat.not_lt_zero _)⟩ (by simp) rfl (by rw [start_open hn]; exact Nat.le_refl _)
  · simp at hj; subst hj; simp; omega
  · simp at hj hl; omega
  · unfold start
    by_cases e : b = 0
    · subst e
      refine ⟨fun _ => ⟨0, by simp, rfl⟩, fun _ => ?_⟩
      rw [set_self (by simpa using hn)]; omega
    · rw [set_else e]
      refine ⟨fun h => absurd (by simp [hb]) h, fun ⟨j, hj, ej⟩ => ?_⟩
      simp at hj; subst hj; simp at ej; omega
  · simp at hj; omega
/-- From hall at back to hall 0, put ahead of out. -/
def back (M : List Int) : Nat → Int → List Int → List Int
  | 0, _, out => out
  | f + 1, p, out => if p < 0 then out else back M f (M.getD p.toNat 0) (p :: out)
def wayM (M : List Int) (n : Nat) : List Int := if M.getD (n - 1) 0 = -2 then [] else back M (n + 1) ((n : Int) - 1) []
structure Pth (R : List (List Int)) (n : Nat) (M H : List Int) (j : Nat) (P : List Int) : Prop where
  back : ∀ f out, j + 2 ≤ f → Nt.back M f (H.getD j 0) out = P ++ out
  len : 0 < P.length
  first : P.getD 0 0 = 0
  last : P.getD (P.length - 1) 0 = H.getD j 0
  mem : ∀ t, t < P.length → ∃ l, l ≤ j ∧ P.getD t 0 = H.getD l 0
  ne : ∀ t s, t < P.length → s < P.length → t ≠ s → P.getD t 0 ≠ P.getD s 0
  room : ∀ t, t + 1 < P.length → 0 < at2 R (P.getD t 0).toNat (P.getD (t + 1) 0).toNat
theorem path {R : List (List Int)} {n : Nat} {M H : List Int} (h : Bi R n M H H.length 0) : ∀ m j, j < m → j < H.length → ∃ P, Pth R n M H j P
  | 0, j, hj, _ => absurd hj (Nat.not_lt_zero _)
  | m + 1, j, hj, hl => by
    have hp := h.lo j hl
    by_cases e : j = 0
    · subst e
      refine ⟨[0], fun f out hf => ?_, by simp, rfl, h.h0.symm, fun t ht => ⟨0, Nat.le_refl _, by simp at ht; subst ht; exact h.h0.symm⟩, fun t s ht hs hne => by simp at ht hs; omega, fun t ht => by simp at ht⟩
      obtain ⟨f, rfl⟩ : ∃ g, f = g + 2 := ⟨f - 2, by omega⟩
      rw [h.h0, Nt.back, if_neg (by omega), Nt.back, if_pos (by rw [show (0 : Int).toNat = 0 from rfl, h.m0]; omega)]
      rfl
    · obtain ⟨l, hlj, e1, e2⟩ := h.par j (by omega) hl
      obtain ⟨P, hP⟩ := path h m l (by omega) (by omega)
      refine ⟨P ++ [H.getD j 0], fun f out hf => ?_, by simp, by rw [snoc_lt hP.len]; exact hP.first, by simp, fun t ht => ?_, fun t s ht hs hne => ?_, fun t ht => ?_⟩
      · obtain ⟨f, rfl⟩ : ∃ g, f = g + 1 := ⟨f - 1, by omega⟩
        rw [Nt.back, if_neg (by omega), e1, hP.back f _ (by omega)]
        simp
      · simp only [List.length_append, List.length_cons, List.length_nil] at ht
        by_cases e3 : t = P.length
        · subst e3; exact ⟨j, Nat.le_refl _, snoc_end⟩
        · obtain ⟨q, hq, eq⟩ := hP.mem t (by omega)
          exact ⟨q, by omega, by rw [snoc_lt (by omega)]; exact eq⟩
      · have off : ∀ t, t < P.length → P.getD t 0 ≠ H.getD j 0 := fun t ht => by
          obtain ⟨q, hq, eq⟩ := hP.mem t ht
          rw [eq]; exact h.nd q j (by omega) hl (by omega)
        simp only [List.length_append, List.length_cons, List.length_nil] at ht hs
        by_cases e3 : t = P.length
        · subst e3
          rw [snoc_end, snoc_lt (by omega)]
          exact Ne.symm (off s (by omega))
        · by_cases e4 : s = P.length
          · subst e4
            rw [snoc_end, snoc_lt (by omega)]; exact off t (by omega)
          · rw [snoc_lt (by omega), snoc_lt (by omega)]; exact hP.ne t s (by omega) (by omega) hne
      · simp only [List.length_append, List.length_cons, List.length_nil] at ht
        rw [snoc_lt (by omega)]
        by_cases e3 : t + 1 = P.length
        · rw [e3, snoc_end, show t = P.length - 1 by omega, hP.last]; exact e2
        · rw [snoc_lt (by omega)]; exact hP.room t (by omega)
/-- The way that is found is one. -/
theorem way_is {R : List (List Int)} {n : Nat} (hn : 2 ≤ n) (h : (come R n).getD (n - 1) 0 ≠ -2) : Way R n (wayM (come R n) n) := by
  obtain ⟨H, hb⟩ := come_inv R (n := n) (by omega)
  obtain ⟨j, hj, ej⟩ := (hb.mem (n - 1) (by omega)).1 h
  obtain ⟨P, hP⟩ := path hb (j + 1) j (by omega) hj
  have hfew : H.length ≤ n := few hb.lo hb.nd
  have e : wayM (come R n) n = P := by
    rw [wayM, if_neg h, show ((n : Int) - 1) = H.getD j 0 by rw [ej]; omega, hP.back (n + 1) [] (by omega), List.append_nil]
  rw [e]
  have hlast : P.getD (P.length - 1) 0 = (n : Int) - 1 := by rw [hP.last, ej]; omega
  have hl2 : 2 ≤ P.length := by
    have h0 := hP.len
    by_cases h1 : P.length = 1
    · rw [h1, hP.first] at hlast; omega
    · omega
  refine ⟨hl2, hP.first, hlast, fun i hi => ?_, hP.ne, hP.room⟩
  obtain ⟨l, hl, el⟩ := hP.mem i hi
  rw [el]; exact hb.lo l (by omega)
theorem way_no {M : List Int} {n : Nat} (h : M.getD (n - 1) 0 = -2) : wayM M n = [] := by rw [wayM, if_pos h]
/-- The way through the rooms of a flow, none where there is none. -/
def wayOf (W F : List (List Int)) : List Int := wayM (come (rooms W F) W.length) W.length
theorem wayOf_nil {W F : List (List Int)} (hn : 2 ≤ W.length) : wayOf W F = [] ↔ (come (rooms W F) W.length).getD (W.length - 1) 0 = -2 := by
  refine ⟨fun h => Classical.byContradiction fun hc => ?_, fun h => way_no h⟩
  have := (way_is hn hc).len
  rw [show wayM (come (rooms W F) W.length) W.length = [] from h] at this
  simp at this
theorem wayOf_is {W F : List (List Int)} (hn : 2 ≤ W.length) (h : wayOf W F ≠ []) : Way (rooms W F) W.length (wayOf W F) := way_is hn fun e => h ((wayOf_nil hn).2 e)
/-- The least of a list. -/
def lstTo (r : List Int) : Nat → Int
  | 0 => r.getD 0 0
  | k + 1 => min (lstTo r k) (r.getD k 0)
def lst (r : List Int) : Int := lstTo r r.length
theorem lstTo_le (r : List Int) : ∀ k i, i < k → lstTo r k ≤ r.getD i 0
  | 0, i, h => absurd h (Nat.not_lt_zero _)
  | k + 1, i, h => by
    rw [lstTo]
    by_cases e : i = k
    · subst e; omega
    · have := lstTo_le r k i (by omega); omega
theorem lstTo_is (r : List Int) : ∀ k, k ≤ r.length → 0 < r.length → ∃ i, i < r.length ∧ lstTo r k = r.getD i 0
  | 0, _, h => ⟨0, h, rfl⟩
  | k + 1, hk, h => by
    obtain ⟨i, hi, e⟩ := lstTo_is r k (by omega) h
    rw [lstTo]
    by_cases hc : lstTo r k ≤ r.getD k 0
    · exact ⟨i, hi, by rw [Int.min_eq_left hc]; exact e⟩
    · exact ⟨k, by omega, by rw [Int.min_eq_right (by omega)]⟩
/-- How much goes along a way. -/
def byI (W F : List (List Int)) (P : List Int) : Int := lst (along (rooms W F) P)
theorem by_facts {W F : List (List Int)} {P : List Int} (hf : NF W F) (hw : Way (rooms W F) W.length P) : 1 ≤ byI W F P ∧ byI W F P ≤ 100 ∧ ∀ i, i + 1 < P.length → byI W F P ≤ roomAt W F (P.getD i 0).toNat (P.getD (i + 1) 0).toNat := by
  have h2 := hw.len
  have hal := along_len (rooms W F) P
  obtain ⟨i, hi, e⟩ := lstTo_is (along (rooms W F) P) (along (rooms W F) P).length (Nat.le_refl _) (by omega)
  have ei := along_at (rooms W F) P (i := i) (by omega)
  have hr := hw.room i (by omega)
  have l1 := hw.lo i (by omega)
  have l2 := hw.lo (i + 1) (by omega)
  have hb := hf.room_bd (i := (P.getD i 0).toNat) (k := (P.getD (i + 1) 0).toNat) (by omega) (by omega)
  rw [rooms_at W F (by omega) (by omega)] at hr ei
  have eb : byI W F P = roomAt W F (P.getD i 0).toNat (P.getD (i + 1) 0).toNat := by rw [byI, lst, e, ei]
  refine ⟨by omega, by omega, fun j hj => ?_⟩
  have := lstTo_le (along (rooms W F) P) (along (rooms W F) P).length j (by omega)
  rw [along_at _ _ hj] at this
  have m1 := hw.lo j (by omega)
  have m2 := hw.lo (j + 1) (by omega)
  rw [rooms_at W F (by omega) (by omega)] at this
  exact this
/-- Pushed as long as there is a way. -/
def mf (W : List (List Int)) : Nat → List (List Int) → List (List Int)
  | 0, F => F
  | f + 1, F => if wayOf W F = [] then F else mf W f (pushL (byI W F (wayOf W F)) F (wayOf W F))
def mostL (W : List (List Int)) : List (List Int) := mf W 401 (zeros W.length)
theorem value_bd {W F : List (List Int)} (h : NF W F) : outI F 0 ≤ 400 := by
  have hl := rowsB_len h.rows
  rw [outI, Fl.ex]
  have := sumTo_bd (f := fun k => at2 F 0 k - at2 F k 0) (lo := -50) (hi := 50) F.length fun i hi => by
    have h1 := rowsB_bd h.rows (i := 0) (k := i) (by omega) hi
    have h2 := rowsB_bd h.rows (i := i) (k := 0) hi (by omega)
    show -50 ≤ at2 F 0 i - at2 F i 0 ∧ at2 F 0 i - at2 F i 0 ≤ 50
    omega
  omega
theorem next_nf {W F : List (List Int)} (h : NF W F) (hw : wayOf W F ≠ []) : NF W (pushL (byI W F (wayOf W F)) F (wayOf W F)) ∧ outI F 0 + 1 ≤ outI (pushL (byI W F (wayOf W F)) F (wayOf W F)) 0 := by
  have h2 := (rowsB_len (netB_rows h.net)).1
  have hw' := wayOf_is h2 hw
  obtain ⟨b1, _, b3⟩ := by_facts h hw'
  obtain ⟨p1, p2⟩ := push_nf h hw' (by omega) b3
  exact ⟨p1, by rw [p2]; omega⟩
theorem mf_inv {W : List (List Int)} : ∀ (f : Nat) {F : List (List Int)}, NF W F → 400 - outI F 0 < f → NF W (mf W f F) ∧ wayOf W (mf W f F) = []
  | 0, F, h, hf => by have := value_bd h; omega
  | f + 1, F, h, hf => by
    rw [mf]
    split
    · next e => exact ⟨h, e⟩
    · next e =>
      obtain ⟨n1, n2⟩ := next_nf h e
      exact mf_inv f n1 (by omega)
theorem zeros_out (n : Nat) : outI (zeros n) 0 = 0 := by rw [outI]; exact ex_zero (fun a b => zeros_at _ a b) 0
theorem most_inv {W : List (List Int)} (h : netB W = true) : NF W (mostL W) ∧ wayOf W (mostL W) = [] := mf_inv 401 (zeros_nf h) (by rw [zeros_out]; omega)
/-- The halls come to. -/
def sideL (M : List Int) : List Int := ((List.range M.length).filter fun b => M.getD b 0 != -2).map fun (b : Nat) => (b : Int)
def sideTo (M : List Int) (k : Nat) : List Int := ((List.range k).filter fun b => M.getD b 0 != -2).map fun (b : Nat) => (b : Int)
theorem sideTo_succ (M : List Int) (k : Nat) : sideTo M (k + 1) = if M.getD k 0 = -2 then sideTo M k else sideTo M k ++ [(k : Int)] := by
  unfold sideTo
  rw [List.range_succ, List.filter_append, List.map_append]
  by_cases h : M.getD k 0 = -2
  · rw [if_pos h, List.filter_cons_of_neg (by rw [h]; decide)]; simp
  · rw [if_neg h, List.filter_cons_of_pos (by simpa using h)]; simp
end Go.Proofs.Ytdpjkblondoimab.Nt
namespace Go.Proofs.Ytdpjkblondoimab
open Go.Conc Go.RowKit

/-- What waits in a line, the first one in first. -/
def qv (Q : List Int) : Array Value := (ints Q).toArray
theorem bytes13 : ∃ i, Try.prog.info? 3 = some i ∧ i.bytes = 8 := by
  have h : (Try.prog.info? 3).map (·.bytes) = some 8 := by kernel_rfl
  obtain ⟨i, hi, hb⟩ := Option.map_eq_some_iff.1 h
  exact ⟨i, hi, hb⟩
theorem mkc13 (n : Nat) (hn : n ≤ 1000) (w : World) : (Instr.makeChan 56 (.int .i64 (n : Int))).run Try.prog w = .ok (.chan (some w.heap.size)) (w.alloc (.chan n #[] false 0 0 false)) := by
  obtain ⟨i, hi, hb⟩ := bytes13
  exact run_makeChan (P := Try.prog) (w := w) Try.underlying56 hi .i64 n (by omega) (by rw [hb]; omega)
set_option maxHeartbeats 400000 in
theorem nhl_any {n : Nat} {w : World} (hn : n ≤ 1000) :
    Calls Try.prog 50 #[.int .i64 (n : Int)] w fun e w' => e = .returned (.chan (some w.heap.size)) ∧ w' = w.alloc (.chan n #[] false 0 0 false) := by
  have hmc := mkc13 n hn
  go_enter Try.func50, Try.ntmps50
  go_wp2_with fail
  go_ret
  exact ⟨rfl, rfl⟩
set_option maxRecDepth 100000 in
theorem add13 {c cap s r : Nat} {Q : List Int} {x : Int} {w : World} (hc : w.heap[c]? = some (.chan cap (qv Q) false s r false)) (hr : Q.length < cap) :
    Calls Try.prog 51 #[.chan (some c), .int .i64 x] w fun e w' => e = .returned (.tuple #[]) ∧ w' = w.setChan c cap (qv (Q ++ [x])) false (s + 1) r false := by
  have hq : qv (Q ++ [x]) = (qv Q).push (.int .i64 x) := by simp [qv, ints]
  rw [hq]
  refine calls_of_loneTo fun cs => ?_
  have e : Frame.enter Try.prog 51 #[.chan (some c), .int .i64 x] .normal = (base 51).at ⟨#[.chan (some c), .int .i64 x, undef, undef, undef, undef], []⟩ [.code (Try.f51.body.getD .skip)] := by
    simp [Frame.enter, Frame.at, Try.func51, base, Try.f51]
  rw [e]
  refine LoneTo.goes (n := 3) ?_
  simp only [Try.f51, Option.getD_some]
  s_reg
  s_op
  s_op
  s_stop
  refine LoneTo.step (step_lone_send_room (c := c) (cap := cap) (buf := qv Q) (s := s) (r := r) (tm := false) (stepG_comm (cases := #[scase c (.int .i64 x) (.tuple #[])]) (blocking := true) (shape := .send) (w' := w) rfl rfl (by decide) (by simp [execOp, scase, Act.eval])) hc (by simpa [qv, ints] using hr)) ?_
  rw [Frame.finish_at]
  walk_nrm
  refine LoneTo.goes (n := 2) ?_
  s_c stepG_region_end
  s_c stepG_end
  s_stop
  refine LoneTo.done ⟨.returned (.tuple #[]), _, rfl, ⟨rfl, rfl⟩, rfl, rfl, rfl, rfl, _, Try.func51, by simp [results, Try.f51, Frame.at]⟩
set_option maxRecDepth 100000 in
theorem next13_no {c cap s r : Nat} {w : World} (hc : w.heap[c]? = some (.chan cap (qv []) false s r false)) :
    Calls Try.prog 52 #[.chan (some c)] w fun e w' => e = .returned (.tuple #[.int .i64 (-1), .bool false]) ∧ w' = w := by
  refine calls_of_loneTo fun cs => ?_
  have e : Frame.enter Try.prog 52 #[.chan (some c)] .normal = (base 52).at ⟨#[.chan (some c), undef, undef, undef, undef, undef, undef, undef, undef, undef, undef], []⟩ [.code (Try.f52.body.getD .skip)] := by
    simp [Frame.enter, Frame.at, Try.func52, base, Try.f52]
    first | done | rfl
  rw [e]
  refine LoneTo.goes (n := 11) ?_
  simp only [Try.f52, Option.getD_some]
  s_c stepG_seq
  s_reg
  s_op
  s_op
  s_c stepG_region_end
  s_c stepG_seq
  s_reg
  s_op
  s_c stepG_region_end
  s_c stepG_seq
  s_reg
  s_stop
  refine LoneTo.step (step_lone_select_default (c := c) (z := .int .i64 0) (cap := cap) (s := s) (r := r) (tm := false) (stepG_comm (cases := #[rcase c (.int .i64 0)]) (blocking := false) (shape := .select) (w' := w) rfl rfl (by decide) (by simp [go_sem, execOp, rcase, Act.eval])) hc) ?_
  rw [Frame.finish_at]
  walk_nrm
  refine LoneTo.goes (n := 11) ?_
  s_op
  s_op
  s_c stepG_region_end
  s_c stepG_block
  s_cond false
  s_c stepG_seq
  s_reg
  s_op
  s_op
  s_c stepG_region_end
  s_c stepG_ret'
  s_stop
  refine LoneTo.done ⟨.returned (.tuple #[.int .i64 (-1), .bool false]), _, rfl, ⟨rfl, rfl⟩, rfl, rfl, rfl, rfl, _, Try.func52, by simp [results, Try.f52, Frame.at]⟩
set_option maxRecDepth 100000 in
theorem next13_yes {c cap s r : Nat} {Q : List Int} {x : Int} {w : World} (hc : w.heap[c]? = some (.chan cap (qv (x :: Q)) false s r false)) :
    Calls Try.prog 52 #[.chan (some c)] w fun e w' => e = .returned (.tuple #[.int .i64 x, .bool true]) ∧ w' = w.setChan c cap (qv Q) false s (r + 1) false := by
  have hq : (qv (x :: Q)).extract 1 (qv (x :: Q)).size = qv Q := by
    simp [qv, ints]
    exact List.take_of_length_le (by simp)
  have hg : (qv (x :: Q)).getD 0 undef = .int .i64 x := by simp [qv, ints]
  refine calls_of_loneTo fun cs => ?_
  have e : Frame.enter Try.prog 52 #[.chan (some c)] .normal = (base 52).at ⟨#[.chan (some c), undef, undef, undef, undef, undef, undef, undef, undef, undef, undef], []⟩ [.code (Try.f52.body.getD .skip)] := by
    simp [Frame.enter, Frame.at, Try.func52, base, Try.f52]
    first | done | rfl
  rw [e]
  refine LoneTo.goes (n := 11) ?_
  simp only [Try.f52, Option.getD_some]
  s_c stepG_seq
  s_reg
  s_op
  s_op
  s_c stepG_region_end
  s_c stepG_seq
  s_reg
  s_op
  s_c stepG_region_end
  s_c stepG_seq
  s_reg
  s_stop
  refine LoneTo.step (step_lone_select_recv_buf (c := c) (z := .int .i64 0) (cap := cap) (s := s) (r := r) (tm := false) (stepG_comm (cases := #[rcase c (.int .i64 0)]) (blocking := false) (shape := .select) (w' := w) rfl rfl (by decide) (by simp [go_sem, execOp, rcase, Act.eval])) hc (by simp [qv, ints])) ?_
  rw [Frame.finish_at, hq, hg]
  walk_nrm
  refine LoneTo.goes (n := 17) ?_
  s_op
  s_op
  s_c stepG_region_end
  s_c stepG_block
  s_cond true
  s_c stepG_seq
  s_reg
  s_op
  s_op
  s_c stepG_region_end
  s_c stepG_seq
  s_reg
  s_op
  s_op
  s_op
  s_c stepG_region_end
  s_c stepG_ret'
  s_stop
  refine LoneTo.done ⟨.returned (.tuple #[.int .i64 x, .bool true]), _, rfl, ⟨rfl, rfl⟩, rfl, rfl, rfl, rfl, _, Try.func52, by simp [results, Try.f52, Frame.at]⟩
end Go.Proofs.Ytdpjkblondoimab
namespace Go.Proofs
open Go.Shelf
def Try.lays212_ren : Go.Shelf.Ren := ⟨fun | 212 => 59 | 263 => 62 | 264 => 63 | n => n, fun | 46 => 64 | 51 => 68 | 146 => 69 | 53 => 71 | 148 => 72 | n => n, fun | n => n⟩
theorem Try.lays212 : Go.Proofs.Lays.n212 Try.prog Try.lays212_ren := {
  mixed := by kernel_rfl
  f212 := Try.func59.trans (congrArg some (by kernel_rfl))
  f263 := Try.func62.trans (congrArg some (by kernel_rfl))
  f264 := Try.func63.trans (congrArg some (by kernel_rfl))
  t46 := Try.underlying64
  a46 := Try.isAgg64
  z46 := Try.sizeOf64
  v46 := Try.zeroValue64
  t51 := Try.underlying68
  a51 := Try.isAgg68
  z51 := Try.sizeOf68
  v51 := Try.zeroValue68
  t53 := Try.underlying71
  a53 := Try.isAgg71
  z53 := Try.sizeOf71
  v53 := Try.zeroValue71
  t146 := Try.underlying69
  a146 := Try.isAgg69
  z146 := Try.sizeOf69
  v146 := Try.zeroValue69
  t148 := Try.underlying72
  a148 := Try.isAgg72
  z148 := Try.sizeOf72
  v148 := Try.zeroValue72 }
open Go.RowKit Go.Lib in
theorem Try.bits_Mul (x y : Nat) (hx : x < 18446744073709551616) (hy : y < 18446744073709551616) (w : World) :
    Calls Try.prog 59 #[.int .u64 x, .int .u64 y] w fun e w' => e = .returned (.tuple #[.int .u64 ((x * y / 18446744073709551616 : Nat) : Int), .int .u64 ((x * y % 18446744073709551616 : Nat) : Int)]) ∧ w' = w := Any.bits_Mul Try.lays212 x y hx hy w
def Try.laysNm215_ren : Go.Shelf.Ren := ⟨fun | 15 => 44 | n => n, fun | 22 => 24 | 3 => 3 | 4 => 4 | n => n, fun | n => n⟩
theorem Try.laysNm215 : Go.Proofs.Lays2.n15 Try.prog Try.laysNm215_ren := {
  mixed := by kernel_rfl
  f15 := Try.func44.trans (congrArg some (by kernel_rfl))
  t3 := Try.underlying3
  a3 := Try.isAgg3
  z3 := Try.sizeOf3
  v3 := Try.zeroValue3
  t4 := Try.underlying4
  a4 := Try.isAgg4
  z4 := Try.sizeOf4
  v4 := Try.zeroValue4
  t22 := Try.underlying24
  a22 := Try.isAgg24
  z22 := Try.sizeOf24
  v22 := Try.zeroValue24
  i3 := by kernel_rfl }
open Go.RowKit Go.Lib in
theorem Try.slices_Clone_int (b off n c : Nat) (zs : List Int) (w : World) (hz : n ≤ zs.length) (hbig : n * 8 ≤ 140737488355328) (hc : ∀ j, j < zs.length → w.cell? ⟨b, off + j, none⟩ = some (.int .i64 (zs.getD j 0))) :
    Calls Try.prog 44 #[.slice (some ⟨b, off, none⟩) n c] w fun e w' => ∃ v', e = .returned v' ∧ w'.ownsRow w.heap.size 3 1 v' n ((zs.take n).map (Value.int .i64)) ∧ v' ≠ .slice none 0 0 ∧ Below w.heap.size w w' := Any.slices_Clone_int Try.laysNm215 b off n c zs w hz hbig hc
def Try.lays2n21_ren : Go.Shelf.Ren := ⟨fun | 21 => 40 | 27 => 53 | 28 => 54 | 35 => 60 | 39 => 64 | n => n, fun | 22 => 24 | 3 => 3 | 4 => 4 | 0 => 0 | n => n, fun | n => n⟩
theorem Try.lays2n21 : Go.Proofs.Lays2.n21 Try.prog Try.lays2n21_ren := {
  mixed := by kernel_rfl
  f21 := Try.func40.trans (congrArg some (by kernel_rfl))
  f27 := Try.func53.trans (congrArg some (by kernel_rfl))
  f28 := Try.func54.trans (congrArg some (by kernel_rfl))
  f35 := Try.func60.trans (congrArg some (by kernel_rfl))
  f39 := Try.func64.trans (congrArg some (by kernel_rfl))
  t0 := Try.underlying0
  a0 := Try.isAgg0
  z0 := Try.sizeOf0
  v0 := Try.zeroValue0
  t3 := Try.underlying3
  a3 := Try.isAgg3
  z3 := Try.sizeOf3
  v3 := Try.zeroValue3
  t4 := Try.underlying4
  a4 := Try.isAgg4
  z4 := Try.sizeOf4
  v4 := Try.zeroValue4
  t22 := Try.underlying24
  a22 := Try.isAgg24
  z22 := Try.sizeOf24
  v22 := Try.zeroValue24
  i3 := by kernel_rfl }
end Go.Proofs
namespace Go.Proofs.Ytdpjkblondoimab
open Go.RowKit

theorem step_copy_run {P : Program} {w : World} {ops : Array Oper} {o : Oper} {a : Act} {K : Act → World → Prop} {Q : Exit → Act → World → Prop} {E : Prop} (hgd : o.guard = none) (d s : Operand) (t t' : TypeId)
    (ho : o.op = .call { callee := .builtin .copy, args := #[d, s], argTypes := #[t, t'] }) (vd vs : Value) (hd : a.eval d = vd) (hs : a.eval s = vs)
    (v' : Value) (w' : World) (hr : (Builtin.copy_ #[t, t'] o.type #[vd, vs]).run P w = .ok v' w') (h : K (a.put o.dst v') w') :
    if Region.wanted o (yielded ops a.tmps) = true then Oper.wp P o a w K Q else E := by
  have hw : Region.wanted o (yielded ops a.tmps) = true := by simp [Region.wanted, hgd]
  rw [if_pos hw]
  unfold Oper.wp execOp
  simp only [ho, resolve, invoke, builtin, Sem.run_bind, Sem.run_pure, Result.andThen_ok, List.map_toArray, List.map_cons, List.map_nil, hd, hs, hr]
  exact h
theorem wpList_copy_run8 {P : Program} {w : World} {ops : Array Oper} {rest : List Oper} {o : Oper} {a : Act} {Q : Exit → Act → World → Prop} (hgd : o.guard = none) (d s : Operand) (t t' : TypeId)
    (ho : o.op = .call { callee := .builtin .copy, args := #[d, s], argTypes := #[t, t'] }) (vd vs : Value) (hd : a.eval d = vd) (hs : a.eval s = vs)
    (v' : Value) (w' : World) (hr : (Builtin.copy_ #[t, t'] o.type #[vd, vs]).run P w = .ok v' w') (h : wpList P ops Q rest (a.put o.dst v') w') : wpList P ops Q (o :: rest) a w := by
  refine wpList_plain hgd fun _ hK => ?_
  unfold Oper.wp execOp
  simp only [ho, resolve, invoke, builtin, Sem.run_bind, Sem.run_pure, Result.andThen_ok, List.map_toArray, List.map_cons, List.map_nil, hd, hs, hr]
  exact hK _ _ h
end Go.Proofs.Ytdpjkblondoimab
namespace Go.Proofs.Ytdpjkblondoimab
open Go.RowKit

/-- The first k of n are -1. -/
def mixN (n k : Nat) : List Int := List.replicate k (-1) ++ List.replicate (n - k) 0
theorem mixN_len (n k : Nat) (h : k ≤ n) : (mixN n k).length = n := by simp [mixN]; omega
theorem mixN_zero (n : Nat) : mixN n 0 = List.replicate n 0 := by simp [mixN]
theorem mixN_all (n : Nat) : mixN n n = List.replicate n (-1) := by simp [mixN]
theorem mixN_get {n k j : Nat} (h : j < k) (hk : k ≤ n) : (ints (mixN n k))[j]? = some (.int .i64 (-1)) := by
  rw [ints_get _ j (by rw [mixN_len n k hk]; omega)]
  simp [mixN, List.getElem?_append, h]
theorem mixN_copy {n k j : Nat} (_hj : k + j ≤ n) : (ints (mixN n k)).take k ++ ints (List.replicate j (-1)) ++ (ints (mixN n k)).drop (k + j) = ints (mixN n (k + j)) := by
  have e1 : (ints (mixN n k)).take k = ints (List.replicate k (-1)) := by simp [mixN, ints]
  have e2 : (ints (mixN n k)).drop (k + j) = ints (List.replicate (n - (k + j)) 0) := by
    unfold ints mixN
    rw [← List.map_drop, List.drop_append, List.drop_of_length_le (by simp)]
    simp; omega
  rw [e1, e2]
  unfold mixN ints
  rw [← List.map_append, ← List.map_append, List.replicate_append_replicate]
/-- What is copied from the front of a list to behind it, or from another list. -/
theorem cp_own {w : World} {base X n k j : Nat} {a : Addr} {sL sC : Nat} (hj : k + j ≤ n) (hmin : j = Nat.min sL (n - k)) (hX : w.ownsRow base 3 1 (.slice (some ⟨X, 0, none⟩) n n) n (ints (mixN n k))) (hs : ∀ i, i < j → w.cell? (a.add i) = some (.int .i64 (-1))) :
    ∃ w', (∀ ty, (Builtin.copy_ #[24, 24] ty #[.slice (some ⟨X, k, none⟩) (n - k) (n - k), .slice (some a) sL sC]).run Try.prog w = .ok (.int .i64 (j : Int)) w') ∧ w'.ownsRow base 3 1 (.slice (some ⟨X, 0, none⟩) n n) n (ints (mixN n (k + j))) ∧ w.grownBy w' (some X) := by
  rcases hX.2 with ⟨h, _⟩ | ⟨g, cap, cur, hv, hb, hg, hnc, hcm, hcs, htake⟩
  · cases h
  cases hv
  have hsz : (Try.prog.info? 3).map (·.size) = some 1 := by kernel_rfl
  have hl : (ints (List.replicate j (-1))).length = j := by simp [ints]
  have hrun := fun ty => run_copy_row (P := Try.prog) w 24 24 ty 3 X k (n - k) (n - k) a sL sC cur 3 (ints (List.replicate j (-1))) Try.underlying24 hsz hg (by rw [hl]; exact hmin) (fun i v hi => by
    have hij : i < j := by have := (List.getElem?_eq_some_iff.1 hi).1; omega
    have : v = .int .i64 (-1) := by simpa [ints, hij] using hi.symm
    rw [this]; exact hs i hij) (by rw [hl]; omega) (c_ints _)
  have hcur : cur.toList = ints (mixN n k) := by
    rw [← htake, List.take_of_length_le (by simp; omega)]
  rw [hl, hcur, mixN_copy hj] at hrun
  refine ⟨w.setRow X (ints (mixN n (k + j))).toArray, hrun, ⟨by simp [ints, mixN_len n (k + j) hj], .inr ⟨X, n, _, rfl, hb, setRow_heap w X _ _ _ _ hg, hnc, hcm, ?_, ?_⟩⟩, ⟨rfl, rfl, rfl, by simp [World.setRow], fun k _ hne => setRow_other w X k _ (by simpa using hne)⟩⟩
  · simp [ints, mixN_len n (k + j) hj]
  · rw [List.take_of_length_le (by simp [ints, mixN_len n (k + j) hj])]
theorem mul_c (n : Nat) (hn : n ≤ 10) (w : World) : Calls Try.prog 59 #[.int .u64 1, .int .u64 (n : Int)] w fun e w' => e = .returned (.tuple #[.int .u64 0, .int .u64 (n : Int)]) ∧ w' = w := by
  have := Try.bits_Mul 1 n (by omega) (by omega) w
  rw [Nat.one_mul, Nat.div_eq_of_lt (by omega), Nat.mod_eq_of_lt (by omega)] at this
  exact this
set_option maxRecDepth 20000 in
set_option maxHeartbeats 400000 in
theorem rp_any {B n : Nat} {w : World} (hn : n ≤ 10) (hc : w.cell? ⟨B, 0, none⟩ = some (.int .i64 (-1))) (hB : B < w.heap.size) :
    Calls Try.prog 49 #[.slice (some ⟨B, 0, none⟩) 1 1, .int .i64 (n : Int)] w fun e w' => e = .returned (.slice (some ⟨w.heap.size, 0, none⟩) n n) ∧ Below w.heap.size w w' ∧ w'.ownsRow w.heap.size 3 1 (.slice (some ⟨w.heap.size, 0, none⟩) n n) n (ints (List.replicate n (-1))) := by
  have h1 : IntKind.u64.wrap (n : Int) = (n : Int) := by rw [IntKind.wrap_u64]; omega
  have h2 : IntKind.i64.wrap (n : Int) = (n : Int) := by rw [IntKind.wrap_i64]; omega
  have h3 : ¬ (9223372036854775807 : Int) < (n : Int) := by omega
  have h4 : ¬ (n : Int) < 0 := by omega
  have hmk := makeI_run n (by omega)
  have hM := made_own w n (by omega)
  rw [← mixN_zero] at hM
  have hcn : (w.alloc (.cells (madeCells #[.int .i64 0] n) 3)).cell? ⟨B, 0, none⟩ = some (.int .i64 (-1)) := ((below_new w _).cell (p := ⟨B, 0, none⟩) hB).trans hc
  obtain ⟨j0, hj0, hj1⟩ : ∃ j0, j0 = Nat.min 1 (n - 0) ∧ 0 + j0 ≤ n := ⟨_, rfl, by simp only [Nat.min_def]; split <;> omega⟩
  have hj2 : n = 0 ∨ 1 ≤ j0 := by simp only [Nat.min_def] at hj0; split at hj0 <;> omega
  obtain ⟨w1, hr1, own1, hg1⟩ := cp_own (a := ⟨B, 0, none⟩) (sL := 1) (sC := 1) hj1 hj0 hM (fun i hi => by
    have : i = 0 := by simp only [Nat.min_def] at hj0; split at hj0 <;> omega
    subst this
    rw [add_plain']; exact hcn)
  simp only [Nat.zero_add, Nat.sub_zero] at hr1 own1
  have HB1 := hide ((below_new w (.cells (madeCells #[.int .i64 0] n) 3)).trans (grown_below' hg1 (Nat.le_refl _) (by simp)))
  have HO1 := hide own1
  have HJ := hide hj2
  clear own1 hg1 hM hc hcn hj0 hj2
  go_enter Try.func49, Try.ntmps49
  go_wp2_with fail
  refine (mul_c n hn _).mono ?_
  rintro e w0 ⟨rfl, hw0⟩
  obtain rfl : w = w0 := hw0.symm
  go_wp2_with (first | (at_builtin; refine wpList_copy_run8 rfl _ _ _ _ rfl _ _ rfl rfl _ _ (hr1 _) ?_))
  clear hr1 hmk h1 h2 h4
  go_loopw [8] (fun s8 wr => ∃ (k : Nat), s8 = .int .i64 k ∧ k ≤ n ∧ Hid (n = 0 ∨ 1 ≤ k) ∧ Hid (wr.ownsRow w.heap.size 3 1 (.slice (some ⟨w.heap.size, 0, none⟩) n n) n (ints (mixN n k))) ∧ Hid (Below w.heap.size w wr)) (fun s _ => n - (intOf s).toNat)
  case atStart => exact ⟨j0, rfl, by omega, HJ, HO1, HB1⟩
  case round =>
    clear HO1 HB1 HJ
    obtain ⟨k, rfl, hk, HJ, HO, HB⟩ := hrel
    by_cases hlt : k < n
    · have k1 : 1 ≤ k := by have := HJ.out; omega
      have i0 : (0 : Int) ≤ (k : Int) := by omega
      have i1 : (k : Int) < (n : Int) := by omega
      have i2 : (k : Int) ≤ (n : Int) := by omega
      have i3 : ¬ k = n := by omega
      have i5 : ¬ n = k := by omega
      have i4 : ¬ (k : Int) = (n : Int) := by omega
      obtain ⟨j, hj, hj1⟩ : ∃ j, j = Nat.min k (n - k) ∧ k + j ≤ n := ⟨_, rfl, by simp only [Nat.min_def]; split <;> omega⟩
      have hj2 : 1 ≤ j := by simp only [Nat.min_def] at hj; split at hj <;> omega
      have hjk : j ≤ k := by simp only [Nat.min_def] at hj; split at hj <;> omega
      obtain ⟨w2, hr2, own2, hg2⟩ := cp_own (w := wr.drew) (a := ⟨w.heap.size, 0, none⟩) (sL := k) (sC := n) hj1 hj HO.out.drew (fun i hi => by
        rw [add_plain', Nat.zero_add, HO.out.drew.cellAt i (by omega)]
        exact mixN_get (by omega) hk)
      have HO2 := hide own2
      have HB2 := hide (HB.out.trans (grown_below' (w := wr) ⟨hg2.os, hg2.tape, hg2.output, hg2.size, hg2.block⟩ (Nat.le_refl _) HB.out.size))
      have w1 : IntKind.i64.wrap ((k : Int) + (j : Int)) = (k : Int) + (j : Int) := by rw [IntKind.wrap_i64]; omega
      have HR2 : Hid (∀ ty, (Builtin.copy_ #[24, 24] ty #[.slice (if n = k then some ⟨w.heap.size, 0, none⟩ else some ⟨w.heap.size, k, none⟩) (n - k) (n - k), .slice (some ⟨w.heap.size, 0, none⟩) k n]).run Try.prog wr.drew = .ok (.int .i64 (j : Int)) w2) := hide fun ty => by rw [if_neg i5]; exact hr2 ty
      clear own2 hg2 hj hr2 i5 i3
      go_wp2_with fail
      go_region_law ((refine step_copy_run (w := wr.drew) (by rfl) (.tmp 41) (.tmp 44) 24 24 (by rfl) (.slice (if n = k then some ⟨w.heap.size, 0, none⟩ else some ⟨w.heap.size, k, none⟩) (n - k) (n - k)) (.slice (some ⟨w.heap.size, 0, none⟩) k n) (by simp [go_sem]) (by simp [go_sem]) (.int .i64 (j : Int)) w2 (HR2.out _) ?_))
      go_wp2_with fail
      go_roundw
      case rel => exact ⟨k + j, by go_num, hj1, (by show n = 0 ∨ 1 ≤ k + j; omega), HO2⟩
      case measure => simp only [intOf]; omega
    · have hke : k = n := by omega
      subst hke
      have HF : Hid (wr.ownsRow w.heap.size 3 1 (.slice (some ⟨w.heap.size, 0, none⟩) k k) k (ints (List.replicate k (-1)))) := hide (by rw [← mixN_all]; exact HO.out)
      go_wp2_with fail
      go_ret
      exact ⟨rfl, HB.out, HF.out⟩
end Go.Proofs.Ytdpjkblondoimab
