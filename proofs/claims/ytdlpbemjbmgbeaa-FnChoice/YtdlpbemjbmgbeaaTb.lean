/-
  FnTables: contracts in the words of the law; the turned list.
-/
import Derived.Test.YtdlpbemjbmgbeaaCx
import Derived.Test.YtdlpbemjbmgbeaaCz
import Derived.Test.YtdlpbemjbmgbeaaLDo
import Derived.Test.YtdlpbemjbmgbeaaCn
import Derived.Test.YtdlpbemjbmgbeaaLn
import Derived.Deep.DeepCutAuto
import Derived.Deep.QuietTactic
import Derived.BigQuiet
namespace Go.Proofs.Ytdlpbemjbmgbeaa
open Go.RowKit

theorem chB_rev (L : List (List Int)) (p : Int) : chB L.reverse p = chB L p := by simp [chB, Of.offersB]
theorem btL_rev (L : List (List Int)) (p : Int) : btL L.reverse p = btL L p := by unfold btL; rw [chB_rev, Of.tab_rev]
theorem ob_slice {w : World} {base n : Nat} {v : Value} {xs : List Int} (hx : xs.length = n) (h : w.ownsRow base 3 1 v n (ints xs)) : ∃ a cap, v = .slice a n cap ∧ ARow w a xs := by
  rcases h.2 with ⟨rfl, hn⟩ | ⟨g, cap, cur, rfl, _⟩
  · subst hn; exact ⟨none, 0, rfl, Or.inl (List.length_eq_zero_iff.1 hx)⟩
  · exact ⟨_, _, rfl, arow_owns hx.symm h⟩
theorem bt_a {a : Option Addr} {n c : Nat} {L : List (List Int)} {p : Int} {w : World} (hn : L.length = n) (h : ORow w a L) :
    Calls Try.prog 22 #[.slice a n c, .int .i64 p] w fun e w' => ∃ a0 c0, e = .returned (.tuple #[.slice a0 (btL L p).length c0, .bool (chB L p)]) ∧ ARow w' a0 (btL L p) ∧ Below w.heap.size w w' :=
  (bt_w hn h).mono fun e w' ⟨v, h1, h2, h3⟩ => by
    obtain ⟨a0, c0, rfl, r⟩ := ob_slice rfl h2
    exact ⟨a0, c0, h1, r, h3⟩
theorem bt_r {a : Option Addr} {n c : Nat} {L : List (List Int)} {p : Int} {w : World} (hn : L.length = n) (h : ORow w a L.reverse) :
    Calls Try.prog 22 #[.slice a n c, .int .i64 p] w fun e w' => ∃ a0 c0, e = .returned (.tuple #[.slice a0 (btL L p).length c0, .bool (chB L p)]) ∧ ARow w' a0 (btL L p) ∧ Below w.heap.size w w' := by
  have := bt_a (c := c) (p := p) (L := L.reverse) (n := n) (by simpa using hn) h
  rwa [btL_rev, chB_rev] at this
theorem bc_a {a : Option Addr} {n c : Nat} {L : List (List Int)} {p : Int} {w : World} (hn : L.length = n) (h : ORow w a L) :
    Calls Try.prog 6 #[.slice a n c, .int .i64 p] w fun e w' => ∃ v, e = .returned (.tuple #[v, .int .i64 (bcI L p), .bool (chB L p)]) ∧ Below w.heap.size w w' :=
  (bc_w hn h).mono fun _ _ ⟨v, h1, _, h3⟩ => ⟨v, h1, h3⟩
/-- What holds of a good table. -/
theorem bt_facts {L : List (List Int)} {p : Int} (h : chB L p = true) : ∃ P : Nat, p = P ∧ P ≤ 40 ∧ (btL L p).length = P + 1 ∧ (btL L p).getD 0 0 = 0 ∧ bcI L p = (btL L p).getD P 0 ∧ ∀ i, i + 1 ≤ P → (btL L p).getD i 0 ≤ (btL L p).getD (i + 1) 0 := by
  obtain ⟨_, h0, h1⟩ := chB_yes h
  obtain ⟨P, rfl⟩ : ∃ P : Nat, p = (P : Int) := ⟨p.toNat, by omega⟩
  rw [btL_yes h, bcI_yes h]
  exact ⟨P, rfl, by omega, Of.tab_len L P, Of.tab_first L P, rfl, fun i hi => Of.tab_rise L hi⟩
theorem dr_facts {L : List (List Int)} {k p : Int} (h : drB L k p = true) : ∃ K : Nat, k = K ∧ K < L.length ∧ chB [L.getD K []] p = true ∧ 0 ≤ drI L k p ∧ drI L k p ≤ bcI [L.getD K []] p := by
  obtain ⟨h1, h2, h3⟩ := drB_yes h
  obtain ⟨hg, hp0, hp1⟩ := chB_yes h1
  obtain ⟨K, rfl⟩ : ∃ K : Nat, k = (K : Int) := ⟨k.toNat, by omega⟩
  obtain ⟨P, rfl⟩ : ∃ P : Nat, p = (P : Int) := ⟨p.toNat, by omega⟩
  have hK : K < L.length := by omega
  have hc : chB [L.getD K []] (P : Int) = true := by
    have : Of.offersB [L.getD K []] = true := Of.offersB_of (by simp) fun i hi => by
      have : i = 0 := by simp at hi; exact hi
      subst this; exact Of.offersB_at hg K
    simp only [chB, Bool.and_eq_true] at h1 ⊢
    exact ⟨this, h1.2⟩
  rw [drI_yes h]
  have a := Of.drop_less L (P := P) hK
  have b := Of.drop_more L (P := P) hK
  exact ⟨K, rfl, hK, hc, by omega, by rw [bcI_yes hc]; omega⟩
/-- One offer of a list. -/
theorem ORow.one {w : World} {b off : Nat} {L : List (List Int)} {K : Nat} (h : ORow w (some ⟨b, off, none⟩) L) (hK : K < L.length) : ORow w (some ⟨b, off + K, none⟩) [L.getD K []] := by
  obtain ⟨b', off', ai, ci, e, hl, h1, h2⟩ := h.at hK
  cases e
  refine Or.inr ⟨b, off + K, rfl, hl, fun i hi => ?_⟩
  have : i = 0 := by simp at hi; exact hi
  subst this
  exact ⟨ai, ci, h1, h2⟩
/-- The list that is being turned. -/
structure TI (w wr : World) (L : List (List Int)) (v : Value) (us : List Value) (j : Nat) : Prop where
  own : wr.ownsRow w.heap.size 36 1 v j us
  bel : Below w.heap.size w wr
  each : ∀ i, i < j → ∃ ai ci, us.getD i (.slice none 0 0) = .slice ai (L.getD (L.length - 1 - i) []).length ci ∧ ARow w ai (L.getD (L.length - 1 - i) [])
theorem TI.step {w wr w5 : World} {L : List (List Int)} {v : Value} {us : List Value} {j G C : Nat} {ai : Option Addr} {ci : Nat} {o : Obj} (h : TI w wr L v us j) (hg : (wr.alloc o).grownBy w5 v.ownBlock)
    (own5 : w5.ownsRow w.heap.size 36 1 (.slice (some ⟨G, 0, none⟩) (j + 1) C) (j + 1) (us ++ [.slice ai (L.getD (L.length - 1 - j) []).length ci])) (hr : ARow w ai (L.getD (L.length - 1 - j) [])) :
    TI w w5 L (.slice (some ⟨G, 0, none⟩) (j + 1) C) (us ++ [.slice ai (L.getD (L.length - 1 - j) []).length ci]) (j + 1) := by
  have hul : us.length = j := by have := h.own.1; omega
  have hs := h.bel.size
  have hs5 := hg.size
  rw [World.size_alloc] at hs5
  refine ⟨own5, ⟨hg.os.trans h.bel.os, hg.tape.trans h.bel.tape, hg.output.trans h.bel.output, by omega, fun b hb => ?_⟩, fun i hi => ?_⟩
  · refine ((hg.block b (by rw [World.size_alloc]; omega) fun e => ?_).trans ((o_below_new wr o).block b (by omega))).trans (h.bel.block b hb)
    have := (h.own.lt b e.symm).1
    omega
  · by_cases e : i = j
    · subst e
      exact ⟨ai, ci, by simp [← hul], hr⟩
    · obtain ⟨a', c', e1, e2⟩ := h.each i (by omega)
      exact ⟨a', c', by rw [← e1]; simp [List.getElem?_append, hul, show i < j by omega], e2⟩
theorem TI.row {w wr : World} {L : List (List Int)} {v : Value} {us : List Value} (h : TI w wr L v us L.length) : ∃ a c, v = .slice a L.length c ∧ ORow wr a L.reverse := by
  have hul : us.length = L.length := by have := h.own.1; omega
  rcases h.own.2 with ⟨hv, hl⟩ | ⟨g, cp, cur, hv, _⟩
  · exact ⟨none, 0, by rw [hl]; exact hv, Or.inl (by rw [List.length_eq_zero_iff.1 hl]; rfl)⟩
  · refine ⟨_, _, hv, ?_⟩
    subst hv
    refine Or.inr ⟨g, 0, rfl, (h.own.lt g rfl).2, fun i hi => ?_⟩
    rw [List.length_reverse] at hi
    obtain ⟨a', c', e1, e2⟩ := h.each i hi
    refine ⟨a', c', ?_, ?_⟩
    · rw [Nat.zero_add, h.own.cellAt i (by omega), List.getElem?_eq_getElem (by omega), ← Pf.getD_lt _ (.slice none 0 0) (show i < us.length by omega), e1, Of.rev_at L hi]
    · rw [Of.rev_at L hi]; exact e2.below h.bel
end Go.Proofs.Ytdlpbemjbmgbeaa
