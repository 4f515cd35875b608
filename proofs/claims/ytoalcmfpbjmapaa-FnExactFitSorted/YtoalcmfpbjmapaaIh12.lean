/-
  Items in memory: lists of them, that grow; itemsOf of the program.
-/
import Derived.Test.YtoalcmfpbjmapaaIa12
import Derived.Test.YtoalcmfpbjmapaaHl11
import Derived.Test.YtoalcmfpbjmapaaHv
import Derived.Test.YtoalcmfpbjmapaaPn
import Derived.Deep.AppendLies
namespace Go.Proofs.Ytoalcmfpbjmapaa
open Go.RowKit

def ite (L : List (Int × Int)) : List Value := L.flatMap fun f => [.int .i64 f.1, .int .i64 f.2]
theorem ite_snoc (L : List (Int × Int)) (f : Int × Int) : ite (L ++ [f]) = ite L ++ [.int .i64 f.1, .int .i64 f.2] := by simp [ite]
theorem ite_len (L : List (Int × Int)) : (ite L).length = L.length * 2 := by
  induction L with
  | nil => rfl
  | cons x L ih =>
    have : ite (x :: L) = [.int .i64 x.1, .int .i64 x.2] ++ ite L := by simp [ite]
    rw [this, List.length_append, ih]; simp; omega
theorem ite_get : ∀ (L : List (Int × Int)) (i : Nat), i < L.length → (ite L)[i * 2]? = some (.int .i64 (L.getD i (0, 0)).1) ∧ (ite L)[i * 2 + 1]? = some (.int .i64 (L.getD i (0, 0)).2)
  | [], i, h => by simp at h
  | f :: r, 0, _ => by simp [ite]
  | f :: r, i + 1, h => by
    have ih := ite_get r i (by simpa using h)
    have e : ite (f :: r) = [.int .i64 f.1, .int .i64 f.2] ++ ite r := by simp [ite]
    rw [e, List.getD_cons_succ]
    constructor
    · rw [List.getElem?_append_right (by simp; omega)]
      rw [show (i + 1) * 2 - [Value.int IntKind.i64 f.1, Value.int IntKind.i64 f.2].length = i * 2 by simp; omega]
      exact ih.1
    · rw [List.getElem?_append_right (by simp; omega)]
      rw [show (i + 1) * 2 + 1 - [Value.int IntKind.i64 f.1, Value.int IntKind.i64 f.2].length = i * 2 + 1 by simp; omega]
      exact ih.2
theorem own_form2 {w : World} {base e s n : Nat} {v : Value} {xs : List Value} (h : w.ownsRow base e s v n xs) : ∃ a cap, v = .slice a n cap := by
  rcases h.2 with ⟨rfl, hn⟩ | ⟨g, cap, cur, rfl, _⟩
  · exact ⟨none, 0, by rw [hn]⟩
  · exact ⟨_, _, rfl⟩
theorem own_keep2 {w w' : World} {base e s n : Nat} {v : Value} {xs : List Value} (h : w.ownsRow base e s v n xs) (hb : ∀ g, v.ownBlock = some g → g < w.heap.size → w'.heap[g]? = w.heap[g]?) : w'.ownsRow base e s v n xs := by
  rcases h with ⟨h0, h | ⟨g', cap, cur, rfl, h2, h3, h4⟩⟩
  · exact ⟨h0, Or.inl h⟩
  · exact ⟨h0, Or.inr ⟨g', cap, cur, rfl, h2, (hb g' rfl (Array.getElem?_eq_some_iff.1 h3).1).trans h3, h4⟩⟩
theorem own_below2 {w w' : World} {base e s n : Nat} {v : Value} {xs : List Value} (h : w.ownsRow base e s v n xs) (hb : Below w.heap.size w w') : w'.ownsRow base e s v n xs := own_keep2 h fun _ _ hl => hb.block _ hl
theorem own_low2 {w : World} {base base' e s n : Nat} {v : Value} {xs : List Value} (h : w.ownsRow base e s v n xs) (hb : base' ≤ base) : w.ownsRow base' e s v n xs := by
  rcases h with ⟨h0, h | ⟨g, cap, cur, h1, h2, h3⟩⟩
  · exact ⟨h0, Or.inl h⟩
  · exact ⟨h0, Or.inr ⟨g, cap, cur, h1, Nat.le_trans hb h2, h3⟩⟩
/-- Items that are owned can be read. -/
theorem own_items {w : World} {base e n : Nat} {v : Value} {L : List (Int × Int)} (hx : L.length = n) (h : w.ownsRow base e 2 v n (ite L)) : ∃ a c, v = .slice a n c ∧ FRow w a L := by
  rcases h.2 with ⟨rfl, hn⟩ | ⟨g, cap, cur, rfl, hb, hg, _⟩
  · subst hn; exact ⟨none, 0, rfl, Or.inl (List.length_eq_zero_iff.1 hx)⟩
  · refine ⟨_, _, rfl, Or.inr ⟨g, 0, rfl, (Array.getElem?_eq_some_iff.1 hg).1, fun i hi => ?_⟩⟩
    obtain ⟨e1, e2⟩ := ite_get L i hi
    rw [Nat.zero_add, h.cellAt (i * 2) (by omega), h.cellAt (i * 2 + 1) (by omega)]
    exact ⟨e1, e2⟩
/-- The items of a list of sizes. -/
def its (l : List Int) : List (Int × Int) := (List.range l.length).map fun (i : Nat) => ((i : Int), l.getD i 0)
theorem its_len (l : List Int) : (its l).length = l.length := by simp [its]
theorem its_at {l : List Int} {i : Nat} (hi : i < l.length) : (its l).getD i (0, 0) = ((i : Int), l.getD i 0) := by simp [its, hi]
theorem its_take {l : List Int} {k : Nat} (hk : k < l.length) : (its l).take (k + 1) = (its l).take k ++ [((k : Int), l.getD k 0)] := by
  rw [List.take_add_one]
  simp [its, hk]
theorem infoT : ∃ i, Try.prog.info? 51 = some i ∧ i.zero = some (.agg #[.int .i64 0, .int .i64 0]) ∧ i.size = 2 ∧ i.bytes = 16 := by
  have h : (Try.prog.info? 51).map (fun i => (i.zero, i.size, i.bytes)) = some (some (.agg #[.int .i64 0, .int .i64 0]), 2, 16) := by kernel_rfl
  obtain ⟨i, hi, hzz⟩ := Option.map_eq_some_iff.1 h
  simp only [Prod.mk.injEq] at hzz
  exact ⟨i, hi, hzz.1, hzz.2.1, hzz.2.2⟩
/-- One item more behind an owned list, and where it lies then. -/
theorem push_it {w : World} {base n t : Nat} {v : Value} {xs : List Value} {x y : Int} (hu : Try.prog.underlying t = some (.slice 51)) (hown : w.ownsRow base 51 2 v n xs) (hn : n ≤ 1048576) (hb : base ≤ w.heap.size) :
    ∃ g cap w', (∀ ty, (Builtin.append_ #[t, t] ty #[v, .slice (some ⟨w.heap.size, 0, none⟩) 1 1]).run Try.prog (w.alloc (.cells #[.int .i64 x, .int .i64 y] 51)) = .ok (.slice (some ⟨g, 0, none⟩) (n + 1) cap) w') ∧ w'.ownsRow base 51 2 (.slice (some ⟨g, 0, none⟩) (n + 1) cap) (n + 1) (xs ++ [.int .i64 x, .int .i64 y]) ∧ w.grownBy w' v.ownBlock ∧ (v.ownBlock = some g ∨ w.heap.size ≤ g) := by
  obtain ⟨i0, hi, hz0, hz1, hz2⟩ := infoT
  obtain ⟨g, cap, w', h1, h2, h3, h4, _⟩ := run_append_lies (P := Try.prog) (w := w.alloc (.cells #[.int .i64 x, .int .i64 y] 51)) t 0 base 51 i0 _ 2 16 hu hi hz0 hz1 hz2 rfl (by decide) v n xs (hown.alloc _) ⟨w.heap.size, 0, none⟩ 1 1 [.int .i64 x, .int .i64 y] rfl (fun j u hj => by
      have hj2 : j = 0 ∨ j = 1 := by
        have := (List.getElem?_eq_some_iff.1 hj).1
        simp at this; omega
      rw [add_plain']
      rcases hj2 with rfl | rfl
      · simp at hj; subst hj; simp
      · simp at hj; subst hj; simp) (fun u hu => by simp at hu; rcases hu with rfl | rfl <;> rfl) (by omega) (by unfold maxLen; omega) (by omega) (by simp; omega) _ rfl
  have hg := World.grownBy_alloc w (.cells #[.int .i64 x, .int .i64 y] 51) v.ownBlock
  refine ⟨g, cap, w', fun _ => h1, h2, ⟨h3.os.trans hg.os, h3.tape.trans hg.tape, h3.output.trans hg.output, Nat.le_trans hg.size h3.size, fun b hb hne => (h3.block b (Nat.lt_of_lt_of_le hb hg.size) hne).trans (hg.block b hb hne)⟩, ?_⟩
  rcases h4 with h4 | h4
  · exact Or.inl h4
  · exact Or.inr (by rw [h4]; simp)
theorem grown_under2 {w w' : World} {base e s n k : Nat} {v : Value} {xs : List Value} (hg : w.grownBy w' v.ownBlock) (h : w.ownsRow base e s v n xs) (hk : k ≤ base) (hs : k ≤ w.heap.size) : Below k w w' :=
  ⟨hg.os, hg.tape, hg.output, hg.size, fun b hb => hg.block b (by omega) (fun he => by have := h.lt b he.symm; omega)⟩
set_option maxHeartbeats 2000000 in
theorem io_any {a : Option Addr} {n c : Nat} {l : List Int} {w : World} (hx : l.length = n) (hn : n ≤ 1000) (ha : ARow w a l) :
    Calls Try.prog 34 #[.slice a n c] w fun e w' => ∃ v, e = .returned v ∧ w'.ownsRow w.heap.size 51 2 v n (ite (its l)) ∧ Below w.heap.size w w' := by
  have HX := hide hx
  have HA := hide ha
  clear hx ha
  go_enter Try.func34, Try.ntmps34
  go_wp2_with fail
  go_loopw [3, 4, 5, 8] (fun v _ _ s wr => ∃ (k : Nat), s = .int .i64 k ∧ k ≤ n ∧ Hid (wr.ownsRow w.heap.size 51 2 v k (ite ((its l).take k))) ∧ Hid (Below w.heap.size w wr)) (fun _ _ _ s _ => n - (intOf s).toNat)
  case atStart => exact ⟨0, rfl, Nat.zero_le _, hide (World.ownsRow_nil _ _ _ _), hide (Below.refl _ _)⟩
  case round =>
    obtain ⟨k, rfl, hk, HO, HB⟩ := hrel
    by_cases hlt : k < n
    · obtain ⟨b, off, rfl, r1⟩ := (HA.out.below HB.out).at (i := k) (by rw [HX.out]; exact hlt)
      have i0 : (0 : Int) ≤ (k : Int) := by omega
      have i1 : (k : Int) < (n : Int) := by omega
      obtain ⟨av, cv, hv⟩ := own_form2 HO.out
      subst hv
      obtain ⟨g, cap, w', hr, own', hg, _⟩ := push_it (x := (k : Int)) (y := l.getD k 0) Try.underlying42 HO.out (by omega) HB.out.size
      have HO' : Hid (w'.ownsRow w.heap.size 51 2 (.slice (some ⟨g, 0, none⟩) (k + 1) cap) (k + 1) (ite ((its l).take (k + 1)))) := hide (by rw [its_take (by rw [HX.out]; exact hlt), ite_snoc]; exact own')
      have HB' := hide (HB.out.trans (grown_under2 hg HO.out (Nat.le_refl _) HB.out.size))
      generalize l.getD k 0 = x at *
      clear own' hg HO
      go_wp2_with (first | (at_builtin; refine Lib.wpList_append_run _ rfl _ _ _ _ rfl _ _ rfl rfl _ _ (hr _) ?_))
      go_roundw
      case rel => exact ⟨k + 1, by go_num, by omega, HO', HB'⟩
      case measure => simp only [intOf]; omega
    · have hke : k = n := by omega
      subst hke
      have HF : Hid (wr.ownsRow w.heap.size 51 2 u3 k (ite (its l))) := hide (by have := HO.out; rwa [List.take_of_length_le (by rw [its_len, HX.out]; exact Nat.le_refl _)] at this)
      go_wp2_with fail
      go_ret
      exact ⟨u3, rfl, HF.out, HB.out⟩
end Go.Proofs.Ytoalcmfpbjmapaa
