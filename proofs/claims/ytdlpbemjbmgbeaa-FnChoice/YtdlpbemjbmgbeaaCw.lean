/-
  Draws of chapter 6: some offers, some number of places.
-/
import Derived.Test.YtdlpbemjbmgbeaaCv
import Derived.Test.YtdlpbemjbmgbeaaCr
import Derived.Test.YtdlpbemjbmgbeaaS
import Derived.Deep.DeepCutAuto
namespace Go.Proofs.Ytdlpbemjbmgbeaa
open Go.RowKit

/-- A list of whole numbers that lies in new memory, not in the block that v owns. -/
def AR (w wr : World) (v : Value) (ai : Option Addr) (xs : List Int) : Prop := xs = [] ∨ ∃ b off, ai = some ⟨b, off, none⟩ ∧ w.heap.size ≤ b ∧ b < wr.heap.size ∧ v.ownBlock ≠ some b ∧ ∀ i, i < xs.length → wr.cell? ⟨b, off + i, none⟩ = some (.int .i64 (xs.getD i 0))
/-- Offers that are being drawn. -/
structure LO (w wr : World) (c len cap N : Nat) (a : Option Addr) (v : Value) (us : List Value) (L : List (List Int)) : Prop where
  outer : wr.ownsRow w.heap.size 36 1 v L.length us
  each : ∀ i, i < L.length → ∃ ai ci, us.getD i (.slice none 0 0) = .slice ai (L.getD i []).length ci ∧ AR w wr v ai (L.getD i [])
  small : ∀ i, (L.getD i []).length ≤ 6
  cur : Cur wr c a len cap N
  kp : Kp c w wr
theorem LO.step {w wr w1 w4 : World} {c len cap N M G C c1 : Nat} {a a1 : Option Addr} {v : Value} {us : List Value} {L : List (List Int)} {xs : List Int} {o : Obj} (h : LO w wr c len cap N a v us L) (hc : c < w.heap.size) (ho : ∀ b off, a = some ⟨b, off, none⟩ → 0 < len → b < w.heap.size)
    (hk : Kp c wr w1) (hcur : Cur w1 c a len cap M) (hx : xs.length ≤ 6) (own1 : w1.ownsRow wr.heap.size 3 1 (.slice a1 xs.length c1) xs.length (ints xs))
    (hg : (w1.alloc o).grownBy w4 v.ownBlock) (hat : v.ownBlock = some G ∨ G = w1.heap.size + 1)
    (own4 : w4.ownsRow w.heap.size 36 1 (.slice (some ⟨G, 0, none⟩) (L.length + 1) C) (L.length + 1) (us ++ [.slice a1 xs.length c1])) :
    LO w w4 c len cap M a (.slice (some ⟨G, 0, none⟩) (L.length + 1) C) (us ++ [.slice a1 xs.length c1]) (L ++ [xs]) := by
  have hs1 := h.kp.size
  have hs2 := hk.size
  have hs3 := hg.size
  rw [World.size_alloc] at hs3
  have hvb : ∀ k, v.ownBlock = some k → w.heap.size ≤ k ∧ k < wr.heap.size := h.outer.lt
  have hul : us.length = L.length := by have := h.outer.1; omega
  have blk : ∀ b, b < w1.heap.size → v.ownBlock ≠ some b → w4.heap[b]? = w1.heap[b]? := fun b hb hne => (hg.block b (by simp; omega) (fun e => hne e.symm)).trans ((o_below_new w1 o).block b hb)
  have hB : Below w.heap.size w1 w4 := ⟨hg.os, hg.tape, hg.output, by omega, fun b hb => blk b (by omega) fun e => by have := (hvb b e).1; omega⟩
  refine ⟨by simpa using own4, fun i hi => ?_, fun i => ?_, hcur.low hB hc ho, kp_below (h.kp.trans hk) hB (Nat.le_refl _)⟩
  · rw [List.length_append, List.length_singleton] at hi
    by_cases e : i = L.length
    · subst e
      have e1 : (us ++ [Value.slice a1 xs.length c1]).getD L.length (.slice none 0 0) = .slice a1 xs.length c1 := by simp [← hul]
      have e2 : (L ++ [xs]).getD L.length [] = xs := by simp
      rw [e1, e2]
      refine ⟨a1, c1, rfl, ?_⟩
      rcases own1.2 with ⟨_, hn⟩ | ⟨g, cp, cur, hv, hbg, hgg, _⟩
      · exact Or.inl (List.length_eq_zero_iff.1 hn)
      · cases hv
        have hgl := (own1.lt g rfl).2
        have hne : v.ownBlock ≠ some g := fun e => by have := (hvb g e).2; omega
        refine Or.inr ⟨g, 0, rfl, by omega, by omega, ?_, fun j hj => ?_⟩
        · simp only [Value.ownBlock, ne_eq, Option.some.injEq]
          rcases hat with e | e
          · intro e2; exact hne (by rw [e, e2])
          · omega
        · rw [World.cell?_of_block (w := w1) (a := ⟨g, 0 + j, none⟩) (blk g hgl hne), Nat.zero_add, own1.cellAt j (by omega), ints_get xs j hj]
    · have hi' : i < L.length := by omega
      obtain ⟨ai, ci, e1, e2⟩ := h.each i hi'
      have e3 : (us ++ [Value.slice a1 xs.length c1]).getD i (.slice none 0 0) = us.getD i (.slice none 0 0) := by simp [List.getElem?_append, hul, hi']
      have e4 : (L ++ [xs]).getD i [] = L.getD i [] := by simp [List.getElem?_append, hi']
      rw [e3, e4]
      refine ⟨ai, ci, e1, ?_⟩
      rcases e2 with e2 | ⟨b, off, f1, f2, f3, f4, f5⟩
      · exact Or.inl e2
      · refine Or.inr ⟨b, off, f1, f2, by omega, ?_, fun j hj => ?_⟩
        · simp only [Value.ownBlock, ne_eq, Option.some.injEq]
          rcases hat with e | e
          · intro e2; exact f4 (by rw [e, e2])
          · omega
        · rw [World.cell?_of_block (w := w1) (a := ⟨b, off + j, none⟩) (blk b (by omega) f4), hk.cell (b := b) (o := off + j) f3 (by omega)]
          exact f5 j hj
  · by_cases e : i < L.length
    · rw [show (L ++ [xs]).getD i [] = L.getD i [] by simp [List.getElem?_append, e]]; exact h.small i
    · by_cases e' : i = L.length
      · subst e'; simpa using hx
      · rw [show (L ++ [xs]).getD i [] = [] by simp [List.getElem?_append, e, show ¬ i - L.length = 0 by omega]]; simp
theorem LO.le {w wr : World} {c len cap N M : Nat} {a : Option Addr} {v : Value} {us : List Value} {L : List (List Int)} (h : LO w wr c len cap N a v us L) (hNM : N ≤ M) : LO w wr c len cap M a v us L := ⟨h.outer, h.each, h.small, h.cur.le hNM, h.kp⟩
theorem LO.row {w wr : World} {c len cap N n C : Nat} {a ao : Option Addr} {us : List Value} {L : List (List Int)} (hn : L.length = n) (h : LO w wr c len cap N a (.slice ao n C) us L) : n ≤ C ∧ ORow wr ao L := by
  rcases h.outer.2 with ⟨hv, hl⟩ | ⟨g, cp, cur, hv, _, _, hle, _⟩
  · cases hv; exact ⟨Nat.le_refl _, Or.inl (List.length_eq_zero_iff.1 (by omega))⟩
  · cases hv
    have hul : us.length = L.length := by have := h.outer.1; omega
    refine ⟨hle, Or.inr ⟨g, 0, rfl, (h.outer.lt g rfl).2, fun i hi => ?_⟩⟩
    obtain ⟨ai, ci, e1, e2⟩ := h.each i hi
    refine ⟨ai, ci, ?_, ?_⟩
    · rw [Nat.zero_add, h.outer.cellAt i (by omega), List.getElem?_eq_getElem (by omega), ← Pf.getD_lt _ (.slice none 0 0) (show i < us.length by omega), e1]
    · rcases e2 with e2 | ⟨b, off, f1, _, f3, _, f5⟩
      · exact Or.inl e2
      · exact Or.inr ⟨b, off, f1, f3, f5⟩

set_option maxRecDepth 20000 in
set_option maxHeartbeats 1000000 in
theorem offers_any {c len cap N : Nat} {a : Option Addr} {w : World} (hc : Cur w c a len cap N) (hN : N ≤ 600000000) (hold : ∀ b off, a = some ⟨b, off, none⟩ → 0 < len → b < w.heap.size) :
    Calls Try.prog 39 #[.pointer (some ⟨c, 0, none⟩)] w fun e w' => ∃ (v : Value) (us : List Value) (L : List (List Int)), e = .returned v ∧ L.length ≤ 13 ∧ LO w w' c len cap (N + 500) a v us L := by
  obtain ⟨i0, hi, hz0, hz1, hz2⟩ := infoO
  have hcw := hc.1
  have HOLD := hide hold
  have HC := hide hc
  clear hc hold
  go_enter Try.func39, Try.ntmps39
  go_wp2_with fail
  refine (pick_any 5 (by omega) HC.out (by omega)).mono ?_
  rintro e w1 ⟨r1, rfl, hr10, hr11, hc1, hk1⟩
  have HC1 := hide hc1
  have HK1 := hide hk1
  clear hc1 hk1 HC
  go_wp2_with fail
  refine (one_any 20 (by omega) HC1.out (by omega)).mono ?_
  rintro e w2 ⟨r2, rfl, hc2, hk2⟩
  have HC2 := hide hc2
  have HK2 := hide (HK1.out.trans hk2)
  clear hc2 hk2 HC1 HK1
  go_upto_if 8 with fail
  go_cut [4] (fun s4 wc => ∃ m : Nat, s4 = .int .i64 m ∧ m ≤ 13 ∧ Hid (Cur wc c a len cap (N + 6)) ∧ Hid (Kp c w wc))
  case first =>
    cases r2
    · go_wp2_with fail
      go_meet
      case rel => exact ⟨r1.toNat, by rw [Int.toNat_of_nonneg hr10], by omega, hide (HC2.out.le (by omega)), HK2⟩
    · go_wp2_with fail
      refine (pick_any 2 (by omega) HC2.out (by omega)).mono ?_
      rintro e w3 ⟨r3, rfl, hr30, hr31, hc3, hk3⟩
      have HC3 := hide hc3
      have HK3 := hide (HK2.out.trans hk3)
      clear hc3 hk3
      go_wp2_with fail
      go_meet
      case rel => exact ⟨(12 + r3).toNat, by rw [Int.toNat_of_nonneg (by omega)], by omega, hide (HC3.out.le (by omega)), HK3⟩
  case rest =>
    obtain ⟨m, rfl, hm, HCm, HKm⟩ := hcut
    clear HC2 HK2
    go_wp2_with fail
    go_loopw [3, 4] (fun s3 s4 wr => ∃ (k : Nat) (us : List Value) (L : List (List Int)), s4 = .int .i64 k ∧ k + L.length = m ∧ Hid (LO w wr c len cap (N + 6 + 30 * L.length) a s3 us L)) (fun _ s _ => (intOf s).toNat)
    case atStart => exact ⟨m, [], [], rfl, by simp, hide ⟨World.ownsRow_nil _ _ _ _, fun i hi => absurd hi (Nat.not_lt_zero _), fun i => by simp, HCm.out, HKm.out⟩⟩
    case round =>
      obtain ⟨k, us, L, rfl, hkm, HL⟩ := hrel
      cases k with
      | succ k =>
        have i1 : (0 : Int) < ((k + 1 : Nat) : Int) := by omega
        have hll : L.length ≤ 12 := by omega
        have hsz := HL.out.kp.size
        go_wp2_with fail
        refine (drawO_any HL.out.cur (by omega) (fun b off e hl => Nat.lt_of_lt_of_le (HOLD.out b off e hl) hsz)).mono ?_
        rintro e w4 ⟨v4, xs, rfl, hx4, own4, hc4, hk4⟩
        obtain ⟨a4, c4, rfl⟩ : ∃ a4 c4, v4 = .slice a4 xs.length c4 := by
          rcases own4.2 with ⟨hv, hn⟩ | ⟨g, cp, cur, hv, _⟩
          · exact ⟨none, 0, by rw [hn]; exact hv⟩
          · exact ⟨_, _, hv⟩
        have HX4 := hide own4
        have HC4 := hide hc4
        have HK4 := hide hk4
        have HO4 := hide (o_kp HL.out.outer hk4 hcw)
        have hs4 := hk4.size
        clear own4 hc4 hk4
        go_wp2_with (first | (at_builtin; refine wpList_append_lies _ rfl _ _ 23 rfl w.heap.size 36 i0 (.agg #[.slice none 0 0]) 1 24 Try.underlying23 hi hz0 hz1 hz2 rfl (by decide) _ _ _ rfl (HO4.out.alloc _) ⟨w4.heap.size, 0, none⟩ 1 1 [.slice a4 xs.length c4] rfl rfl (newS_one' _ _ _ rfl) (fun u hu => by simp at hu; subst hu; rfl) (by omega) (by unfold maxLen; omega) (by omega) (by simp; omega) (w4.heap.size + 1) (by simp) ?_))
        intro G C w5 own5 hg5 hat5 hlt5
        have HL5 := hide ((HL.out.step hcw HOLD.out HK4.out HC4.out hx4 HX4.out hg5 hat5 own5).le (show _ ≤ N + 6 + 30 * (L ++ [xs]).length by simp; omega))
        clear own5 hg5
        go_wp2_with fail
        go_roundw
        case rel => exact ⟨k, _, L ++ [xs], by go_num, by simp; omega, HL5⟩
        case measure => simp only [intOf]; omega
      | zero =>
        have HLE := hide (HL.out.le (show N + 6 + 30 * L.length ≤ N + 500 by omega))
        go_wp2_with fail
        go_ret
        exact ⟨_, us, L, rfl, by omega, HLE.out⟩

set_option maxRecDepth 100000 in
set_option maxHeartbeats 1000000 in
theorem few_any {c len cap N : Nat} {a : Option Addr} {w : World} (hc : Cur w c a len cap N) (hN : N ≤ 700000000) :
    Calls Try.prog 46 #[.pointer (some ⟨c, 0, none⟩)] w fun e w' => ∃ r : Int, e = .returned (.int .i64 r) ∧ Cur w' c a len cap (N + 4) ∧ Kp c w w' := by
  have hcw := hc.1
  have HC := hide hc
  clear hc
  go_enter Try.func46, Try.ntmps46
  go_wp2_with fail
  refine (one_any 12 (by omega) HC.out (by omega)).mono ?_
  rintro e w1 ⟨r1, rfl, hc1, hk1⟩
  have HC1 := hide hc1
  have HK1 := hide hk1
  have hz := hk1.size
  clear hc1 hk1 HC
  cases r1
  · go_wp2_with fail
    refine (pick_any 9 (by omega) HC1.out (by omega)).mono ?_
    rintro e w2 ⟨r2, rfl, _, _, hc2, hk2⟩
    have HC2 := hide hc2
    have HK2 := hide (HK1.out.trans hk2)
    clear hc2 hk2
    go_wp2_with fail
    go_ret
    exact ⟨r2, rfl, HC2.out.le (by omega), HK2.out⟩
  · have HZ : Hid (∀ i, i < 3 → ∃ z : Int, (w1.alloc (.cells #[.int .i64 (-1), .int .i64 40, .int .i64 41] 3)).cell? ⟨w1.heap.size, i, none⟩ = some (.int .i64 z)) := hide fun i hi => by
      match i, hi with
      | 0, _ => exact ⟨-1, by simp [go_sem]⟩
      | 1, _ => exact ⟨40, by simp [go_sem]⟩
      | 2, _ => exact ⟨41, by simp [go_sem]⟩
    go_wp2_with fail
    refine (among_any (HC1.out.below (o_below_new _ _)) (by omega) (by omega) (by omega) (by simp) (by omega) HZ.out).mono ?_
    rintro e w2 ⟨r2, rfl, hc2, hk2⟩
    have HC2 := hide hc2
    have HK2 := hide (HK1.out.trans ((Kp.of_below (o_below_new w1 _)).trans hk2))
    clear hc2 hk2
    go_wp2_with fail
    go_ret
    exact ⟨r2, rfl, HC2.out.le (by omega), HK2.out⟩
end Go.Proofs.Ytdlpbemjbmgbeaa
