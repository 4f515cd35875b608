/-
  In one: Nl, Pm, Pn, Sc15, Nm, Nq, Sd15, Ti15, Nb, Sa15, LPo, Ne, Mp, Nc, Mq0, Mq, Mr, Ms, Nd, Nf, LPoW, Tg15, Tj15.
-/
import Derived.Test.YtlbagigghpiifabGreatW3
import Derived.Test.YtlbagigghpiifabGreatW1
import Derived.OwnWalk
import Derived.Laws.Concat
import Derived.Laws.IdiomStrings
import Derived.Maps.RangeWalk
import Derived.Maps.OwnSet
import Derived.Maps.OwnOps
import Derived.Deep.RegionHeld3
import Derived.Sort.OwnSortedInts
import Derived.Deep.AppendLies
import Derived.Deep.DeepCutAuto
namespace Go.Proofs.YtlbagigghpiifabGreat
open Go.RowKit

def LAt (w : World) (b off : Nat) (xs : List (Int × Int)) : Prop :=
  ∀ i, i < xs.length → w.cell? ⟨b, off + i * 2, none⟩ = some (.int .i64 (xs.getD i (0, 0)).1) ∧ w.cell? ⟨b, off + i * 2 + 1, none⟩ = some (.int .i64 (xs.getD i (0, 0)).2)
theorem LAt.below {w w' : World} {B b off : Nat} {xs : List (Int × Int)} (h : LAt w b off xs) (hb : Below B w w') (hlt : b < B) : LAt w' b off xs :=
  fun i hi => ⟨(hb.cell (p := ⟨b, off + i * 2, none⟩) hlt).trans (h i hi).1, (hb.cell (p := ⟨b, off + i * 2 + 1, none⟩) hlt).trans (h i hi).2⟩
theorem LAt.row {w : World} {b off : Nat} {xs : List (Int × Int)} (h : LAt w b off xs) (hb : b < w.heap.size) : LRow w (some ⟨b, off, none⟩) xs := Or.inr ⟨b, off, rfl, hb, h⟩
theorem setL1 {W : World} {b i : Nat} {x : Value} (h : (W.cell? ⟨b, i, none⟩).isSome = true) : (W.setCell ⟨b, i, none⟩ x).cell? ⟨b, i, none⟩ = some x := by
  obtain ⟨v, hv⟩ := Option.isSome_iff_exists.1 h
  exact World.cell?_setCell_same _ _ _ hv
set_option maxHeartbeats 400000 in
theorem toLine_any (n d : Int) (w : World) :
    Calls Tryz.prog 51 #[.agg #[.int .i64 n, .int .i64 d]] w fun e w' => e = .returned (.agg #[.int .i64 n, .int .i64 d]) ∧ Below w.heap.size w w' := by
  go_enter Tryz.func51, Tryz.ntmps51
  go_wp2
  exact bodyPost_ret (v := .agg #[.int .i64 n, .int .i64 d]) (by simp [results, Tryz.results51, go_sem]) rfl ⟨rfl, (((Below.refl _ _).alloc (Nat.le_refl _) _).alloc (by simp) _).alloc (by simp; omega) _⟩
set_option maxHeartbeats 400000 in
theorem eqLine_same (n d : Int) (w : World) :
    Calls Tryz.prog 59 #[.agg #[.int .i64 n, .int .i64 d], .agg #[.int .i64 n, .int .i64 d]] w fun e w' => e = .returned (.bool true) ∧ Below w.heap.size w w' := by
  go_enter Tryz.func59, Tryz.ntmps59
  go_wp2
  go_ret
  exact ⟨rfl, ((Below.refl _ _).alloc (Nat.le_refl _) _).alloc (by simp) _⟩
set_option maxHeartbeats 400000 in
theorem szL_yes (a : Option Addr) (len cap : Nat) (left : Int) (w : World) (h0 : 0 ≤ left) (h1 : left ≤ 1048576) (h : (len : Int) ≤ left) :
    Calls Tryz.prog 20 #[.slice a len cap, .int .i64 left] w fun e w' => e = .returned (.int .i64 (left - len)) ∧ w' = w := by
  have h2 : ¬ left - (len : Int) < 0 := by omega
  go_enter Tryz.func20, Tryz.ntmps20
  go_wp2
  go_ret
  exact ⟨rfl, rfl⟩

set_option maxHeartbeats 400000 in
theorem szL_no (a : Option Addr) (len cap : Nat) (left : Int) (w : World) (h0 : 0 ≤ left) (h1 : left ≤ 1048576) (hm : len ≤ maxLen) (h : left < (len : Int)) :
    Calls Tryz.prog 20 #[.slice a len cap, .int .i64 left] w fun e w' => e = .returned (.int .i64 (-1)) ∧ w' = w := by
  unfold maxLen at hm
  have h2 : left - (len : Int) < 0 := by omega
  have h3 : wrap64 (left - (len : Int)) = left - (len : Int) := wrap_id' _ (by omega) (by omega)
  go_enter Tryz.func20, Tryz.ntmps20
  go_wp2
  go_ret
  exact ⟨rfl, rfl⟩

theorem makeL_run (n : Nat) (hn : n ≤ 1048576) (w : World) : (Instr.makeSlice 36 (.int .i64 (n : Int)) (.int .i64 (n : Int))).run Tryz.prog w = .ok (.slice (some ⟨w.heap.size, 0, none⟩) n n) (w.alloc (.cells (madeCells #[.int .i64 0, .int .i64 0] (n * 2)) 85)) := by
  have h : (Tryz.prog.info? 85).map (fun i => (i.zero, i.size, i.bytes)) = some (some (.agg #[.int .i64 0, .int .i64 0]), 2, 16) := by kernel_rfl
  obtain ⟨i, hi, hzz⟩ := Option.map_eq_some_iff.1 h
  simp only [Prod.mk.injEq] at hzz
  obtain ⟨hz, hs, hb⟩ := hzz
  have := run_make (P := Tryz.prog) w 36 85 i _ Tryz.underlying36 hi hz .i64 .i64 (n : Int) (n : Int) (by omega) (by omega) (by rw [hb]; omega) (by omega)
  simpa [hs, Value.cells] using this
theorem madeL_cell (w : World) (n j : Nat) (t : TypeId) (hj : j < n * 2) : (w.alloc (.cells (madeCells #[.int .i64 0, .int .i64 0] (n * 2)) t)).cell? ⟨w.heap.size, j, none⟩ = some (.int .i64 0) := by
  have h2 : j % 2 = 0 ∨ j % 2 = 1 := by omega
  have h3 : (madeCells #[.int .i64 0, .int .i64 0] (n * 2))[j]? = some (.int .i64 0) := by
    rcases h2 with h2 | h2 <;> simp [madeCells, hj, h2]
  simp only [World.cell?, (MapKept.heap_alloc w _).1]
  simpa using h3
theorem putL2 {W : World} {B i : Nat} {x y : Value} (h0 : (W.cell? ⟨B, i, none⟩).isSome = true) (h1 : (W.cell? ⟨B, i + 1, none⟩).isSome = true) :
    ((W.setCell ⟨B, i, none⟩ x).setCell ⟨B, i + 1, none⟩ y).cell? ⟨B, i, none⟩ = some x ∧ ((W.setCell ⟨B, i, none⟩ x).setCell ⟨B, i + 1, none⟩ y).cell? ⟨B, i + 1, none⟩ = some y ∧
    (∀ j, j ≠ i → j ≠ i + 1 → ((W.setCell ⟨B, i, none⟩ x).setCell ⟨B, i + 1, none⟩ y).cell? ⟨B, j, none⟩ = W.cell? ⟨B, j, none⟩) ∧ (∀ a, ((W.setCell ⟨B, i, none⟩ x).setCell ⟨B, i + 1, none⟩ y).frozen? a = W.frozen? a) := by
  refine ⟨?_, ?_, ?_, ?_⟩
  · rw [World.cell?_setCell_other _ _ _ _ (by simp)]; exact setL1 h0
  · exact setL1 (by rw [World.cell?_setCell_other _ _ _ _ (by simp)]; exact h1)
  · intro j hj hj'
    rw [World.cell?_setCell_other _ _ _ _ (fun e => hj' (by injection e with _ e2; exact e2.symm)), World.cell?_setCell_other _ _ _ _ (fun e => hj (by injection e with _ e2; exact e2.symm))]
  · intro a; rw [World.frozen?_setCell, World.frozen?_setCell]
theorem madeL_frozen (w : World) (c : Array Value) (j : Nat) (t : TypeId) : (w.alloc (.cells c t)).frozen? ⟨w.heap.size, j, none⟩ = false := by simp [go_sem]

theorem takeL_row {w : World} {b off : Nat} {xs : List (Int × Int)} {k : Nat} (h : LAt w b off (xs.take k)) (hk : k < xs.length) (x1 x2 : Int) (hx : xs.getD k (0, 0) = (x1, x2)) {w' : World}
    (hw : ∀ j, j < off + k * 2 → w'.cell? ⟨b, j, none⟩ = w.cell? ⟨b, j, none⟩) (h0 : w'.cell? ⟨b, off + k * 2, none⟩ = some (.int .i64 x1)) (h1 : w'.cell? ⟨b, off + k * 2 + 1, none⟩ = some (.int .i64 x2)) : LAt w' b off (xs.take (k + 1)) := by
  intro i hi
  simp only [List.length_take] at hi
  by_cases e : i < k
  · have hh := h i (by simp only [List.length_take]; omega)
    have eq : (xs.take (k + 1)).getD i (0, 0) = (xs.take k).getD i (0, 0) := by
      simp [e, show i < k + 1 by omega]
    rw [eq]
    exact ⟨(hw _ (by omega)).trans hh.1, (hw _ (by omega)).trans hh.2⟩
  · have e2 : i = k := by omega
    subst e2
    have eq : (xs.take (i + 1)).getD i (0, 0) = (x1, x2) := by
      rw [← hx]; simp
    rw [eq]
    exact ⟨h0, h1⟩

set_option maxHeartbeats 1000000 in
theorem toL_row (a : Option Addr) (cap : Nat) (xs : List (Int × Int)) (w : World) (hlen : xs.length ≤ 1048576) (hr : xs = [] ∨ ∃ b off, a = some ⟨b, off, none⟩ ∧ b < w.heap.size ∧ LAt w b off xs) :
    Calls Tryz.prog 26 #[.slice a xs.length cap] w fun e w' => e = .returned (.slice (some ⟨w.heap.size, 0, none⟩) xs.length xs.length) ∧ Below w.heap.size w w' ∧ w.heap.size < w'.heap.size ∧ LAt w' w.heap.size 0 xs ∧ Loose w' w.heap.size (xs.length * 2) := by
  have hmk := makeL_run xs.length hlen
  have HR := hide hr
  clear hr
  go_enter Tryz.func26, Tryz.ntmps26
  go_wp2_with fail
  go_loopw [4] (fun s wr => ∃ (k : Nat), s = .int .i64 k ∧ k ≤ xs.length ∧ LAt wr w.heap.size 0 (xs.take k) ∧ Hid (∀ j, j < xs.length * 2 → (wr.cell? ⟨w.heap.size, j, none⟩).isSome = true ∧ wr.frozen? ⟨w.heap.size, j, none⟩ = false) ∧ Below w.heap.size w wr ∧ w.heap.size < wr.heap.size) (fun s _ => xs.length - (intOf s).toNat)
  case atStart =>
    exact ⟨0, rfl, Nat.zero_le _, fun i hi => by simp at hi, hide fun j hj => ⟨by rw [madeL_cell _ _ _ _ hj]; rfl, madeL_frozen _ _ _ _⟩, (Below.refl _ _).alloc (Nat.le_refl _) _, by simp⟩
  case round =>
    obtain ⟨k, rfl, hk, hrow, HJ, hB, hz⟩ := hrel
    by_cases hlt : k < xs.length
    · rcases HR.out with hnil | ⟨b, off, rfl, hb, hr⟩
      · rw [hnil] at hlt; simp at hlt
      · obtain ⟨r0, r1⟩ := hr k hlt
        have r0' := (hB.cell (p := ⟨b, off + k * 2, none⟩) hb).trans r0
        have r1' := (hB.cell (p := ⟨b, off + k * 2 + 1, none⟩) hb).trans r1
        generalize hgx : (xs.getD k (0, 0)) = x at *
        obtain ⟨x1, x2⟩ := x
        have HG := hide hgx
        have HROW := hide hrow
        clear r0 r1 hgx hrow hmk
        go_wp2_with fail
        refine (toLine_any x1 x2 _).mono ?_
        rintro e w2 ⟨rfl, hb2⟩
        obtain ⟨hc2, hf2⟩ := bcell hb2
        have q0 := HJ.out (k * 2) (by omega)
        have q1 := HJ.out (k * 2 + 1) (by omega)
        obtain ⟨v0, hv0⟩ := Option.isSome_iff_exists.1 q0.1
        obtain ⟨v1, hv1⟩ := Option.isSome_iff_exists.1 q1.1
        have p0 : w2.cell? ⟨w.heap.size, k * 2, none⟩ = some v0 := (hc2 _ _ hz).trans hv0
        have p1 : w2.cell? ⟨w.heap.size, k * 2 + 1, none⟩ = some v1 := (hc2 _ _ hz).trans hv1
        have p2 : w2.frozen? ⟨w.heap.size, k * 2, none⟩ = false := (hf2 _ _ hz).trans q0.2
        have p3 : w2.frozen? ⟨w.heap.size, k * 2 + 1, none⟩ = false := (hf2 _ _ hz).trans q1.2
        go_wp2_with fail
        obtain ⟨u0, u1, u2, u3⟩ := putL2 (W := w2) (B := w.heap.size) (i := k * 2) (x := .int .i64 x1) (y := .int .i64 x2) (by rw [p0]; rfl) (by rw [p1]; rfl)
        refine ⟨⟨k + 1, by go_num, by omega, ?_, ?_, ?_, ?_⟩, by simp only [intOf]; omega⟩
        · have hrow2 := (HROW.out).below hb2 hz
          exact takeL_row hrow2 hlt x1 x2 HG.out (fun j hj => u2 j (by omega) (by omega)) (by simpa using u0) (by simpa using u1)
        · refine hide fun j hj => ⟨?_, (u3 _).trans ((hf2 _ _ hz).trans (HJ.out j hj).2)⟩
          by_cases e0 : j = k * 2
          · subst e0; rw [u0]; rfl
          · by_cases e1 : j = k * 2 + 1
            · subst e1; rw [u1]; rfl
            · rw [u2 j e0 e1, hc2 _ _ hz]; exact (HJ.out j hj).1
        · exact ((hB.trans (hb2.mono (by omega))).setCell (Nat.le_refl _) _).setCell (Nat.le_refl _) _
        · have := hb2.size; simp; omega
    · have hke : k = xs.length := by omega
      subst hke
      rw [List.take_length] at hrow
      go_wp2_with fail
      go_ret
      exact ⟨rfl, hB, hz, hrow, HJ.out⟩

theorem heldLE {w w1 w2 : World} {b c i : Nat} {v0 v1 v2 v3 : Value} (hb : b < w.heap.size) (hc : c < w.heap.size)
    (s : w1.cell? ⟨b, i, none⟩ = some v0 ∧ w1.cell? ⟨b, i + 1, none⟩ = some v1 ∧ w1.cell? ⟨c, i, none⟩ = some v2 ∧ w1.cell? ⟨c, i + 1, none⟩ = some v3 ∧ Below w.heap.size w w1 ∧ w.heap.size ≤ w1.heap.size) (hb2 : Below w1.heap.size w1 w2) :
    w2.cell? ⟨b, i, none⟩ = some v0 ∧ w2.cell? ⟨b, i + 1, none⟩ = some v1 ∧ w2.cell? ⟨c, i, none⟩ = some v2 ∧ w2.cell? ⟨c, i + 1, none⟩ = some v3 ∧ Below w.heap.size w w2 ∧ w.heap.size ≤ w2.heap.size := by
  obtain ⟨s0, s1, s2, s3, s4, s5⟩ := s
  obtain ⟨h, _⟩ := bcell hb2
  exact ⟨(h _ _ (by omega)).trans s0, (h _ _ (by omega)).trans s1, (h _ _ (by omega)).trans s2, (h _ _ (by omega)).trans s3, s4.trans (hb2.mono s5), Nat.le_trans s5 hb2.size⟩

set_option maxHeartbeats 2000000 in
theorem eqL_same (b c cap cap' : Nat) (xs : List (Int × Int)) (w : World) (hlen : xs.length ≤ 1048576) (hb : b < w.heap.size) (hc : c < w.heap.size) (h1 : LAt w b 0 xs) (h2 : LAt w c 0 xs) :
    Calls Tryz.prog 31 #[.slice (some ⟨b, 0, none⟩) xs.length cap, .slice (some ⟨c, 0, none⟩) xs.length cap'] w fun e w' => e = .returned (.bool true) ∧ Below w.heap.size w w' := by
  have hne : ((xs.length : Int) != (xs.length : Int)) = false := by simp
  go_enter Tryz.func31, Tryz.ntmps31
  go_wp2_with fail
  go_loopw [5] (fun s wr => ∃ (k : Nat), s = .int .i64 k ∧ k ≤ xs.length ∧ Below w.heap.size w wr ∧ w.heap.size ≤ wr.heap.size) (fun s _ => xs.length - (intOf s).toNat)
  case atStart => exact ⟨0, rfl, Nat.zero_le _, Below.refl _ _, Nat.le_refl _⟩
  case round =>
    obtain ⟨k, rfl, hk, hB, hz⟩ := hrel
    by_cases hlt : k < xs.length
    · obtain ⟨r0, r1⟩ := h1 k hlt
      obtain ⟨s0, s1⟩ := h2 k hlt
      have r0' := (hB.cell (p := ⟨b, 0 + k * 2, none⟩) hb).trans r0
      have r1' := (hB.cell (p := ⟨b, 0 + k * 2 + 1, none⟩) hb).trans r1
      have s0' := (hB.cell (p := ⟨c, 0 + k * 2, none⟩) hc).trans s0
      have s1' := (hB.cell (p := ⟨c, 0 + k * 2 + 1, none⟩) hc).trans s1
      simp only [Nat.zero_add] at r0' r1' s0' s1'
      generalize (xs.getD k (0, 0)) = x at *
      obtain ⟨x1, x2⟩ := x
      clear r0 r1 s0 s1
      have i0 : (0 : Int) ≤ (k : Int) := by omega
      have i1 : (k : Int) < (xs.length : Int) := by omega
      go_wp2_with fail
      go_region_held3 (fun w' => w'.cell? ⟨b, k * 2, none⟩ = some (.int .i64 x1) ∧ w'.cell? ⟨b, k * 2 + 1, none⟩ = some (.int .i64 x2) ∧ w'.cell? ⟨c, k * 2, none⟩ = some (.int .i64 x1) ∧ w'.cell? ⟨c, k * 2 + 1, none⟩ = some (.int .i64 x2) ∧ Below w.heap.size w w' ∧ w.heap.size ≤ w'.heap.size)
        (first | exact ⟨r0', r1', s0', s1', hB.drew, hz⟩ | assumption | exact heldLE hb hc ‹_› (by assumption))
        (first
        | (go_at_call 59; refine (eqLine_same _ _ _).mono ?_; rintro e w1 ⟨rfl, hb1⟩))
      go_wp2_with fail
      obtain ⟨_, _, _, _, hB2, hz2⟩ := ‹_ ∧ _ ∧ _ ∧ _ ∧ _ ∧ _›
      exact ⟨⟨k + 1, by go_num, by omega, hB2, hz2⟩, by simp only [intOf]; omega⟩
    · go_wp2_with fail
      go_ret
      exact ⟨rfl, hB⟩

end Go.Proofs.YtlbagigghpiifabGreat
namespace Go.Proofs.YtlbagigghpiifabGreat
open Go.RowKit

/-- Nothing has turned but the blocks x and y; new blocks may be there. -/
structure Off2 (w w' : World) (x y : Nat) : Prop where
  os : w'.os = w.os
  tape : w'.tape = w.tape
  output : w'.output = w.output
  size : w.heap.size ≤ w'.heap.size
  block : ∀ b, b < w.heap.size → b ≠ x → b ≠ y → w'.heap[b]? = w.heap[b]?
theorem Off2.below {w w' : World} {x y k : Nat} (h : Off2 w w' x y) (hx : k ≤ x) (hy : k ≤ y) (hk : k ≤ w.heap.size) : Below k w w' :=
  ⟨h.os, h.tape, h.output, h.size, fun b hb => h.block b (by omega) (by omega) (by omega)⟩
theorem own_near {w : World} {base n g cap : Nat} {xs : List Value} (h : w.ownsRow base 3 1 (.slice (some ⟨g, 0, none⟩) n cap) n xs) : g < w.heap.size := by
  rcases h.2 with ⟨h0, _⟩ | ⟨g', cap', cur, hv, h2, h3, _⟩
  · cases h0
  · cases hv; exact (Array.getElem?_eq_some_iff.1 h3).1

end Go.Proofs.YtlbagigghpiifabGreat
namespace Go.Proofs.YtlbagigghpiifabGreat
open Go.RowKit

/-- The list that a value owns holds k, k + 1, .. -/
def HeldV (w : World) (v : Value) (n : Nat) (k : Int) : Prop :=
  (v = .slice none 0 0 ∧ n = 0) ∨ ∃ g cap, v = .slice (some ⟨g, 0, none⟩) n cap ∧ g < w.heap.size ∧ ∀ j : Nat, j < n → w.cell? ⟨g, j, none⟩ = some (.int .i64 (k + j))
theorem HeldV.keep {w w' : World} {v : Value} {n : Nat} {k : Int} (h : HeldV w v n k) (hs : w.heap.size ≤ w'.heap.size) (hb : ∀ g, v.ownBlock = some g → w'.heap[g]? = w.heap[g]?) : HeldV w' v n k := by
  rcases h with h | ⟨g, cap, rfl, hl, hc⟩
  · exact Or.inl h
  · exact Or.inr ⟨g, cap, rfl, Nat.lt_of_lt_of_le hl hs, fun j hj => (World.cell?_of_block (w := w) (a := ⟨g, j, none⟩) (hb g rfl)).trans (hc j hj)⟩
theorem HeldV.below {w w' : World} {v : Value} {n : Nat} {k : Int} (h : HeldV w v n k) (hb : Below w.heap.size w w') : HeldV w' v n k := by
  rcases h with h | ⟨g, cap, rfl, hl, hc⟩
  · exact Or.inl h
  · exact Or.inr ⟨g, cap, rfl, Nat.lt_of_lt_of_le hl hb.size, fun j hj => (hb.cell (p := ⟨g, j, none⟩) hl).trans (hc j hj)⟩
theorem own_keep {w w' : World} {base n : Nat} {v : Value} {xs : List Value} (h : w.ownsRow base 3 1 v n xs) (hb : ∀ g, v.ownBlock = some g → g < w.heap.size → w'.heap[g]? = w.heap[g]?) : w'.ownsRow base 3 1 v n xs := by
  rcases h with ⟨h0, h | ⟨g', cap, cur, rfl, h2, h3, h4⟩⟩
  · exact ⟨h0, Or.inl h⟩
  · exact ⟨h0, Or.inr ⟨g', cap, cur, rfl, h2, (hb g' rfl (Array.getElem?_eq_some_iff.1 h3).1).trans h3, h4⟩⟩
theorem own_below {w w' : World} {base n : Nat} {v : Value} {xs : List Value} (h : w.ownsRow base 3 1 v n xs) (hb : Below w.heap.size w w') : w'.ownsRow base 3 1 v n xs := own_keep h fun _ _ hl => hb.block _ hl
theorem own_row {w : World} {base n : Nat} {v : Value} {xs : List Int} (hx : xs.length = n) (h : w.ownsRow base 3 1 v n (ints xs)) : ∃ a cap, v = .slice a n cap ∧ ARow w a xs := by
  rcases h.2 with ⟨rfl, hn⟩ | ⟨g, cap, cur, rfl, _⟩
  · subst hn; exact ⟨none, 0, rfl, Or.inl (List.length_eq_zero_iff.1 hx)⟩
  · exact ⟨_, _, rfl, arow_owns hx.symm h⟩
theorem grown_under {w w' : World} {base n k : Nat} {v : Value} {xs : List Value} (hg : w.grownBy w' v.ownBlock) (h : w.ownsRow base 3 1 v n xs) (hk : k ≤ base) (hs : k ≤ w.heap.size) : Below k w w' :=
  ⟨hg.os, hg.tape, hg.output, hg.size, fun b hb => hg.block b (by omega) (fun he => by have := h.lt b he.symm; omega)⟩

theorem eqV_any {v v' : Value} {base base' n : Nat} {xs : List Int} {w : World} (hx : xs.length = n) (hn : n ≤ 1048576) (h1 : w.ownsRow base 3 1 v n (ints xs)) (h2 : w.ownsRow base' 3 1 v' n (ints xs)) :
    Calls Tryz.prog 32 #[v, v'] w fun e w' => e = .returned (.bool true) ∧ Below w.heap.size w w' := by
  obtain ⟨a, c, rfl, r1⟩ := own_row hx h1
  obtain ⟨a', c', rfl, r2⟩ := own_row hx h2
  exact eqI_b hx hn r1 r2
theorem markV_any {v : Value} {base n : Nat} {xs : List Int} {k : Int} {w : World} (hx : xs.length = n) (hn : n ≤ 1048576) (k0 : 0 ≤ k) (k1 : k ≤ 1000000000) (h : w.ownsRow base 3 1 v n (ints xs)) :
    Calls Tryz.prog 39 #[v, .int .i64 k] w fun e w' => e = .returned (.int .i64 (k + n)) ∧ HeldV w' v n k ∧ w.grownBy w' v.ownBlock := by
  have h' := h
  rcases h.2 with ⟨rfl, h0⟩ | ⟨g, cap, cur, rfl, h1, h2, _⟩
  · subst h0
    refine (mark_zero _ _ _ _).mono ?_
    rintro e w' ⟨rfl, rfl⟩
    exact ⟨by simp, Or.inl ⟨rfl, rfl⟩, World.grownBy.refl _ _⟩
  · refine (mark_any g n cap base xs k w hx (by omega) k0 (by omega) h').mono ?_
    rintro e w' ⟨rfl, ⟨ys, hy, hys, own⟩, hg⟩
    refine ⟨rfl, Or.inr ⟨g, cap, rfl, own_near own, fun j hj => ?_⟩, hg⟩
    rw [own.cellAt j (by omega), ints_get ys j (by omega), hys j hj]
theorem heldV_any {v : Value} {n : Nat} {k : Int} {w : World} (hn : n ≤ 1048576) (k0 : 0 ≤ k) (k1 : k ≤ 1000000000) (h : HeldV w v n k) :
    Calls Tryz.prog 40 #[v, .int .i64 k] w fun e w' => e = .returned (.int .i64 (k + n)) ∧ w' = w := by
  rcases h with ⟨rfl, rfl⟩ | ⟨g, cap, rfl, _, hc⟩
  · refine (held_zero _ _ _ _).mono ?_
    rintro e w' ⟨rfl, rfl⟩
    exact ⟨by simp, rfl⟩
  · exact held_any g n cap k w (by omega) k0 (by omega) hc
end Go.Proofs.YtlbagigghpiifabGreat
namespace Go.Proofs.YtlbagigghpiifabGreat
open Go.RowKit

/-- A sheet of the laws' own: two lists in blocks of their own, that can be written. -/
structure TS (w : World) (X Y n n' : Nat) (gs : List Gd) (ls : List (Int × Int)) : Prop where
  g : GRow w (some ⟨X, 0, none⟩) gs
  l : LRow w (some ⟨Y, 0, none⟩) ls
  lg : Loose w X (n * 2)
  ll : Loose w Y (n' * 2)
  ne : X ≠ Y
  lx : X < w.heap.size
  ly : Y < w.heap.size
theorem TS.below {w w' : World} {X Y n n' : Nat} {gs : List Gd} {ls : List (Int × Int)} (h : TS w X Y n n' gs ls) (hb : Below w.heap.size w w') : TS w' X Y n n' gs ls :=
  ⟨h.g.below hb, h.l.below hb, h.lg.below hb, h.ll.below hb, h.ne, Nat.lt_of_lt_of_le h.lx hb.size, Nat.lt_of_lt_of_le h.ly hb.size⟩
set_option maxHeartbeats 2000000 in
theorem szSh_any {a a' : Option Addr} {n c n' c' : Nat} {left : Int} {gs : List Gd} {w : World} (HN : Hid (gs.length = n)) (hm : Hid (n ≤ maxLen)) (hf : Hid (Fits gs)) (h : Hid (GRow w a gs)) (hm' : Hid (n' ≤ maxLen)) (h0 : 0 ≤ left) (h1 : left ≤ 1048576) :
    Calls Tryz.prog 5 #[.agg #[.slice a n c, .slice a' n' c'], .int .i64 left] w fun e w' => ∃ r : Int, e = .returned (.int .i64 r) ∧ r ≤ 1048576 ∧ (r = -1 ∨ (0 ≤ r ∧ n ≤ 1048576 ∧ n' ≤ 1048576 ∧ Short gs)) ∧ Below w.heap.size w w' := by
  have HB := hide (below_new w (.cells #[.slice a n c, .slice a' n' c'] 25))
  have PB := hide (PBox.new w (.slice a n c) (.slice a' n' c') 25)
  have HG := hide (h.out.below HB.out)
  by_cases hl : (n : Int) ≤ left
  · go_enter Tryz.func5, Tryz.ntmps5
    go_wp2_with fail
    refine (szG_any HN.out h0 h1 hl hf.out HG.out).mono ?_
    rintro e w1 ⟨r, rfl, hr1, hr2, hb1⟩
    have HB1 := hide (HB.out.trans (hb1.mono HB.out.size))
    have p1 := (PB.out.below hb1).2.1
    rcases hr2 with rfl | ⟨hr0, hsh⟩
    · clear hb1
      go_wp2_with fail
      go_ret
      exact ⟨-1, rfl, by omega, Or.inl rfl, HB1.out⟩
    · have HSh := hide (short_of HN.out hsh)
      have hn : n ≤ 1048576 := by omega
      have hr3 : ¬ r < 0 := by omega
      clear hsh hb1
      by_cases hl2 : (n' : Int) ≤ r
      · have hr4 : ¬ r - (n' : Int) < 0 := by omega
        go_wp2_with fail
        refine (szL_yes a' n' c' r _ hr0 hr1 hl2).mono ?_
        rintro e w2 ⟨rfl, hw2⟩
        obtain rfl : w1 = w2 := hw2.symm
        go_wp2_with fail
        go_ret
        exact ⟨_, rfl, by omega, Or.inr ⟨by omega, hn, by omega, HSh.out⟩, HB1.out⟩
      · go_wp2_with fail
        refine (szL_no a' n' c' r _ hr0 hr1 hm'.out (by omega)).mono ?_
        rintro e w2 ⟨rfl, hw2⟩
        obtain rfl : w1 = w2 := hw2.symm
        go_wp2_with fail
        go_ret
        exact ⟨-1, rfl, by omega, Or.inl rfl, HB1.out⟩
  · go_enter Tryz.func5, Tryz.ntmps5
    go_wp2_with fail
    refine (szG_long h0 h1 hm.out (by omega)).mono ?_
    rintro e w1 ⟨rfl, hw1⟩
    obtain rfl := hw1.symm
    go_wp2_with fail
    go_ret
    exact ⟨-1, rfl, by omega, Or.inl rfl, HB.out⟩
theorem toL_n15 (a : Option Addr) (c n : Nat) (ls : List (Int × Int)) (w : World) (hn : ls.length = n) (hlen : n ≤ 1048576) (hr : LRow w a ls) :
    Calls Tryz.prog 26 #[.slice a n c] w fun e w' => e = .returned (.slice (some ⟨w.heap.size, 0, none⟩) n n) ∧ Below w.heap.size w w' ∧ w.heap.size < w'.heap.size ∧ LRow w' (some ⟨w.heap.size, 0, none⟩) ls ∧ Loose w' w.heap.size (n * 2) := by
  subst hn
  exact (toL_row a c ls w hlen hr).mono fun e w' ⟨he, hb, hz, hl, hL⟩ => ⟨he, hb, hz, hl.row hz, hL⟩
theorem grow_low {w w' : World} {B : Nat} {gs : List Gd} (h : GRow w (some ⟨B, 0, none⟩) gs) (hs : w.heap.size ≤ w'.heap.size) (hb : w'.heap[B]? = w.heap[B]?) : GRow w' (some ⟨B, 0, none⟩) gs := by
  rcases h with h | ⟨b, off, ha, hl, hc⟩
  · exact Or.inl h
  · cases ha
    exact Or.inr ⟨B, 0, rfl, Nat.lt_of_lt_of_le hl hs, fun i hi => ⟨(World.cell?_of_block (w := w) (a := ⟨B, 0 + i * 2, none⟩) hb).trans (hc i hi).1, (World.cell?_of_block (w := w) (a := ⟨B, 0 + i * 2 + 1, none⟩) hb).trans (hc i hi).2⟩⟩
theorem lrow_low {w w' : World} {B : Nat} {ls : List (Int × Int)} (h : LRow w (some ⟨B, 0, none⟩) ls) (hs : w.heap.size ≤ w'.heap.size) (hb : w'.heap[B]? = w.heap[B]?) : LRow w' (some ⟨B, 0, none⟩) ls := by
  rcases h with h | ⟨b, off, ha, hl, hc⟩
  · exact Or.inl h
  · cases ha
    exact Or.inr ⟨B, 0, rfl, Nat.lt_of_lt_of_le hl hs, fun i hi => ⟨(World.cell?_of_block (w := w) (a := ⟨B, 0 + i * 2, none⟩) hb).trans (hc i hi).1, (World.cell?_of_block (w := w) (a := ⟨B, 0 + i * 2 + 1, none⟩) hb).trans (hc i hi).2⟩⟩
theorem loose_low {w w' : World} {B m : Nat} (h : Loose w B m) (hb : w'.heap[B]? = w.heap[B]?) : Loose w' B m := fun j hj =>
  ⟨by rw [World.cell?_of_block (w := w) (a := ⟨B, j, none⟩) hb]; exact (h j hj).1, by rw [World.frozen?_of_block (w := w) (a := ⟨B, j, none⟩) hb]; exact (h j hj).2⟩
/-- What a sheet's two lists are is kept where their blocks are. -/
theorem TS.keep {w w' : World} {X Y n n' : Nat} {gs : List Gd} {ls : List (Int × Int)} (h : TS w X Y n n' gs ls) (hs : w.heap.size ≤ w'.heap.size) (hx : w'.heap[X]? = w.heap[X]?) (hy : w'.heap[Y]? = w.heap[Y]?) : TS w' X Y n n' gs ls :=
  ⟨grow_low h.g hs hx, lrow_low h.l hs hy, loose_low h.lg hx, loose_low h.ll hy, h.ne, Nat.lt_of_lt_of_le h.lx hs, Nat.lt_of_lt_of_le h.ly hs⟩
set_option maxHeartbeats 4000000 in
theorem toSh_any {a a' : Option Addr} {n c n' c' : Nat} {gs : List Gd} {ls : List (Int × Int)} {w : World} (HN : Hid (gs.length = n)) (hn : n ≤ 1048576) (HA : Hid (GRow w a gs)) (HN' : Hid (ls.length = n')) (hn' : n' ≤ 1048576) (HA' : Hid (LRow w a' ls)) :
    Calls Tryz.prog 8 #[.agg #[.slice a n c, .slice a' n' c']] w fun e w' => ∃ X Y, e = .returned (.agg #[.slice (some ⟨X, 0, none⟩) n n, .slice (some ⟨Y, 0, none⟩) n' n']) ∧ Below w.heap.size w w' ∧ w.heap.size ≤ X ∧ w.heap.size ≤ Y ∧ TS w' X Y n n' gs ls := by
  go_enter Tryz.func8, Tryz.ntmps8
  go_wp2_with fail
  have b1 := below_new w (.cells #[.slice a n c, .slice a' n' c'] 25)
  have b2 := b1.trans ((below_new (w.alloc (.cells #[.slice a n c, .slice a' n' c'] 25)) (.cells #[.slice none 0 0, .slice none 0 0] 38)).mono b1.size)
  have b3 := b2.trans ((below_new ((w.alloc (.cells #[.slice a n c, .slice a' n' c'] 25)).alloc (.cells #[.slice none 0 0, .slice none 0 0] 38)) (.cells #[.slice none 0 0, .slice none 0 0] 38)).mono b2.size)
  refine (toG_rowF a c n gs _ HN.out hn (HA.out.below b3)).mono ?_
  rintro e w1 ⟨rfl, hb1, hz1, row1, lo1⟩
  simp only [World.size_alloc] at hb1 hz1 row1 lo1
  have hBw : Below w.heap.size w w1 := b3.trans (hb1.mono (by omega))
  have q1 : w1.cell? ⟨w.heap.size, 1, none⟩ = some (.slice a' n' c') := (hb1.cell (p := ⟨w.heap.size, 1, none⟩) (by show w.heap.size < _; omega)).trans (by simp [go_sem])
  have q2 : w1.cell? ⟨w.heap.size + 1 + 1, 0, none⟩ = some (.slice none 0 0) := (hb1.cell (p := ⟨w.heap.size + 1 + 1, 0, none⟩) (by show w.heap.size + 1 + 1 < _; omega)).trans (by simp [go_sem])
  have q3 : w1.cell? ⟨w.heap.size + 1 + 1, 1, none⟩ = some (.slice none 0 0) := (hb1.cell (p := ⟨w.heap.size + 1 + 1, 1, none⟩) (by show w.heap.size + 1 + 1 < _; omega)).trans (by simp [go_sem])
  have q4 : w1.cell? ⟨w.heap.size + 1, 0, none⟩ = some (.slice none 0 0) := (hb1.cell (p := ⟨w.heap.size + 1, 0, none⟩) (by show w.heap.size + 1 < _; omega)).trans (by simp [go_sem])
  have q5 : w1.cell? ⟨w.heap.size + 1, 1, none⟩ = some (.slice none 0 0) := (hb1.cell (p := ⟨w.heap.size + 1, 1, none⟩) (by show w.heap.size + 1 < _; omega)).trans (by simp [go_sem])
  have g2 : ∀ i, w1.frozen? ⟨w.heap.size + 1 + 1, i, none⟩ = false := fun i => (hb1.frozen (p := ⟨w.heap.size + 1 + 1, i, none⟩) (by show w.heap.size + 1 + 1 < _; omega)).trans (by simp [go_sem])
  have g4 : ∀ i, w1.frozen? ⟨w.heap.size + 1, i, none⟩ = false := fun i => (hb1.frozen (p := ⟨w.heap.size + 1, i, none⟩) (by show w.heap.size + 1 < _; omega)).trans (by simp [go_sem])
  have R1 := hide row1
  have L1 := hide lo1
  have B1 := hide b3
  clear row1 lo1 b1 b2 b3
  go_wp2_with fail
  have hB2 : Below w.heap.size w (w1.setCell ⟨w.heap.size + 1 + 1, 0, none⟩ (.slice (some ⟨w.heap.size + 1 + 1 + 1, 0, none⟩) n n)) := hBw.setCell (by show w.heap.size ≤ w.heap.size + 1 + 1; omega) _
  refine (toL_n15 a' c' n' ls _ HN'.out hn' (HA'.out.below hB2)).mono ?_
  rintro e w2 ⟨rfl, hb2, hz2, row2, lo2⟩
  simp only [World.size_setCell] at hb2 hz2 row2 lo2
  have c0 : ∀ x i, x < w1.heap.size → w2.cell? ⟨x, i, none⟩ = (w1.setCell ⟨w.heap.size + 1 + 1, 0, none⟩ (.slice (some ⟨w.heap.size + 1 + 1 + 1, 0, none⟩) n n)).cell? ⟨x, i, none⟩ := fun x i hx => hb2.cell (p := ⟨x, i, none⟩) hx
  have f0 : ∀ x i, x < w1.heap.size → w2.frozen? ⟨x, i, none⟩ = w1.frozen? ⟨x, i, none⟩ := fun x i hx => (hb2.frozen (p := ⟨x, i, none⟩) hx).trans (World.frozen?_setCell ..)
  have p0 : w2.cell? ⟨w.heap.size + 1 + 1, 0, none⟩ = some (.slice (some ⟨w.heap.size + 1 + 1 + 1, 0, none⟩) n n) := (c0 _ _ (by omega)).trans (World.cell?_setCell_same _ _ _ q2)
  have p1 : w2.cell? ⟨w.heap.size + 1 + 1, 1, none⟩ = some (.slice none 0 0) := (c0 _ _ (by omega)).trans ((World.cell?_setCell_other _ _ _ _ (by simp)).trans q3)
  have p2 : w2.cell? ⟨w.heap.size + 1, 0, none⟩ = some (.slice none 0 0) := (c0 _ _ (by omega)).trans ((World.cell?_setCell_other _ _ _ _ (by simp)).trans q4)
  have p3 : w2.cell? ⟨w.heap.size + 1, 1, none⟩ = some (.slice none 0 0) := (c0 _ _ (by omega)).trans ((World.cell?_setCell_other _ _ _ _ (by simp)).trans q5)
  have g0 : ∀ i, w2.frozen? ⟨w.heap.size + 1 + 1, i, none⟩ = false := fun i => (f0 _ _ (by omega)).trans (g2 i)
  have g1 : ∀ i, w2.frozen? ⟨w.heap.size + 1, i, none⟩ = false := fun i => (f0 _ _ (by omega)).trans (g4 i)
  have hB3 : Below w.heap.size w w2 := hB2.trans (hb2.mono (by omega))
  have hkX : w2.heap[w.heap.size + 1 + 1 + 1]? = w1.heap[w.heap.size + 1 + 1 + 1]? := (hb2.block (w.heap.size + 1 + 1 + 1) hz1).trans (Below.heap_setCell _ _ _ _ (by show w.heap.size + 1 + 1 + 1 ≠ w.heap.size + 1 + 1; omega))
  have T0 : Hid (TS w2 (w.heap.size + 1 + 1 + 1) w1.heap.size n n' gs ls) := hide ⟨grow_low R1.out (by have := hb2.size; simpa using this) hkX, row2, loose_low L1.out hkX, lo2, by omega, by omega, hz2⟩
  clear q1 q2 q3 q4 q5 g2 g4 c0 f0 row2 lo2 R1 L1 hkX
  go_wp2_with fail
  have kp : ∀ (u v z : Value) (b : Nat), w.heap.size + 1 + 1 < b → (((w2.setCell ⟨w.heap.size + 1 + 1, 1, none⟩ u).setCell ⟨w.heap.size + 1, 0, none⟩ v).setCell ⟨w.heap.size + 1, 1, none⟩ z).heap[b]? = w2.heap[b]? := fun u v z b hb =>
    ((Below.heap_setCell _ _ _ b (by show b ≠ w.heap.size + 1; omega)).trans (Below.heap_setCell _ _ _ b (by show b ≠ w.heap.size + 1; omega))).trans (Below.heap_setCell _ _ _ b (by show b ≠ w.heap.size + 1 + 1; omega))
  refine bodyPost_ret (v := .agg #[.slice (some ⟨w.heap.size + 1 + 1 + 1, 0, none⟩) n n, .slice (some ⟨w1.heap.size, 0, none⟩) n' n']) (by simp [results, Tryz.results8, go_sem, p2, p3]) rfl ⟨w.heap.size + 1 + 1 + 1, w1.heap.size, rfl, ?_, by omega, by omega, ?_⟩
  · exact ((hB3.setCell (by show w.heap.size ≤ w.heap.size + 1 + 1; omega) _).setCell (by show w.heap.size ≤ w.heap.size + 1; omega) _).setCell (by show w.heap.size ≤ w.heap.size + 1; omega) _
  · exact T0.out.keep (by simp) (kp _ _ _ _ (by omega)) (kp _ _ _ _ (by omega))
set_option maxHeartbeats 2000000 in
theorem eqG15 {a b : Option Addr} {cap cap' n : Nat} {gs : List Gd} {w : World} (hn : gs.length = n) (hlen : n ≤ 1048576) (h1 : GRow w a gs) (h2 : GRow w b gs) :
    Calls Tryz.prog 30 #[.slice a n cap, .slice b n cap'] w fun e w' => e = .returned (.bool true) ∧ Below w.heap.size w w' := by
  have hne : ((n : Int) != (n : Int)) = false := by simp
  have H1 := hide h1
  have H2 := hide h2
  have HN := hide hn
  clear h1 h2 hn
  go_enter Tryz.func30, Tryz.ntmps30
  go_wp2_with fail
  go_loopw [5] (fun s wr => ∃ (k : Nat), s = .int .i64 k ∧ k ≤ n ∧ Below w.heap.size w wr ∧ w.heap.size ≤ wr.heap.size) (fun s _ => n - (intOf s).toNat)
  case atStart => exact ⟨0, rfl, Nat.zero_le _, Below.refl _ _, Nat.le_refl _⟩
  case round =>
    obtain ⟨k, rfl, hk, hB, hz⟩ := hrel
    by_cases hlt : k < n
    · obtain ⟨b', o', rfl, hb, r0, r1⟩ := H1.out.at (i := k) (by rw [HN.out]; exact hlt)
      obtain ⟨c', o'', rfl, hc, s0, s1⟩ := H2.out.at (i := k) (by rw [HN.out]; exact hlt)
      have r0' := (hB.cell (p := ⟨b', o' + k * 2, none⟩) hb).trans r0
      have r1' := (hB.cell (p := ⟨b', o' + k * 2 + 1, none⟩) hb).trans r1
      have s0' := (hB.cell (p := ⟨c', o'' + k * 2, none⟩) hc).trans s0
      have s1' := (hB.cell (p := ⟨c', o'' + k * 2 + 1, none⟩) hc).trans s1
      generalize (gs.getD k gd0).1 = x at *
      generalize (gs.getD k gd0).2 = z at *
      clear r0 r1 s0 s1
      have i0 : (0 : Int) ≤ (k : Int) := by omega
      have i1 : (k : Int) < (n : Int) := by omega
      go_wp2_with fail
      go_region_held3 (fun w' => w'.cell? ⟨b', o' + k * 2, none⟩ = some (.string x) ∧ w'.cell? ⟨b', o' + k * 2 + 1, none⟩ = some (.int .i64 z) ∧ w'.cell? ⟨c', o'' + k * 2, none⟩ = some (.string x) ∧ w'.cell? ⟨c', o'' + k * 2 + 1, none⟩ = some (.int .i64 z) ∧ Below w.heap.size w w' ∧ w.heap.size ≤ w'.heap.size)
        (first | exact ⟨r0', r1', s0', s1', hB.drew, hz⟩ | assumption | exact heldG (i := k) hb hc ‹_› (by assumption) rfl)
        (first
        | (go_at_call 58; refine (eqGood_same _ _ _).mono ?_; rintro e w1 ⟨rfl, hb1⟩))
      go_wp2_with fail
      obtain ⟨_, _, _, _, hB2, hz2⟩ := ‹_ ∧ _ ∧ _ ∧ _ ∧ _ ∧ _›
      exact ⟨⟨k + 1, by go_num, by omega, hB2, hz2⟩, by simp only [intOf]; omega⟩
    · go_wp2_with fail
      go_ret
      exact ⟨rfl, hB⟩
set_option maxHeartbeats 2000000 in
theorem eqL15 {a b : Option Addr} {cap cap' n : Nat} {ls : List (Int × Int)} {w : World} (hn : ls.length = n) (hlen : n ≤ 1048576) (h1 : LRow w a ls) (h2 : LRow w b ls) :
    Calls Tryz.prog 31 #[.slice a n cap, .slice b n cap'] w fun e w' => e = .returned (.bool true) ∧ Below w.heap.size w w' := by
  have hne : ((n : Int) != (n : Int)) = false := by simp
  have H1 := hide h1
  have H2 := hide h2
  have HN := hide hn
  clear h1 h2 hn
  go_enter Tryz.func31, Tryz.ntmps31
  go_wp2_with fail
  go_loopw [5] (fun s wr => ∃ (k : Nat), s = .int .i64 k ∧ k ≤ n ∧ Below w.heap.size w wr ∧ w.heap.size ≤ wr.heap.size) (fun s _ => n - (intOf s).toNat)
  case atStart => exact ⟨0, rfl, Nat.zero_le _, Below.refl _ _, Nat.le_refl _⟩
  case round =>
    obtain ⟨k, rfl, hk, hB, hz⟩ := hrel
    by_cases hlt : k < n
    · obtain ⟨b', o', rfl, hb, r0, r1⟩ := H1.out.at (i := k) (by rw [HN.out]; exact hlt)
      obtain ⟨c', o'', rfl, hc, s0, s1⟩ := H2.out.at (i := k) (by rw [HN.out]; exact hlt)
      have r0' := (hB.cell (p := ⟨b', o' + k * 2, none⟩) hb).trans r0
      have r1' := (hB.cell (p := ⟨b', o' + k * 2 + 1, none⟩) hb).trans r1
      have s0' := (hB.cell (p := ⟨c', o'' + k * 2, none⟩) hc).trans s0
      have s1' := (hB.cell (p := ⟨c', o'' + k * 2 + 1, none⟩) hc).trans s1
      generalize (ls.getD k (0, 0)) = x at *
      obtain ⟨x1, x2⟩ := x
      clear r0 r1 s0 s1
      have i0 : (0 : Int) ≤ (k : Int) := by omega
      have i1 : (k : Int) < (n : Int) := by omega
      go_wp2_with fail
      go_region_held3 (fun w' => w'.cell? ⟨b', o' + k * 2, none⟩ = some (.int .i64 x1) ∧ w'.cell? ⟨b', o' + k * 2 + 1, none⟩ = some (.int .i64 x2) ∧ w'.cell? ⟨c', o'' + k * 2, none⟩ = some (.int .i64 x1) ∧ w'.cell? ⟨c', o'' + k * 2 + 1, none⟩ = some (.int .i64 x2) ∧ Below w.heap.size w w' ∧ w.heap.size ≤ w'.heap.size)
        (first | exact ⟨r0', r1', s0', s1', hB.drew, hz⟩ | assumption | exact heldG (i := k) hb hc ‹_› (by assumption) rfl)
        (first
        | (go_at_call 59; refine (eqLine_same _ _ _).mono ?_; rintro e w1 ⟨rfl, hb1⟩))
      go_wp2_with fail
      obtain ⟨_, _, _, _, hB2, hz2⟩ := ‹_ ∧ _ ∧ _ ∧ _ ∧ _ ∧ _›
      exact ⟨⟨k + 1, by go_num, by omega, hB2, hz2⟩, by simp only [intOf]; omega⟩
    · go_wp2_with fail
      go_ret
      exact ⟨rfl, hB⟩
set_option maxHeartbeats 2000000 in
theorem eqSh15 {a a' b b' : Option Addr} {n n' c c' d d' : Nat} {gs : List Gd} {ls : List (Int × Int)} {w : World} (hn : Hid (gs.length = n)) (h1 : n ≤ 1048576) (hn' : Hid (ls.length = n')) (h2 : n' ≤ 1048576) (ga : GRow w a gs) (la : LRow w a' ls) (gb : GRow w b gs) (lb : LRow w b' ls) :
    Calls Tryz.prog 12 #[.agg #[.slice a n c, .slice a' n' c'], .agg #[.slice b n d, .slice b' n' d']] w fun e w' => e = .returned (.bool true) ∧ Below w.heap.size w w' := by
  have B1 := below_new w (.cells #[.slice a n c, .slice a' n' c'] 38)
  have B2 := below_new (w.alloc (.cells #[.slice a n c, .slice a' n' c'] 38)) (.cells #[.slice b n d, .slice b' n' d'] 38)
  have HB := hide (B1.trans (B2.mono B1.size))
  have PA := hide ((PBox.new w (.slice a n c) (.slice a' n' c') 38).below B2)
  have PB := hide (PBox.new (w.alloc (.cells #[.slice a n c, .slice a' n' c'] 38)) (.slice b n d) (.slice b' n' d') 38)
  rw [World.size_alloc] at PB
  have GA := hide (ga.below HB.out)
  have LA := hide (la.below HB.out)
  have GB := hide (gb.below HB.out)
  have LB := hide (lb.below HB.out)
  clear ga la gb lb B1 B2
  go_enter Tryz.func12, Tryz.ntmps12
  go_wp2_with fail
  refine (eqG15 hn.out h1 GA.out GB.out).mono ?_
  rintro e w1 ⟨rfl, hb1⟩
  have p1 := (PA.out.below hb1).2.1
  have p2 := (PB.out.below hb1).2.1
  have LA1 := hide (LA.out.below hb1)
  have LB1 := hide (LB.out.below hb1)
  have HB1 := hide (HB.out.trans (hb1.mono HB.out.size))
  clear hb1
  go_wp2_with fail
  refine (eqL15 hn'.out h2 LA1.out LB1.out).mono ?_
  rintro e w2 ⟨rfl, hb2⟩
  have HB2 := hide (HB1.out.trans (hb2.mono HB1.out.size))
  clear hb2
  go_wp2_with fail
  go_ret
  exact ⟨rfl, HB2.out⟩
end Go.Proofs.YtlbagigghpiifabGreat
namespace Go.Proofs.YtlbagigghpiifabGreat
open Go.RowKit

def dgtM (d : Int) : UInt8 := UInt8.ofNat (48 + d.toNat)
theorem dgtM_toNat (d : Int) (h0 : 0 ≤ d) (h1 : d < 10) : ((dgtM d).toNat : Int) = 48 + d := by
  unfold dgtM
  have : (UInt8.ofNat (48 + d.toNat)).toNat = (48 + d.toNat) % 256 := rfl
  omega
theorem convM (d : Int) (h0 : 0 ≤ d) (h1 : d < 10) (W : World) (b : Nat) (hc : W.cell? ⟨b, 0, none⟩ = some (.int .u8 (48 + d))) :
    (convert 114 9 (.slice (some ⟨b, 0, none⟩) 1 1)).run Tryz.prog W = .ok (.string ⟨#[dgtM d]⟩) W := by
  refine run_convert_bytes_back (P := Tryz.prog) W 114 9 5 ⟨b, 0, none⟩ 1 [dgtM d] Tryz.underlying114 Tryz.underlying5 Tryz.underlying9 ?_
  intro j hj
  have hj0 : j = 0 := by simp at hj; omega
  subst hj0
  have e := dgtM_toNat d h0 h1
  simp only [List.getElem_cons_zero]
  rw [e]
  simpa [Addr.add] using hc
theorem size_app1 (x : UInt8) (u : ByteArray) : ((⟨#[x]⟩ : ByteArray) ++ u).size = 1 + u.size := by
  rw [ByteArray.size_append]; rfl
set_option maxHeartbeats 1000000 in
theorem markText_any (k : Int) (w : World) (h0 : 0 < k) (h1 : k ≤ 1000000000) :
    Calls Tryz.prog 65 #[.int .i64 k] w fun e w' => (∃ s, e = .returned (.string s)) ∧ Below w.heap.size w w' := by
  have hk : ¬ k ≤ 0 := by omega
  go_enter Tryz.func65, Tryz.ntmps65
  go_wp2_with fail
  go_loopw [0, 3] (fun s t wr => ∃ (m : Int) (u : ByteArray), s = .int .i64 m ∧ t = .string u ∧ 0 ≤ m ∧ m ≤ k ∧ Hid ((u.size : Int) ≤ k - m) ∧ Below w.heap.size w wr ∧ w.heap.size ≤ wr.heap.size) (fun s _ _ => (intOf s).toNat)
  case atStart => exact ⟨k, _, rfl, rfl, by omega, by omega, hide (by show (0 : Int) ≤ k - k; omega), Below.refl _ _, Nat.le_refl _⟩
  case round =>
    obtain ⟨m, u, rfl, rfl, m0, m1, HU, hB, hz⟩ := hrel
    have hU := HU.out
    by_cases hlt : 0 < m
    · have kc := convM (m % 10) (by omega) (by omega)
      have e1 : m.tdiv 10 = m / 10 := Int.tdiv_eq_ediv_of_nonneg (by omega)
      have e1' : IntKind.i64.wrap (m / 10) = m / 10 := by rw [IntKind.wrap_i64]; omega
      have e1'' : wrap64 (m / 10) = m / 10 := wrap_id' _ (by omega) (by omega)
      have e2 : m.tmod 10 = m % 10 := Int.tmod_eq_emod_of_nonneg (by omega)
      have e3 : IntKind.i64.wrap (48 + m % 10) = 48 + m % 10 := by rw [IntKind.wrap_i64]; omega
      have e3' : wrap64 (48 + m % 10) = 48 + m % 10 := wrap_id' _ (by omega) (by omega)
      have e4 : IntKind.u8.wrap (48 + m % 10) = 48 + m % 10 := by simp [IntKind.wrap, IntKind.bits, IntKind.signed]; omega
      have hm0 : 0 ≤ m % 10 := by omega
      have hm1 : m % 10 < 10 := by omega
      have hlen : (⟨#[dgtM (m % 10)]⟩ : ByteArray).size + u.size ≤ 9223372036854775807 := by
        show 1 + u.size ≤ _
        omega
      have sa : ∀ w, (Op.stringOp .add ⟨#[dgtM (m % 10)]⟩ u).run Tryz.prog w = .ok (.string (⟨#[dgtM (m % 10)]⟩ ++ u)) w := fun w => run_string_add_sum (P := Tryz.prog) (w := w) _ _ hlen
      have HS := hide (size_app1 (dgtM (m % 10)) u)
      clear hlen hU
      go_wp2_with fail
      have hs := HS.out
      have hu := HU.out
      refine ⟨⟨m / 10, _, rfl, rfl, by omega, by omega, hide (by rw [hs]; omega), hB.alloc hz _, by simp; omega⟩, by simp only [intOf]; omega⟩
    · have hme : m = 0 := by omega
      subst hme
      have hlen : (⟨#[109]⟩ : ByteArray).size + u.size ≤ 9223372036854775807 := by
        show 1 + u.size ≤ _
        omega
      have sa : ∀ w, (Op.stringOp .add ⟨#[109]⟩ u).run Tryz.prog w = .ok (.string (⟨#[109]⟩ ++ u)) w := fun w => run_string_add_sum (P := Tryz.prog) (w := w) _ _ hlen
      go_wp2_with fail
      go_ret
      exact ⟨⟨_, rfl⟩, hB⟩
set_option maxHeartbeats 1000000 in
theorem markL_any (B n : Nat) (k : Int) (w : World) (hn : n ≤ 1048576) (k0 : 0 < k) (k1 : k ≤ 900000000) (hl : Loose w B (n * 2)) :
    Calls Tryz.prog 38 #[.slice (some ⟨B, 0, none⟩) n n, .int .i64 k] w fun e w' => e = .returned (.int .i64 (k + n * 2)) ∧ w.grownBy w' (some B) := by
  have HL := hide hl
  clear hl
  go_enter Tryz.func38, Tryz.ntmps38
  go_wp2_with fail
  go_loopw [1, 5] (fun s t wr => ∃ (i : Nat), t = .int .i64 i ∧ s = .int .i64 (k + i * 2) ∧ i ≤ n ∧ Hid (Loose wr B (n * 2)) ∧ w.grownBy wr (some B)) (fun _ t _ => n - (intOf t).toNat)
  case atStart => exact ⟨0, rfl, by simp, Nat.zero_le _, HL, World.grownBy.refl _ _⟩
  case round =>
    obtain ⟨i, rfl, rfl, hi, HJ, hg⟩ := hrel
    by_cases hlt : i < n
    · have i0 : (0 : Int) ≤ (i : Int) := by omega
      have i1 : (i : Int) < (n : Int) := by omega
      obtain ⟨q0, f0⟩ := HJ.out (i * 2) (by omega)
      obtain ⟨q1, f1⟩ := HJ.out (i * 2 + 1) (by omega)
      obtain ⟨v0, c0⟩ := Option.isSome_iff_exists.1 q0
      obtain ⟨v1, c1⟩ := Option.isSome_iff_exists.1 q1
      clear q0 q1
      go_wp2_with fail
      refine ⟨⟨i + 1, by go_num, by go_num, by omega, ?_, ?_⟩, by simp only [intOf]; omega⟩
      · exact hide (HJ.out.set.set)
      · exact grown_set (grown_set hg)
    · have hin : i = n := by omega
      subst hin
      go_wp2_with fail
      go_ret
      exact ⟨rfl, hg⟩
set_option maxHeartbeats 2000000 in
theorem markG_any (B n : Nat) (k : Int) (w : World) (hn : n ≤ 1048576) (k0 : 0 < k) (k1 : k ≤ 900000000) (hl : Loose w B (n * 2)) :
    Calls Tryz.prog 37 #[.slice (some ⟨B, 0, none⟩) n n, .int .i64 k] w fun e w' => e = .returned (.int .i64 (k + n * 2)) ∧ w.grownBy w' (some B) := by
  have HL := hide hl
  clear hl
  go_enter Tryz.func37, Tryz.ntmps37
  go_wp2_with fail
  go_loopw [1, 5] (fun s t wr => ∃ (i : Nat), t = .int .i64 i ∧ s = .int .i64 (k + i * 2) ∧ i ≤ n ∧ Hid (Loose wr B (n * 2)) ∧ w.grownBy wr (some B)) (fun _ t _ => n - (intOf t).toNat)
  case atStart => exact ⟨0, rfl, by simp, Nat.zero_le _, HL, World.grownBy.refl _ _⟩
  case round =>
    obtain ⟨i, rfl, rfl, hi, HJ, hg⟩ := hrel
    by_cases hlt : i < n
    · have i0 : (0 : Int) ≤ (i : Int) := by omega
      have i1 : (i : Int) < (n : Int) := by omega
      go_wp2_with fail
      refine (markText_any (k + i * 2) _ (by omega) (by omega)).mono ?_
      rintro e w2 ⟨⟨s, rfl⟩, hb2⟩
      have HJ2 := hide (HJ.out.below hb2)
      have hg2 := grown_of hg hb2
      obtain ⟨q0, f0⟩ := HJ2.out (i * 2) (by omega)
      obtain ⟨q1, f1⟩ := HJ2.out (i * 2 + 1) (by omega)
      obtain ⟨v0, c0⟩ := Option.isSome_iff_exists.1 q0
      obtain ⟨v1, c1⟩ := Option.isSome_iff_exists.1 q1
      clear q0 q1
      go_wp2_with fail
      refine ⟨⟨i + 1, by go_num, by go_num, by omega, ?_, ?_⟩, by simp only [intOf]; omega⟩
      · exact hide (HJ2.out.set.set)
      · exact grown_set (grown_set hg2)
    · have hin : i = n := by omega
      subst hin
      go_wp2_with fail
      go_ret
      exact ⟨rfl, hg⟩
end Go.Proofs.YtlbagigghpiifabGreat
namespace Go.Proofs.YtlbagigghpiifabGreat
open Go.RowKit

theorem own_sh {w : World} {base n : Nat} {v : Value} {xs : List Value} (h : w.ownsRow base 3 1 v n xs) : ∃ a cap, v = .slice a n cap := by
  rcases h.2 with ⟨rfl, hn⟩ | ⟨g, cap, cur, rfl, _⟩
  · exact ⟨none, 0, by rw [hn]⟩
  · exact ⟨_, _, rfl⟩
theorem own_baseA {w : World} {b b' n : Nat} {v : Value} {xs : List Value} (h : w.ownsRow b 3 1 v n xs) (hb : b' ≤ b) : w.ownsRow b' 3 1 v n xs := by
  obtain ⟨h1, h⟩ := h
  refine ⟨h1, ?_⟩
  rcases h with h | ⟨g, cap, cur, rfl, h2, h3⟩
  · exact Or.inl h
  · exact Or.inr ⟨g, cap, cur, rfl, Nat.le_trans hb h2, h3⟩
def Cs (W : World) : List (Nat × Value × Value) → Prop
  | [] => True
  | e :: l => PBox W e.1 e.2.1 e.2.2 ∧ Cs W l
theorem Cs.below {W W' : World} : ∀ {l : List (Nat × Value × Value)}, Cs W l → Below W.heap.size W W' → Cs W' l
  | [], _, _ => trivial
  | _ :: _, h, hb => ⟨h.1.below hb, Cs.below h.2 hb⟩
theorem own_hi {w : World} {base n g : Nat} {v : Value} {xs : List Value} (h : w.ownsRow base 3 1 v n xs) (hg : v.ownBlock = some g) : g < w.heap.size := by
  rcases h.2 with ⟨rfl, _⟩ | ⟨g', cap, cur, rfl, _, h3, _⟩
  · cases hg
  · cases hg; exact (Array.getElem?_eq_some_iff.1 h3).1
theorem PBox.keep {W W' : World} {B : Nat} {v0 v1 : Value} (h : PBox W B v0 v1) (hs : W.heap.size ≤ W'.heap.size) (hb : W'.heap[B]? = W.heap[B]?) : PBox W' B v0 v1 :=
  ⟨(World.cell?_of_block (w := W) (a := ⟨B, 0, none⟩) hb).trans h.1, (World.cell?_of_block (w := W) (a := ⟨B, 1, none⟩) hb).trans h.2.1, Nat.lt_of_lt_of_le h.2.2 hs⟩
structure OffV (w w' : World) (v1 v2 : Value) : Prop where
  os : w'.os = w.os
  tape : w'.tape = w.tape
  output : w'.output = w.output
  size : w.heap.size ≤ w'.heap.size
  block : ∀ b, b < w.heap.size → some b ≠ v1.ownBlock → some b ≠ v2.ownBlock → w'.heap[b]? = w.heap[b]?
end Go.Proofs.YtlbagigghpiifabGreat
namespace Go.Proofs.YtlbagigghpiifabGreat
open Go.RowKit

/-- Goods' and lines' cells, in a row. -/
def pq {α : Type} (f g : α → Value) (xs : List α) : List Value := xs.flatMap fun x => [f x, g x]
theorem pq_snoc {α : Type} (f g : α → Value) (xs : List α) (x : α) : pq f g (xs ++ [x]) = pq f g xs ++ [f x, g x] := by simp [pq]
theorem pq_len {α : Type} (f g : α → Value) : ∀ xs : List α, (pq f g xs).length = xs.length * 2
  | [] => rfl
  | x :: r => by
    have := pq_len f g r
    simp only [pq, List.flatMap_cons, List.length_append, List.length_cons, List.length_nil] at this ⊢
    omega
theorem pq_get {α : Type} (f g : α → Value) (d : α) : ∀ (xs : List α) (i : Nat), i < xs.length → (pq f g xs)[i * 2]? = some (f (xs.getD i d)) ∧ (pq f g xs)[i * 2 + 1]? = some (g (xs.getD i d))
  | [], i, h => by simp at h
  | x :: r, 0, _ => by simp [pq]
  | x :: r, i + 1, h => by
    have := pq_get f g d r i (by simpa using h)
    rw [show (i + 1) * 2 = i * 2 + 2 by omega]
    simpa [pq] using this
def gV (p : Gd) : Value := .string p.1
def gN (p : Gd) : Value := .int .i64 p.2
def lV (p : Int × Int) : Value := .int .i64 p.1
def lN (p : Int × Int) : Value := .int .i64 p.2
abbrev gce (gs : List Gd) : List Value := pq gV gN gs
abbrev lce (ls : List (Int × Int)) : List Value := pq lV lN ls
theorem own_gd {w : World} {base e n : Nat} {v : Value} {gs : List Gd} (hn : gs.length = n) (h : w.ownsRow base e 2 v n (gce gs)) : ∃ a c, v = .slice a n c ∧ n ≤ c ∧ GRow w a gs := by
  rcases h.2 with ⟨rfl, h0⟩ | ⟨G, cap, cur, rfl, hb, hg, hcap, _⟩
  · subst h0; exact ⟨none, 0, rfl, Nat.le_refl _, Or.inl (List.length_eq_zero_iff.1 hn)⟩
  · refine ⟨_, _, rfl, hcap, Or.inr ⟨G, 0, rfl, (Array.getElem?_eq_some_iff.1 hg).1, fun i hi => ?_⟩⟩
    obtain ⟨p0, p1⟩ := pq_get gV gN gd0 gs i hi
    rw [Nat.zero_add, h.cellAt _ (by omega), h.cellAt _ (by omega)]
    exact ⟨p0, p1⟩
theorem own_ln {w : World} {base e n : Nat} {v : Value} {ls : List (Int × Int)} (hn : ls.length = n) (h : w.ownsRow base e 2 v n (lce ls)) : ∃ a c, v = .slice a n c ∧ n ≤ c ∧ LRow w a ls := by
  rcases h.2 with ⟨rfl, h0⟩ | ⟨G, cap, cur, rfl, hb, hg, hcap, _⟩
  · subst h0; exact ⟨none, 0, rfl, Nat.le_refl _, Or.inl (List.length_eq_zero_iff.1 hn)⟩
  · refine ⟨_, _, rfl, hcap, Or.inr ⟨G, 0, rfl, (Array.getElem?_eq_some_iff.1 hg).1, fun i hi => ?_⟩⟩
    obtain ⟨p0, p1⟩ := pq_get lV lN (0, 0) ls i hi
    rw [Nat.zero_add, h.cellAt _ (by omega), h.cellAt _ (by omega)]
    exact ⟨p0, p1⟩
/-- The text of a mark. -/
def mkD : Nat → Int → ByteArray → ByteArray
  | 0, _, u => u
  | f + 1, m, u => if m ≤ 0 then u else mkD f (m / 10) (⟨#[dgtM (m % 10)]⟩ ++ u)
def mkT (k : Int) : ByteArray := ⟨#[109]⟩ ++ mkD k.toNat k ⟨#[]⟩
theorem mkD_end (f : Nat) (u : ByteArray) : mkD f 0 u = u := by cases f <;> simp [mkD]
set_option maxHeartbeats 1000000 in
theorem mt_any (k : Int) (w : World) (h0 : 0 < k) (h1 : k ≤ 1000000000) :
    Calls Tryz.prog 65 #[.int .i64 k] w fun e w' => e = .returned (.string (mkT k)) ∧ Below w.heap.size w w' := by
  have hk : ¬ k ≤ 0 := by omega
  go_enter Tryz.func65, Tryz.ntmps65
  go_wp2_with fail
  go_loopw [0, 3] (fun s t wr => ∃ (m : Int) (u : ByteArray), s = .int .i64 m ∧ t = .string u ∧ 0 ≤ m ∧ m ≤ k ∧ Hid ((u.size : Int) ≤ k - m) ∧ Hid (∃ f : Nat, m ≤ f ∧ mkD f m u = mkD k.toNat k ⟨#[]⟩) ∧ Below w.heap.size w wr ∧ w.heap.size ≤ wr.heap.size) (fun s _ _ => (intOf s).toNat)
  case atStart => exact ⟨k, _, rfl, rfl, by omega, by omega, hide (by show (0 : Int) ≤ k - k; omega), hide ⟨k.toNat, by omega, rfl⟩, Below.refl _ _, Nat.le_refl _⟩
  case round =>
    obtain ⟨m, u, rfl, rfl, m0, m1, HU, HD, hB, hz⟩ := hrel
    have hU := HU.out
    by_cases hlt : 0 < m
    · have kc := convM (m % 10) (by omega) (by omega)
      have e1 : m.tdiv 10 = m / 10 := Int.tdiv_eq_ediv_of_nonneg (by omega)
      have e1' : IntKind.i64.wrap (m / 10) = m / 10 := by rw [IntKind.wrap_i64]; omega
      have e1'' : wrap64 (m / 10) = m / 10 := wrap_id' _ (by omega) (by omega)
      have e2 : m.tmod 10 = m % 10 := Int.tmod_eq_emod_of_nonneg (by omega)
      have e3 : IntKind.i64.wrap (48 + m % 10) = 48 + m % 10 := by rw [IntKind.wrap_i64]; omega
      have e3' : wrap64 (48 + m % 10) = 48 + m % 10 := wrap_id' _ (by omega) (by omega)
      have e4 : IntKind.u8.wrap (48 + m % 10) = 48 + m % 10 := by simp [IntKind.wrap, IntKind.bits, IntKind.signed]; omega
      have hm0 : 0 ≤ m % 10 := by omega
      have hm1 : m % 10 < 10 := by omega
      have hlen : (⟨#[dgtM (m % 10)]⟩ : ByteArray).size + u.size ≤ 9223372036854775807 := by
        show 1 + u.size ≤ _
        omega
      have sa : ∀ w, (Op.stringOp .add ⟨#[dgtM (m % 10)]⟩ u).run Tryz.prog w = .ok (.string (⟨#[dgtM (m % 10)]⟩ ++ u)) w := fun w => run_string_add_sum (P := Tryz.prog) (w := w) _ _ hlen
      have HS := hide (size_app1 (dgtM (m % 10)) u)
      have HD2 : Hid (∃ f : Nat, m / 10 ≤ f ∧ mkD f (m / 10) (⟨#[dgtM (m % 10)]⟩ ++ u) = mkD k.toNat k ⟨#[]⟩) := hide (by
        obtain ⟨f, hf, he⟩ := HD.out
        obtain ⟨g, rfl⟩ : ∃ g, f = g + 1 := ⟨f - 1, by omega⟩
        refine ⟨g, by omega, ?_⟩
        rw [← he, mkD, if_neg (by omega)])
      clear hlen hU
      go_wp2_with fail
      have hs := HS.out
      have hu := HU.out
      refine ⟨⟨m / 10, _, rfl, rfl, by omega, by omega, hide (by rw [hs]; omega), HD2, hB.alloc hz _, by simp; omega⟩, by simp only [intOf]; omega⟩
    · have hme : m = 0 := by omega
      subst hme
      have HT : Hid (⟨#[109]⟩ ++ u = mkT k) := hide (by
        obtain ⟨f, hf, he⟩ := HD.out
        rw [mkT, ← he, mkD_end])
      have hlen : (⟨#[109]⟩ : ByteArray).size + u.size ≤ 9223372036854775807 := by
        show 1 + u.size ≤ _
        omega
      have sa : ∀ w, (Op.stringOp .add ⟨#[109]⟩ u).run Tryz.prog w = .ok (.string (⟨#[109]⟩ ++ u)) w := fun w => run_string_add_sum (P := Tryz.prog) (w := w) _ _ hlen
      go_wp2_with fail
      go_ret
      exact ⟨by rw [← HT.out]; rfl, hB⟩
/-- A list of pairs that can be written, or none. -/
def LooseV (w : World) (v : Value) (n : Nat) : Prop := (v = .slice none 0 0 ∧ n = 0) ∨ ∃ g cap, v = .slice (some ⟨g, 0, none⟩) n cap ∧ g < w.heap.size ∧ Loose w g (n * 2)
theorem LooseV.of_own {w : World} {base e n : Nat} {v : Value} {xs : List Value} (h : w.ownsRow base e 2 v n xs) : LooseV w v n := by
  rcases h.2 with ⟨rfl, h0⟩ | ⟨G, cap, cur, rfl, hb, hg, hcap, _⟩
  · exact Or.inl ⟨rfl, h0⟩
  · refine Or.inr ⟨G, cap, rfl, (Array.getElem?_eq_some_iff.1 hg).1, fun j hj => ⟨?_, h.frozenAt j⟩⟩
    rw [h.cellAt j (by omega), List.getElem?_eq_getElem (by have := h.1; omega)]
    rfl
theorem LooseV.keep {w w' : World} {v : Value} {n : Nat} (h : LooseV w v n) (hs : w.heap.size ≤ w'.heap.size) (hb : ∀ g, v.ownBlock = some g → g < w.heap.size → w'.heap[g]? = w.heap[g]?) : LooseV w' v n := by
  rcases h with h | ⟨g, cap, rfl, hl, hc⟩
  · exact Or.inl h
  · exact Or.inr ⟨g, cap, rfl, Nat.lt_of_lt_of_le hl hs, loose_low hc (hb g rfl hl)⟩
/-- A list of goods that holds the marks from k on. -/
def HeldGV (w : World) (v : Value) (n : Nat) (k : Int) : Prop :=
  (v = .slice none 0 0 ∧ n = 0) ∨ ∃ g cap, v = .slice (some ⟨g, 0, none⟩) n cap ∧ g < w.heap.size ∧ ∀ j : Nat, j < n → w.cell? ⟨g, j * 2, none⟩ = some (.string (mkT (k + j * 2))) ∧ w.cell? ⟨g, j * 2 + 1, none⟩ = some (.int .i64 (k + j * 2 + 1))
theorem HeldGV.keep {w w' : World} {v : Value} {n : Nat} {k : Int} (h : HeldGV w v n k) (hs : w.heap.size ≤ w'.heap.size) (hb : ∀ g, v.ownBlock = some g → g < w.heap.size → w'.heap[g]? = w.heap[g]?) : HeldGV w' v n k := by
  rcases h with h | ⟨g, cap, rfl, hl, hc⟩
  · exact Or.inl h
  · exact Or.inr ⟨g, cap, rfl, Nat.lt_of_lt_of_le hl hs, fun j hj => ⟨(World.cell?_of_block (w := w) (a := ⟨g, j * 2, none⟩) (hb g rfl hl)).trans (hc j hj).1, (World.cell?_of_block (w := w) (a := ⟨g, j * 2 + 1, none⟩) (hb g rfl hl)).trans (hc j hj).2⟩⟩
theorem HeldGV.below {w w' : World} {v : Value} {n : Nat} {k : Int} (h : HeldGV w v n k) (hb : Below w.heap.size w w') : HeldGV w' v n k := h.keep hb.size fun _ _ hl => hb.block _ hl
/-- A list of lines that holds the marks from k on. -/
def HeldLV (w : World) (v : Value) (n : Nat) (k : Int) : Prop :=
  (v = .slice none 0 0 ∧ n = 0) ∨ ∃ g cap, v = .slice (some ⟨g, 0, none⟩) n cap ∧ g < w.heap.size ∧ ∀ j : Nat, j < n → w.cell? ⟨g, j * 2, none⟩ = some (.int .i64 (k + j * 2)) ∧ w.cell? ⟨g, j * 2 + 1, none⟩ = some (.int .i64 (k + j * 2 + 1))
theorem HeldLV.keep {w w' : World} {v : Value} {n : Nat} {k : Int} (h : HeldLV w v n k) (hs : w.heap.size ≤ w'.heap.size) (hb : ∀ g, v.ownBlock = some g → g < w.heap.size → w'.heap[g]? = w.heap[g]?) : HeldLV w' v n k := by
  rcases h with h | ⟨g, cap, rfl, hl, hc⟩
  · exact Or.inl h
  · exact Or.inr ⟨g, cap, rfl, Nat.lt_of_lt_of_le hl hs, fun j hj => ⟨(World.cell?_of_block (w := w) (a := ⟨g, j * 2, none⟩) (hb g rfl hl)).trans (hc j hj).1, (World.cell?_of_block (w := w) (a := ⟨g, j * 2 + 1, none⟩) (hb g rfl hl)).trans (hc j hj).2⟩⟩
theorem HeldLV.below {w w' : World} {v : Value} {n : Nat} {k : Int} (h : HeldLV w v n k) (hb : Below w.heap.size w w') : HeldLV w' v n k := h.keep hb.size fun _ _ hl => hb.block _ hl
theorem marks_more {w : World} {B i m : Nat} {k : Int} {u v : Value} {F G : Nat → Value} (hl : Loose w B m) (hi : i * 2 + 1 < m) (hc : ∀ j, j < i → w.cell? ⟨B, j * 2, none⟩ = some (F j) ∧ w.cell? ⟨B, j * 2 + 1, none⟩ = some (G j)) (hu : u = F i) (hv : v = G i) (_ : k = k) :
    ∀ j, j < i + 1 → ((w.setCell ⟨B, i * 2, none⟩ u).setCell ⟨B, i * 2 + 1, none⟩ v).cell? ⟨B, j * 2, none⟩ = some (F j) ∧ ((w.setCell ⟨B, i * 2, none⟩ u).setCell ⟨B, i * 2 + 1, none⟩ v).cell? ⟨B, j * 2 + 1, none⟩ = some (G j) := by
  obtain ⟨u0, u1, u2, _⟩ := putL2 (W := w) (B := B) (i := i * 2) (x := u) (y := v) (hl _ (by omega)).1 (hl _ hi).1
  intro j hj
  by_cases e : j = i
  · subst e; rw [u0, u1, hu, hv]; exact ⟨rfl, rfl⟩
  · obtain ⟨h1, h2⟩ := hc j (by omega)
    exact ⟨(u2 _ (by omega) (by omega)).trans h1, (u2 _ (by omega) (by omega)).trans h2⟩
set_option maxHeartbeats 1000000 in
theorem markL_at (B n c : Nat) (k : Int) (w : World) (hn : n ≤ 1048576) (k0 : 0 < k) (k1 : k ≤ 900000000) (hB : B < w.heap.size) (hl : Loose w B (n * 2)) :
    Calls Tryz.prog 38 #[.slice (some ⟨B, 0, none⟩) n c, .int .i64 k] w fun e w' => e = .returned (.int .i64 (k + n * 2)) ∧ HeldLV w' (.slice (some ⟨B, 0, none⟩) n c) n k ∧ w.grownBy w' (some B) := by
  have HL := hide hl
  clear hl
  go_enter Tryz.func38, Tryz.ntmps38
  go_wp2_with fail
  go_loopw [1, 5] (fun s t wr => ∃ (i : Nat), t = .int .i64 i ∧ s = .int .i64 (k + i * 2) ∧ i ≤ n ∧ Hid (Loose wr B (n * 2)) ∧ Hid (∀ j : Nat, j < i → wr.cell? ⟨B, j * 2, none⟩ = some (.int .i64 (k + j * 2)) ∧ wr.cell? ⟨B, j * 2 + 1, none⟩ = some (.int .i64 (k + j * 2 + 1))) ∧ w.grownBy wr (some B)) (fun _ t _ => n - (intOf t).toNat)
  case atStart => exact ⟨0, rfl, by simp, Nat.zero_le _, HL, hide fun j hj => absurd hj (Nat.not_lt_zero _), World.grownBy.refl _ _⟩
  case round =>
    obtain ⟨i, rfl, rfl, hi, HJ, HC, hg⟩ := hrel
    by_cases hlt : i < n
    · have i0 : (0 : Int) ≤ (i : Int) := by omega
      have i1 : (i : Int) < (n : Int) := by omega
      obtain ⟨q0, f0⟩ := HJ.out (i * 2) (by omega)
      obtain ⟨q1, f1⟩ := HJ.out (i * 2 + 1) (by omega)
      obtain ⟨v0, c0⟩ := Option.isSome_iff_exists.1 q0
      obtain ⟨v1, c1⟩ := Option.isSome_iff_exists.1 q1
      clear q0 q1
      go_wp2_with fail
      refine ⟨⟨i + 1, by go_num, by go_num, by omega, ?_, ?_, ?_⟩, by simp only [intOf]; omega⟩
      · exact hide (HJ.out.set.set)
      · exact hide (marks_more (k := k) (F := fun j : Nat => .int .i64 (k + j * 2)) (G := fun j : Nat => .int .i64 (k + j * 2 + 1)) HJ.out (by omega) HC.out rfl rfl rfl)
      · exact grown_set (grown_set hg)
    · have hin : i = n := by omega
      subst hin
      go_wp2_with fail
      go_ret
      exact ⟨rfl, Or.inr ⟨B, c, rfl, Nat.lt_of_lt_of_le hB hg.size, HC.out⟩, hg⟩
set_option maxHeartbeats 2000000 in
theorem markG_at (B n c : Nat) (k : Int) (w : World) (hn : n ≤ 1048576) (k0 : 0 < k) (k1 : k ≤ 900000000) (hB : B < w.heap.size) (hl : Loose w B (n * 2)) :
    Calls Tryz.prog 37 #[.slice (some ⟨B, 0, none⟩) n c, .int .i64 k] w fun e w' => e = .returned (.int .i64 (k + n * 2)) ∧ HeldGV w' (.slice (some ⟨B, 0, none⟩) n c) n k ∧ w.grownBy w' (some B) := by
  have HL := hide hl
  clear hl
  go_enter Tryz.func37, Tryz.ntmps37
  go_wp2_with fail
  go_loopw [1, 5] (fun s t wr => ∃ (i : Nat), t = .int .i64 i ∧ s = .int .i64 (k + i * 2) ∧ i ≤ n ∧ Hid (Loose wr B (n * 2)) ∧ Hid (∀ j : Nat, j < i → wr.cell? ⟨B, j * 2, none⟩ = some (.string (mkT (k + j * 2))) ∧ wr.cell? ⟨B, j * 2 + 1, none⟩ = some (.int .i64 (k + j * 2 + 1))) ∧ w.grownBy wr (some B)) (fun _ t _ => n - (intOf t).toNat)
  case atStart => exact ⟨0, rfl, by simp, Nat.zero_le _, HL, hide fun j hj => absurd hj (Nat.not_lt_zero _), World.grownBy.refl _ _⟩
  case round =>
    obtain ⟨i, rfl, rfl, hi, HJ, HC, hg⟩ := hrel
    by_cases hlt : i < n
    · have i0 : (0 : Int) ≤ (i : Int) := by omega
      have i1 : (i : Int) < (n : Int) := by omega
      go_wp2_with fail
      refine (mt_any (k + i * 2) _ (by omega) (by omega)).mono ?_
      rintro e w2 ⟨rfl, hb2⟩
      have HJ2 := hide (HJ.out.below hb2)
      have HC2 : Hid (∀ j : Nat, j < i → w2.cell? ⟨B, j * 2, none⟩ = some (.string (mkT (k + j * 2))) ∧ w2.cell? ⟨B, j * 2 + 1, none⟩ = some (.int .i64 (k + j * 2 + 1))) := hide fun j hj => by
        have hl : B < wr.heap.size := HJ.out.lt (by omega)
        exact ⟨(hb2.cell (p := ⟨B, j * 2, none⟩) hl).trans (HC.out j hj).1, (hb2.cell (p := ⟨B, j * 2 + 1, none⟩) hl).trans (HC.out j hj).2⟩
      have hg2 := grown_of hg hb2
      obtain ⟨q0, f0⟩ := HJ2.out (i * 2) (by omega)
      obtain ⟨q1, f1⟩ := HJ2.out (i * 2 + 1) (by omega)
      obtain ⟨v0, c0⟩ := Option.isSome_iff_exists.1 q0
      obtain ⟨v1, c1⟩ := Option.isSome_iff_exists.1 q1
      clear q0 q1 hb2 hg
      generalize hT : mkT (k + i * 2) = T
      have HT := hide hT.symm
      clear hT
      go_wp2_with fail
      refine ⟨⟨i + 1, by go_num, by go_num, by omega, ?_, ?_, ?_⟩, by simp only [intOf]; omega⟩
      · exact hide (HJ2.out.set.set)
      · exact hide (marks_more (k := k) (F := fun j : Nat => .string (mkT (k + j * 2))) (G := fun j : Nat => .int .i64 (k + j * 2 + 1)) HJ2.out (by omega) HC2.out (congrArg _ HT.out) rfl rfl)
      · exact grown_set (grown_set hg2)
    · have hin : i = n := by omega
      subst hin
      go_wp2_with fail
      go_ret
      exact ⟨rfl, Or.inr ⟨B, c, rfl, Nat.lt_of_lt_of_le hB hg.size, HC.out⟩, hg⟩
set_option maxHeartbeats 400000 in
theorem markG_zero (c : Nat) (k : Int) (w : World) :
    Calls Tryz.prog 37 #[.slice none 0 c, .int .i64 k] w fun e w' => e = .returned (.int .i64 k) ∧ w' = w := by
  go_enter Tryz.func37, Tryz.ntmps37
  go_wp2_with fail
  go_loop [1, 5] (fun s t => s = .int .i64 k ∧ t = .int .i64 0) (fun s t => 0)
  case atStart => exact ⟨rfl, rfl⟩
  case round =>
    obtain ⟨rfl, rfl⟩ := hrel
    go_wp2_with fail
    go_ret
    exact ⟨rfl, rfl⟩
set_option maxHeartbeats 400000 in
theorem markL_zero (c : Nat) (k : Int) (w : World) :
    Calls Tryz.prog 38 #[.slice none 0 c, .int .i64 k] w fun e w' => e = .returned (.int .i64 k) ∧ w' = w := by
  go_enter Tryz.func38, Tryz.ntmps38
  go_wp2_with fail
  go_loop [1, 5] (fun s t => s = .int .i64 k ∧ t = .int .i64 0) (fun s t => 0)
  case atStart => exact ⟨rfl, rfl⟩
  case round =>
    obtain ⟨rfl, rfl⟩ := hrel
    go_wp2_with fail
    go_ret
    exact ⟨rfl, rfl⟩
theorem markG_v {v : Value} {n : Nat} {k : Int} {w : World} (hn : n ≤ 1048576) (k0 : 0 < k) (k1 : k ≤ 900000000) (h : LooseV w v n) :
    Calls Tryz.prog 37 #[v, .int .i64 k] w fun e w' => e = .returned (.int .i64 (k + n * 2)) ∧ HeldGV w' v n k ∧ w.grownBy w' v.ownBlock := by
  rcases h with ⟨rfl, rfl⟩ | ⟨g, cap, rfl, hl, hL⟩
  · refine (markG_zero _ _ _).mono ?_
    rintro e w' ⟨rfl, rfl⟩
    exact ⟨by simp, Or.inl ⟨rfl, rfl⟩, World.grownBy.refl _ _⟩
  · exact markG_at g n cap k w hn k0 k1 hl hL
theorem markL_v {v : Value} {n : Nat} {k : Int} {w : World} (hn : n ≤ 1048576) (k0 : 0 < k) (k1 : k ≤ 900000000) (h : LooseV w v n) :
    Calls Tryz.prog 38 #[v, .int .i64 k] w fun e w' => e = .returned (.int .i64 (k + n * 2)) ∧ HeldLV w' v n k ∧ w.grownBy w' v.ownBlock := by
  rcases h with ⟨rfl, rfl⟩ | ⟨g, cap, rfl, hl, hL⟩
  · refine (markL_zero _ _ _).mono ?_
    rintro e w' ⟨rfl, rfl⟩
    exact ⟨by simp, Or.inl ⟨rfl, rfl⟩, World.grownBy.refl _ _⟩
  · exact markL_at g n cap k w hn k0 k1 hl hL
theorem loose_hi {w : World} {v : Value} {n g : Nat} (h : LooseV w v n) (hg : v.ownBlock = some g) : g < w.heap.size := by
  rcases h with ⟨rfl, _⟩ | ⟨g', cap, rfl, hl, _⟩
  · cases hg
  · cases hg; exact hl
set_option maxHeartbeats 2000000 in
/-- Marks laid into both lists of a sheet. -/
theorem markSh_v {a1 a2 : Option Addr} {n n' c1 c2 : Nat} {k : Int} {w : World} (hn : n ≤ 1048576) (hn' : n' ≤ 1048576) (k0 : 0 < k) (k1 : k ≤ 800000000) (h1 : LooseV w (.slice a1 n c1) n) (h2 : LooseV w (.slice a2 n' c2) n') (hne : ∀ g, (Value.slice a1 n c1).ownBlock = some g → (Value.slice a2 n' c2).ownBlock ≠ some g) :
    Calls Tryz.prog 16 #[.agg #[.slice a1 n c1, .slice a2 n' c2], .int .i64 k] w fun e w' => e = .returned (.int .i64 (k + n * 2 + n' * 2)) ∧ HeldGV w' (.slice a1 n c1) n k ∧ HeldLV w' (.slice a2 n' c2) n' (k + n * 2) ∧ OffV w w' (.slice a1 n c1) (.slice a2 n' c2) := by
  have bn := below_new w (.cells #[.slice a1 n c1, .slice a2 n' c2] 38)
  have N1 : Hid (some w.heap.size ≠ (Value.slice a1 n c1).ownBlock) := hide fun he => by have := loose_hi h1 he.symm; omega
  have O1 := hide (h1.keep bn.size fun _ _ hl => bn.block _ hl)
  have O2 := hide (h2.keep bn.size fun _ _ hl => bn.block _ hl)
  have HI1 := hide fun g => loose_hi (g := g) h1
  have HNE := hide hne
  clear h1 h2 hne
  go_enter Tryz.func16, Tryz.ntmps16
  go_wp2_with fail
  refine (markG_v hn k0 (by omega) O1.out).mono ?_
  rintro e w1 ⟨rfl, C1, hg1⟩
  have O2' := hide (O2.out.keep hg1.size fun g hg hl => hg1.block g hl fun he => HNE.out g he.symm hg)
  have HC1 := hide C1
  have HG1 := hide hg1
  have p1 : w1.cell? ⟨w.heap.size, 1, none⟩ = some (.slice a2 n' c2) := (World.cell?_of_block (w := w.alloc (.cells #[.slice a1 n c1, .slice a2 n' c2] 38)) (a := ⟨w.heap.size, 1, none⟩) (hg1.block w.heap.size (by simp) N1.out)).trans (by simp [go_sem])
  clear C1 hg1
  go_wp2_with fail
  refine (markL_v hn' (by omega) (by omega) O2'.out).mono ?_
  rintro e w2 ⟨rfl, C2, hg2⟩
  have s1 : w.heap.size ≤ w1.heap.size := Nat.le_trans (by simp) HG1.out.size
  have C1' := hide (HC1.out.keep hg2.size fun g hg hl => hg2.block g hl fun he => HNE.out g hg he.symm)
  have HC2 := hide C2
  have hoff : OffV w w2 (.slice a1 n c1) (.slice a2 n' c2) := ⟨(hg2.os.trans HG1.out.os).trans bn.os, (hg2.tape.trans HG1.out.tape).trans bn.tape, (hg2.output.trans HG1.out.output).trans bn.output, Nat.le_trans s1 hg2.size, fun b hb h1 h2 => (hg2.block b (by omega) h2).trans ((HG1.out.block b (by simp; omega) h1).trans (bn.block b hb))⟩
  clear C2 hg2 HC1 O1 O2 O2' N1 HNE
  go_wp2_with fail
  go_ret
  exact ⟨rfl, C1'.out, HC2.out, hoff⟩
end Go.Proofs.YtlbagigghpiifabGreat
namespace Go.Proofs.YtlbagigghpiifabGreat
open Go.RowKit

def sheetB (gs : List Gd) (ls : List (Int × Int)) : Bool := goodsB gs && linesB gs.length ls
theorem sheetB_no {gs : List Gd} {ls : List (Int × Int)} {i : Nat} (hi : i < ls.length) (h : lineB gs.length (ls.getD i (0, 0)) = false) : sheetB gs ls = false := by
  rw [sheetB, linesB_not hi h, Bool.and_false]
theorem sheetB_all {gs : List Gd} {ls : List (Int × Int)} (h : ∀ i, i < ls.length → lineB gs.length (ls.getD i (0, 0)) = true) : sheetB gs ls = (goodsB gs && decide (ls.length ≤ 80)) := by
  rw [sheetB]
  by_cases h8 : ls.length ≤ 80
  · rw [linesB_of h8 h]; simp [h8]
  · rw [linesB_many (by omega)]; simp [h8]
set_option maxHeartbeats 2000000 in
theorem sgsh_any {a a' : Option Addr} {n c n' c' : Nat} {gs : List Gd} {ls : List (Int × Int)} {w : World} (hn : gs.length = n) (hn1 : n ≤ 1048576) (hc : n ≤ c) (hs : Short gs) (h : GRow w a gs)
    (hl : ls.length = n') (hl1 : n' ≤ 1048576) (hc' : n' ≤ c') (h' : LRow w a' ls) :
    Calls Tryz.prog 66 #[.agg #[.slice a n c, .slice a' n' c']] w fun e w' => e = .returned (.bool (sheetB gs ls)) ∧ Below w.heap.size w w' := by
  have H := hide h
  have H' := hide h'
  have HN := hide hn
  have HL := hide hl
  have HSh := hide hs
  clear h h' hn hl hs
  go_enter Tryz.func66, Tryz.ntmps66
  go_wp2_with fail
  have HB1 := hide ((Below.refl w.heap.size w).alloc (Nat.le_refl _) (.cells #[.slice a n c, .slice a' n' c'] 38))
  have HV0 : Hid ((w.alloc (.cells #[.slice a n c, .slice a' n' c'] 38)).cell? ⟨w.heap.size, 0, none⟩ = some (.slice a n c)) := hide (by simp [go_sem])
  have HV1 : Hid ((w.alloc (.cells #[.slice a n c, .slice a' n' c'] 38)).cell? ⟨w.heap.size, 1, none⟩ = some (.slice a' n' c')) := hide (by simp [go_sem])
  have HVl := hide (World.size_alloc w (.cells #[.slice a n c, .slice a' n' c'] 38))
  generalize w.alloc (.cells #[.slice a n c, .slice a' n' c'] 38) = W1 at *
  generalize hVV : w.heap.size = V at *
  have HR := hide (H.out.keep (w' := W1) (by have := HB1.out.size; omega) fun b hb => HB1.out.block b (by omega))
  have HR' : Hid (LRow W1 a' ls) := hide (H'.out.below (by rw [hVV]; exact HB1.out))
  go_loopw [2, 4, 8] (fun s2 _ s wr => ∃ k : Nat, s2 = .bool false ∧ s = .int .i64 k ∧ k ≤ n' ∧ Hid (∀ i, i < k → lineB gs.length (ls.getD i (0, 0)) = true) ∧ Hid (Below W1.heap.size W1 wr)) (fun _ _ s _ => n' - (intOf s).toNat)
  case atStart => exact ⟨0, rfl, rfl, Nat.zero_le _, hide fun i hi => absurd hi (Nat.not_lt_zero _), hide (Below.refl _ _)⟩
  case round =>
    obtain ⟨k, rfl, rfl, hk, HA, HBl⟩ := hrel
    have hSV := HVl.out
    have hBz := HBl.out.size
    have hV0 := (HBl.out.cell (p := ⟨V, 0, none⟩) (show V < W1.heap.size by omega)).trans HV0.out
    have hV1 := (HBl.out.cell (p := ⟨V, 1, none⟩) (show V < W1.heap.size by omega)).trans HV1.out
    have hVl : V < wr.heap.size := by omega
    have HBW : Hid (Below V w wr) := hide (HB1.out.trans (HBl.out.mono (by have := HB1.out.size; omega)))
    by_cases hlt : k < n'
    · obtain ⟨b, off, rfl, hb, r1, r2⟩ := (HR'.out.below HBl.out).at (i := k) (by rw [HL.out]; exact hlt)
      have i0 : (0 : Int) ≤ (k : Int) := by omega
      have i1 : (k : Int) < (n' : Int) := by omega
      have hklen : k < ls.length := by rw [HL.out]; exact hlt
      have HNO := hide (fun h => sheetB_no (gs := gs) hklen h)
      have HOK : Hid (lineB gs.length (ls.getD k (0, 0)) = true → ∀ i, i < k + 1 → lineB gs.length (ls.getD i (0, 0)) = true) := hide fun he i hi => by
        by_cases e : i = k
        · subst e; exact he
        · exact HA.out i (by omega)
      generalize ls.getD k (0, 0) = x at *
      obtain ⟨x1, x2⟩ := x
      have HLB : Hid (lineB gs.length (x1, x2) = (Pf.inB x1 0 ((n : Int) - 1) && Pf.inB x2 1 99)) := hide (by rw [HN.out]; rfl)
      have hVa : ∀ o : Obj, (wr.alloc o).cell? ⟨V, 0, none⟩ = some (.slice a n c) := fun o => (((Below.refl _ _).alloc (Nat.le_refl _) o).cell (p := ⟨V, 0, none⟩) hVl).trans hV0
      have bn := (Below.refl wr.heap.size wr).alloc (Nat.le_refl _) (.cells #[.int .i64 x1, .int .i64 x2] 85)
      have HBn := hide (HBl.out.trans (bn.mono hBz))
      have HBm := hide (HBW.out.trans (bn.mono (by omega)))
      clear bn hklen HA hSV
      by_cases h0 : x1 < 0
      · have HF := hide (HNO.out (by rw [HLB.out]; simp [Pf.inB]; omega))
        go_wp2_with fail
        go_ret
        exact ⟨ret_bool HF.out.symm, by first | exact HBm.out | (rw [hVV]; exact HBm.out)⟩
      · by_cases h1 : (n : Int) ≤ x1
        · have HF := hide (HNO.out (by rw [HLB.out]; simp [Pf.inB]; omega))
          go_wp2_with fail
          go_ret
          exact ⟨ret_bool HF.out.symm, by first | exact HBm.out | (rw [hVV]; exact HBm.out)⟩
        · cases h2 : Pf.inB x2 1 99
          · have HF := hide (HNO.out (by rw [HLB.out, h2, Bool.and_false]))
            go_wp2_with ((go_at_call 68; refine (in_eq h2).mono ?_; rintro e w1 ⟨rfl, rfl⟩))
            go_ret
            exact ⟨ret_bool HF.out.symm, by first | exact HBm.out | (rw [hVV]; exact HBm.out)⟩
          · have HG := hide (HOK.out (by rw [HLB.out, h2, Bool.and_true]; exact Pf.inB_of (by omega) (by omega)))
            go_wp2_with ((go_at_call 68; refine (in_eq h2).mono ?_; rintro e w1 ⟨rfl, rfl⟩))
            go_round
            case rel => exact ⟨k + 1, rfl, by go_num, by omega, HG, HBn⟩
            case measure => simp only [intOf]; omega
    · have hke : k = n' := by omega
      have HK := hide (sheetB_all (gs := gs) (ls := ls) fun i hi => HA.out i (by rw [HL.out] at hi; omega))
      have HRr := HR.out.below HBl.out
      have hn := HN.out
      have hl := HL.out
      clear HA
      subst hke
      rw [hl] at HK
      cases hg : goodsB gs
      · have HF : Hid (sheetB gs ls = false) := hide (by rw [HK.out, hg]; rfl)
        have sg := sgg_any hn hn1 hc HSh.out HRr
        rw [hg] at sg
        have SG := hide sg
        clear sg HRr hn hl
        go_wp2_with ((go_at_call 92; refine SG.out.mono ?_; rintro e w1 ⟨rfl, hw1⟩; have HW1 := hide hw1; clear hw1))
        go_ret
        have HZ := HBW.out.trans (HW1.out.mono (by omega))
        exact ⟨by first | exact ret_bool HF.out.symm | exact ret_bool (by rw [HF.out]; exact decide_eq_false (by omega)), by first | exact HZ | (rw [hVV]; exact HZ)⟩
      · have sg := sgg_any hn hn1 hc HSh.out HRr
        rw [hg] at sg
        have SG := hide sg
        clear sg HRr hn hl
        by_cases h8 : k ≤ 80
        · have HF : Hid (sheetB gs ls = true) := hide (by rw [HK.out, hg]; simp [h8])
          have h8' : (k : Int) ≤ 80 := by omega
          go_wp2_with ((go_at_call 92; refine SG.out.mono ?_; rintro e w1 ⟨rfl, hw1⟩; have hv1 := (hw1.cell (p := ⟨V, 1, none⟩) hVl).trans hV1; have HW1 := hide hw1; clear hw1))
          go_ret
          have HZ := HBW.out.trans (HW1.out.mono (by omega))
          exact ⟨by first | exact ret_bool HF.out.symm | exact ret_bool (by rw [HF.out]; exact decide_eq_false (by omega)), by first | exact HZ | (rw [hVV]; exact HZ)⟩
        · have HF : Hid (sheetB gs ls = false) := hide (by rw [HK.out, hg]; simp [h8])
          have h8' : ¬ (k : Int) ≤ 80 := by omega
          go_wp2_with ((go_at_call 92; refine SG.out.mono ?_; rintro e w1 ⟨rfl, hw1⟩; have hv1 := (hw1.cell (p := ⟨V, 1, none⟩) hVl).trans hV1; have HW1 := hide hw1; clear hw1))
          go_ret
          have HZ := HBW.out.trans (HW1.out.mono (by omega))
          exact ⟨by first | exact ret_bool HF.out.symm | exact ret_bool (by rw [HF.out]; exact decide_eq_false (by omega)), by first | exact HZ | (rw [hVV]; exact HZ)⟩
end Go.Proofs.YtlbagigghpiifabGreat
namespace Go.Proofs.YtlbagigghpiifabGreat
open Go.RowKit

/-- The answer's variable, as yet with no profile. -/
def RV (w w1 : World) : Prop := w1.cell? ⟨w.heap.size, 0, none⟩ = some (.slice none 0 0) ∧ w1.cell? ⟨w.heap.size, 1, none⟩ = some (.slice none 0 0) ∧ w1.frozen? ⟨w.heap.size, 0, none⟩ = false ∧ w1.frozen? ⟨w.heap.size, 1, none⟩ = false ∧ Below w.heap.size w w1 ∧ w.heap.size < w1.heap.size
theorem RV.new (w : World) (t : TypeId) : RV w (w.alloc (.cells #[.slice none 0 0, .slice none 0 0] t)) :=
  ⟨by simp [go_sem], by simp [go_sem], by simp [go_sem], by simp [go_sem], (Below.refl _ _).alloc (Nat.le_refl _) _, by simp⟩
theorem RV.below {w w1 w2 : World} (h : RV w w1) (hb : Below w1.heap.size w1 w2) : RV w w2 := by
  obtain ⟨c0, c1, f0, f1, hB, hl⟩ := h
  obtain ⟨hc, hf⟩ := bcell hb
  exact ⟨(hc _ _ hl).trans c0, (hc _ _ hl).trans c1, (hf _ _ hl).trans f0, (hf _ _ hl).trans f1, hB.trans (hb.mono (by omega)), Nat.lt_of_lt_of_le hl hb.size⟩

theorem gg_h {a : Option Addr} {n c : Nat} {gs : List Gd} {w w1 : World} {b : Bool} (HN : Hid (gs.length = n)) (hc : n ≤ c) (HS : Hid (Short gs)) (H : Hid (GRow w a gs)) (HG : Hid (goodsB gs = b)) (hB : Below w.heap.size w w1) :
    Calls Tryz.prog 73 #[.slice a n c] w1 fun e w' => e = .returned (.bool b) ∧ Below w1.heap.size w1 w' :=
  HG.out ▸ gg_any HN.out hc HS.out (H.out.below hB)
theorem al_h {a : Option Addr} {n c g : Nat} {ls : List (Int × Int)} {w w1 : World} {b : Bool} (HN : Hid (ls.length = n)) (hg : g ≤ 12) (H : Hid (LRow w a ls)) (HG : Hid (linesB g ls = b)) (hB : Below w.heap.size w w1) :
    Calls Tryz.prog 74 #[.slice a n c, .int .i64 g] w1 fun e w' => e = .returned (.bool b) ∧ Below w1.heap.size w1 w' := by
  have := al_any (c := c) hg (H.out.below hB)
  rw [HN.out, HG.out] at this
  exact this
set_option maxHeartbeats 2000000 in
theorem po_bad1 {a a' : Option Addr} {n c n' c' : Nat} {gs : List Gd} {w : World} (hn : gs.length = n) (hc : n ≤ c) (hs : Short gs) (h : GRow w a gs) (hg : goodsB gs = false) :
    Calls Tryz.prog 52 #[.slice a n c, .slice a' n' c'] w fun e w' => e = .returned (.tuple #[.agg #[.slice none 0 0, .slice none 0 0], .bool false]) ∧ Below w.heap.size w w' := by
  have H := hide h
  have HG := hide hg
  have HN := hide hn
  have HS := hide hs
  clear h hg hn hs
  go_enter Tryz.func52, Tryz.ntmps52
  go_wp2_with ((go_at_call 73; refine (gg_h HN hc HS H HG ((Below.refl _ _).alloc (Nat.le_refl _) _)).mono ?_; rintro e w1 ⟨rfl, hb1⟩; obtain ⟨p4, p5, f0, f1, hB1, z1⟩ := (RV.new w _).below hb1))
  exact bodyPost_ret (v := .tuple #[.agg #[.slice none 0 0, .slice none 0 0], .bool false]) (by simp [results, Tryz.results52, go_sem, p4, p5]) rfl ⟨rfl, (hB1.setCell (Nat.le_refl _) _).setCell (Nat.le_refl _) _⟩
set_option maxHeartbeats 2000000 in
theorem po_bad2 {a a' : Option Addr} {n c n' c' : Nat} {gs : List Gd} {ls : List (Int × Int)} {w : World} (hn : gs.length = n) (hc : n ≤ c) (hs : Short gs) (h : GRow w a gs) (hg : goodsB gs = true)
    (hn' : ls.length = n') (h' : LRow w a' ls) (hl : linesB n ls = false) :
    Calls Tryz.prog 52 #[.slice a n c, .slice a' n' c'] w fun e w' => e = .returned (.tuple #[.agg #[.slice none 0 0, .slice none 0 0], .bool false]) ∧ Below w.heap.size w w' := by
  have h12 : n ≤ 12 := hn ▸ goodsB_len hg
  have H := hide h
  have HG := hide hg
  have HN := hide hn
  have HS := hide hs
  have H' := hide h'
  have HN' := hide hn'
  have HL := hide hl
  clear h hg hn hs h' hn' hl
  go_enter Tryz.func52, Tryz.ntmps52
  go_wp2_with (first
    | (go_at_call 73; refine (gg_h HN hc HS H HG ((Below.refl _ _).alloc (Nat.le_refl _) _)).mono ?_; rintro e w1 ⟨rfl, hb1⟩; obtain ⟨p4, p5, f0, f1, hB1, z1⟩ := (RV.new w _).below hb1)
    | (go_at_call 74; refine (al_h HN' h12 H' HL hB1).mono ?_; rintro e w2 ⟨rfl, hb2⟩; obtain ⟨q4, q5, g0, g1, hB2, z2⟩ := RV.below ⟨p4, p5, f0, f1, hB1, z1⟩ hb2))
  exact bodyPost_ret (v := .tuple #[.agg #[.slice none 0 0, .slice none 0 0], .bool false]) (by simp [results, Tryz.results52, go_sem, q4, q5]) rfl ⟨rfl, (hB2.setCell (Nat.le_refl _) _).setCell (Nat.le_refl _) _⟩
end Go.Proofs.YtlbagigghpiifabGreat
namespace Go.Proofs.YtlbagigghpiifabGreat
open Go.RowKit

theorem gg_h15 {a : Option Addr} {n c : Nat} {gs : List Gd} {w w1 : World} {b : Bool} (HN : Hid (gs.length = n)) (hc : n ≤ c) (HS : Hid (Short gs)) (H : Hid (GRow w a gs)) (HG : Hid (goodsB gs = b)) (hB : Below w.heap.size w w1) :
    Calls Tryz.prog 73 #[.slice a n c] w1 fun e w' => e = .returned (.bool b) ∧ Below w1.heap.size w1 w' :=
  HG.out ▸ gg_any HN.out hc HS.out (H.out.below hB)
theorem al_h15 {a : Option Addr} {n c g : Nat} {ls : List (Int × Int)} {w w1 : World} {b : Bool} (HN : Hid (ls.length = n)) (hg : g ≤ 12) (H : Hid (LRow w a ls)) (HG : Hid (linesB g ls = b)) (hB : Below w.heap.size w w1) :
    Calls Tryz.prog 74 #[.slice a n c, .int .i64 g] w1 fun e w' => e = .returned (.bool b) ∧ Below w1.heap.size w1 w' := by
  have := al_any (c := c) hg (H.out.below hB)
  rw [HN.out, HG.out] at this
  exact this
end Go.Proofs.YtlbagigghpiifabGreat
namespace Go.Proofs.YtlbagigghpiifabGreat
open Go.RowKit

/-- A list of lines of the laws' own. -/
def LW (w : World) (b : Nat) (ls : List (Int × Int)) : Prop := b < w.heap.size ∧ LAt w b 0 ls
theorem LW.below {w w' : World} {b : Nat} {ls : List (Int × Int)} (h : LW w b ls) (hb : Below w.heap.size w w') : LW w' b ls := ⟨Nat.lt_of_lt_of_le h.1 hb.size, h.2.below hb h.1⟩
theorem LW.row {w : World} {b : Nat} {ls : List (Int × Int)} (h : LW w b ls) : LRow w (some ⟨b, 0, none⟩) ls := h.2.row h.1
theorem toL_n (a : Option Addr) (c n : Nat) (ls : List (Int × Int)) (w : World) (hn : ls.length = n) (hlen : n ≤ 1048576) (hr : LRow w a ls) :
    Calls Tryz.prog 26 #[.slice a n c] w fun e w' => e = .returned (.slice (some ⟨w.heap.size, 0, none⟩) n n) ∧ Below w.heap.size w w' ∧ w.heap.size < w'.heap.size ∧ LW w' w.heap.size ls ∧ Loose w' w.heap.size (n * 2) := by
  subst hn
  exact (toL_row a c ls w hlen hr).mono fun e w' ⟨he, hb, hz, hl, hL⟩ => ⟨he, hb, hz, ⟨hz, hl⟩, hL⟩
theorem eqL_n (b c n : Nat) (ls : List (Int × Int)) (w : World) (hn : ls.length = n) (hlen : n ≤ 1048576) (h1 : LW w b ls) (h2 : LW w c ls) :
    Calls Tryz.prog 31 #[.slice (some ⟨b, 0, none⟩) n n, .slice (some ⟨c, 0, none⟩) n n] w fun e w' => e = .returned (.bool true) ∧ Below w.heap.size w w' := by
  subst hn
  exact eqL_same b c _ _ ls w hlen h1.1 h2.1 h1.2 h2.2
/-- What both ProfileOfs answer. -/
def PoAns (f n n' r : Nat) (ok : Bool) (gs : List Gd) (ls : List (Int × Int)) (R1 R2 : List Int) : Prop :=
  ∀ (W : World) (b b' : Nat), Short gs → GRow W (some ⟨b, 0, none⟩) gs → LRow W (some ⟨b', 0, none⟩) ls →
    Calls Tryz.prog f #[.slice (some ⟨b, 0, none⟩) n n, .slice (some ⟨b', 0, none⟩) n' n'] W fun e w' => ∃ v1 v2, e = .returned (.tuple #[.agg #[v1, v2], .bool ok]) ∧ Below W.heap.size W w' ∧ w'.ownsRow W.heap.size 3 1 v1 r (ints R1) ∧ w'.ownsRow W.heap.size 3 1 v2 r (ints R2) ∧ ∀ g, v1.ownBlock = some g → v2.ownBlock ≠ some g

end Go.Proofs.YtlbagigghpiifabGreat
namespace Go.Proofs.YtlbagigghpiifabGreat
open Go.RowKit

theorem sgg_h {a : Option Addr} {n c : Nat} {gs : List Gd} {w w1 : World} {b : Bool} (HN : Hid (gs.length = n)) (hn : n ≤ 1048576) (hc : n ≤ c) (HS : Hid (Short gs)) (H : Hid (GRow w a gs)) (HG : Hid (goodsB gs = b)) (hB : Below w.heap.size w w1) :
    Calls Tryz.prog 92 #[.slice a n c] w1 fun e w' => e = .returned (.bool b) ∧ Below w1.heap.size w1 w' :=
  HG.out ▸ sgg_any HN.out hn hc HS.out (H.out.below hB)
set_option maxHeartbeats 2000000 in
theorem spo_bad1 {a a' : Option Addr} {n c n' c' : Nat} {gs : List Gd} {w : World} (hn : gs.length = n) (hn1 : n ≤ 1048576) (hc : n ≤ c) (hs : Short gs) (h : GRow w a gs) (hg : goodsB gs = false) :
    Calls Tryz.prog 67 #[.slice a n c, .slice a' n' c'] w fun e w' => e = .returned (.tuple #[.agg #[.slice none 0 0, .slice none 0 0], .bool false]) ∧ Below w.heap.size w w' := by
  have H := hide h
  have HG := hide hg
  have HN := hide hn
  have HS := hide hs
  clear h hg hn hs
  go_enter Tryz.func67, Tryz.ntmps67
  go_wp2_with ((go_at_call 92; refine (sgg_h HN hn1 hc HS H HG ((Below.refl _ _).alloc (Nat.le_refl _) _)).mono ?_; rintro e w1 ⟨rfl, hb1⟩; obtain ⟨p4, p5, f0, f1, hB1, z1⟩ := (RV.new w _).below hb1))
  exact bodyPost_ret (v := .tuple #[.agg #[.slice none 0 0, .slice none 0 0], .bool false]) (by simp [results, Tryz.results67, go_sem, p4, p5]) rfl ⟨rfl, (hB1.setCell (Nat.le_refl _) _).setCell (Nat.le_refl _) _⟩
set_option maxHeartbeats 2000000 in
theorem spo_many {a a' : Option Addr} {n c n' c' : Nat} {gs : List Gd} {w : World} (hn : gs.length = n) (hn1 : n ≤ 1048576) (hc : n ≤ c) (hs : Short gs) (h : GRow w a gs) (hg : goodsB gs = true) (hl : 80 < n') :
    Calls Tryz.prog 67 #[.slice a n c, .slice a' n' c'] w fun e w' => e = .returned (.tuple #[.agg #[.slice none 0 0, .slice none 0 0], .bool false]) ∧ Below w.heap.size w w' := by
  have h80 : (80 : Int) < (n' : Int) := by omega
  have H := hide h
  have HG := hide hg
  have HN := hide hn
  have HS := hide hs
  clear h hg hn hs
  go_enter Tryz.func67, Tryz.ntmps67
  go_wp2_with ((go_at_call 92; refine (sgg_h HN hn1 hc HS H HG ((Below.refl _ _).alloc (Nat.le_refl _) _)).mono ?_; rintro e w1 ⟨rfl, hb1⟩; obtain ⟨p4, p5, f0, f1, hB1, z1⟩ := (RV.new w _).below hb1))
  exact bodyPost_ret (v := .tuple #[.agg #[.slice none 0 0, .slice none 0 0], .bool false]) (by simp [results, Tryz.results67, go_sem, p4, p5]) rfl ⟨rfl, (hB1.setCell (Nat.le_refl _) _).setCell (Nat.le_refl _) _⟩
end Go.Proofs.YtlbagigghpiifabGreat
namespace Go.Proofs.YtlbagigghpiifabGreat
open Go.RowKit Go.Maps

theorem own_keep' {w w' : World} {base n : Nat} {v : Value} {xs : List Value} (h : w.ownsRow base 3 1 v n xs) (hb : ∀ g, v.ownBlock = some g → g < w.heap.size → w'.heap[g]? = w.heap[g]?) : w'.ownsRow base 3 1 v n xs := by
  rcases h with ⟨h0, h | ⟨g', cap, cur, rfl, h2, h3, h4⟩⟩
  · exact ⟨h0, Or.inl h⟩
  · exact ⟨h0, Or.inr ⟨g', cap, cur, rfl, h2, (hb g' rfl (Array.getElem?_eq_some_iff.1 h3).1).trans h3, h4⟩⟩
abbrev Dem := Nat → Option (Int × Int)
def Dem.get (f : Dem) (i : Nat) : Int × Int := (f i).getD (0, 0)
def Dem.set (f : Dem) (i : Nat) (x : Int × Int) : Dem := fun j => if j = i then some x else f j
def Dem.del (f : Dem) (i : Nat) : Dem := fun j => if j = i then none else f j

/-- How a tally reads. -/
def tal (p q : Int) : DataW Unit := .agg [.lit (.int .i64 p), .lit (.int .i64 q)]
def RT : Value → Option (DataW Unit × List MemPlace)
  | .agg xs => match xs.toList with
    | [.int .i64 p, .int .i64 q] => some (tal p q, [])
    | _ => none
  | _ => none
theorem RT_mk (p q : Int) : RT (.agg #[.int .i64 p, .int .i64 q]) = some (tal p q, []) := rfl
theorem RT_inv {v : Value} {z : DataW Unit × List MemPlace} (h : RT v = some z) : ∃ p q, v = .agg #[.int .i64 p, .int .i64 q] ∧ z = (tal p q, []) := by
  unfold RT at h
  split at h
  · rename_i xs
    split at h
    · rename_i p q hx
      cases h
      refine ⟨p, q, ?_, rfl⟩
      have : xs = #[.int .i64 p, .int .i64 q] := by rw [← hx]
      rw [this]
    · cases h
  · cases h
theorem tal_inj {p q p' q' : Int} (h : tal p q = tal p' q') : p = p' ∧ q = q' := by
  unfold tal at h
  injection h with h
  injection h with h1 h2
  injection h1 with h1
  injection h2 with h2 _
  injection h2 with h2
  injection h1 with _ h1
  injection h2 with _ h2
  exact ⟨h1, h2⟩

def ky (i : Nat) : Lit := .int .i64 (i : Int)
theorem ky_ne {i j : Nat} (h : i ≠ j) : ky i ≠ ky j := fun e => by
  unfold ky at e
  injection e with _ e
  omega
theorem ky_key (i : Nat) : WideAt.IsKeyLit (ky i) := trivial
theorem ky_of {i : Nat} (h : i ≤ 1000000) : keyOf Tryz.prog 3 (.int .i64 (i : Int)) = some (ky i) := keyOf_int_mk Tryz.underlying3 (by simp [Lit.wf, IntKind.min, IntKind.max, IntKind.bits, IntKind.signed]; omega)

/-- A datum that reads as the function f, its keys below n. -/
structure Dm (D : DataW Unit) (f : Dem) (n : Nat) : Prop where
  keys : ∀ kl, has D kl = true → ∃ i, i < n ∧ kl = ky i
  has_ : ∀ i, has D (ky i) = (f i).isSome
  at_ : ∀ i p q, f i = some (p, q) → ∀ z, D.atKey (ky i) z = tal p q
theorem Dm.get {D : DataW Unit} {f : Dem} {n : Nat} (h : Dm D f n) (i : Nat) : D.atKey (ky i) (tal 0 0) = tal (f.get i).1 (f.get i).2 := by
  unfold Dem.get
  cases hf : f i with
  | none =>
    have := h.has_ i
    rw [hf] at this
    rw [atKey_of_not_has this]; rfl
  | some x => obtain ⟨p, q⟩ := x; rw [h.at_ i p q hf]; rfl
theorem Dm.empty (n : Nat) : Dm (.map []) (fun _ => none) n := { keys := fun kl h => by simp [Maps.has] at h, has_ := fun _ => rfl, at_ := fun _ _ _ h => by simp at h }
theorem Dm.put {D : DataW Unit} {f : Dem} {n : Nat} (h : Dm D f n) (hD : IsMap D) {i : Nat} (hi : i < n) (p q : Int) : Dm (D.put (ky i) (tal p q)) (f.set i (p, q)) n := by
  refine ⟨fun kl hk => ?_, fun j => ?_, fun j p' q' hf z => ?_⟩
  · by_cases e : kl = ky i
    · exact ⟨i, hi, e⟩
    · rw [has_put_other e] at hk; exact h.keys kl hk
  · unfold Dem.set
    by_cases e : j = i
    · subst e; rw [has_put_same hD (ky_key j)]; simp
    · rw [has_put_other (ky_ne e), h.has_ j]; simp [e]
  · unfold Dem.set at hf
    by_cases e : j = i
    · subst e
      simp at hf
      rw [atKey_put_same hD (ky_key j)]
      rw [hf.1, hf.2]
    · rw [if_neg e] at hf
      rw [atKey_put_other (ky_ne e), h.at_ j p' q' hf]
theorem Dm.drop {D : DataW Unit} {f : Dem} {n : Nat} (h : Dm D f n) (i : Nat) : Dm (D.del (ky i)) (f.del i) n := by
  refine ⟨fun kl hk => ?_, fun j => ?_, fun j p' q' hf z => ?_⟩
  · by_cases e : kl = ky i
    · rw [e, has_del_same] at hk; cases hk
    · rw [has_del_other e] at hk; exact h.keys kl hk
  · unfold Dem.del
    by_cases e : j = i
    · subst e; rw [has_del_same]; simp
    · rw [has_del_other (ky_ne e), h.has_ j]; simp [e]
  · unfold Dem.del at hf
    by_cases e : j = i
    · subst e; simp at hf
    · rw [if_neg e] at hf
      rw [atKey_del_other (ky_ne e), h.at_ j p' q' hf]

/-- Block b is a map of at most nn entries that reads as f, its keys below n. -/
def MO (w : World) (b n nn : Nat) (f : Dem) : Prop := ∃ D, w.ownsMap Tryz.prog 3 RT b nn D ∧ Dm D f n
theorem MO.lt {w : World} {b n nn : Nat} {f : Dem} (h : MO w b n nn f) : b < w.heap.size := by obtain ⟨D, h, _⟩ := h; exact h.lt
theorem MO.keep {w w' : World} {b n nn : Nat} {f : Dem} (h : MO w b n nn f) (hb : w'.heap[b]? = w.heap[b]?) : MO w' b n nn f := by
  obtain ⟨D, ⟨es, clock, h1, h2⟩, hd⟩ := h
  exact ⟨D, ⟨es, clock, hb.trans h1, h2⟩, hd⟩
theorem MO.below {w w' : World} {b n nn : Nat} {f : Dem} (h : MO w b n nn f) (hb : Below w.heap.size w w') : MO w' b n nn f := h.keep (hb.block b h.lt)
theorem MO.made (w : World) (n : Nat) : MO (w.alloc (.map #[] 0)) w.heap.size n 0 (fun _ => none) := ⟨_, World.ownsMap_made w Tryz.prog 3 RT, Dm.empty n⟩
theorem zero_tally (w : World) : (zeroValue 121).run Tryz.prog w = .ok (.agg #[.int .i64 0, .int .i64 0]) w := Tryz.zeroValue121 w
theorem MO.look {w : World} {b n nn : Nat} {f : Dem} (h : MO w b n nn f) {i : Nat} (hi : i ≤ 1000000) :
    (Instr.lookup 108 (.map (some b)) (.int .i64 (i : Int)) false).run Tryz.prog w = .ok (.agg #[.int .i64 (f.get i).1, .int .i64 (f.get i).2]) w := by
  obtain ⟨D, h, hd⟩ := h
  obtain ⟨v, ps, hrun, hv⟩ := h.lookup (int_keyed Tryz.underlying3) Tryz.underlying108 (zero_tally w) (RT_mk 0 0) (ky_of hi)
  obtain ⟨p, q, rfl, hz⟩ := RT_inv hv
  rw [hd.get i] at hz
  obtain ⟨h1, h2⟩ := tal_inj (show tal (f.get i).1 (f.get i).2 = tal p q from congrArg Prod.fst hz)
  rw [hrun, h1, h2]
set_option maxRecDepth 100000 in
theorem MO.put {w : World} {b n nn : Nat} {f : Dem} (h : MO w b n nn f) {i : Nat} (hi : i < n) (hn : n ≤ 1000000) (hnn : nn < maxLen) (p q : Int) :
    ∃ w', (Instr.mapUpdate 108 (.map (some b)) (.int .i64 (i : Int)) (.agg #[.int .i64 p, .int .i64 q])).run Tryz.prog w = .ok () w' ∧ MO w' b n (nn + 1) (f.set i (p, q)) ∧ w.grownBy w' (some b) := by
  obtain ⟨D, h, hd⟩ := h
  obtain ⟨w', hrun, h1, h2⟩ := h.update (int_keyed Tryz.underlying3) Tryz.underlying108 hnn (ky_of (i := i) (by omega)) (RT_mk p q)
  exact ⟨w', hrun, ⟨_, h1, hd.put h.isMap hi p q⟩, h2⟩

set_option maxHeartbeats 1000000 in
set_option maxRecDepth 100000 in
theorem add_any {w : World} {b n nn i : Nat} {f : Dem} {p q : Int} (h : MO w b n nn f) (hi : i < n) (hn : n ≤ 1000000) (hnn : nn ≤ 1000000) (h1 : 0 ≤ (f.get i).1) (h2 : (f.get i).1 ≤ 1000000000) (h3 : 0 ≤ (f.get i).2) (h4 : (f.get i).2 ≤ 1000000000) (p0 : 0 ≤ p) (p1 : p ≤ 1000000000) (q0 : 0 ≤ q) (q1 : q ≤ 1000000000) :
    Calls Tryz.prog 75 #[.map (some b), .int .i64 (i : Int), .int .i64 p, .int .i64 q] w fun e w' => e = .returned (.tuple #[]) ∧ MO w' b n (nn + 1) (f.set i ((f.get i).1 + p, (f.get i).2 + q)) ∧ w.grownBy w' (some b) := by
  have hl := h.look (i := i) (by omega)
  have hal := h.keep (w' := w.alloc (.cells #[.int .i64 (f.get i).1, .int .i64 (f.get i).2] 121)) (((Below.refl _ _).alloc (Nat.le_refl _) _).block b h.lt)
  obtain ⟨w2, hr, hm2, hg2⟩ := hal.put hi hn (by unfold maxLen; omega) ((f.get i).1 + p) ((f.get i).2 + q)
  have HM := hide hm2
  have HG := hide hg2
  have HB := hide ((Below.refl w.heap.size w).alloc (Nat.le_refl _) (.cells #[.int .i64 (f.get i).1, .int .i64 (f.get i).2] 121))
  clear hm2 hg2 hal h
  generalize (f.get i).1 = x at *
  generalize (f.get i).2 = y at *
  go_enter Tryz.func75, Tryz.ntmps75
  go_wp2_with fail
  go_end0
  refine ⟨rfl, HM.out, ?_⟩
  exact ⟨HG.out.os.trans HB.out.os, HG.out.tape.trans HB.out.tape, HG.out.output.trans HB.out.output, Nat.le_trans HB.out.size HG.out.size, fun k hk hne => (HG.out.block k (by simp; omega) hne).trans (HB.out.block k hk)⟩
end Go.Proofs.YtlbagigghpiifabGreat
namespace Go.Proofs.YtlbagigghpiifabGreat
open Go.RowKit Go.Maps Go.Sort

/-- The map behind the first k lines. -/
def lineF (gs : List Gd) (ls : List (Int × Int)) : Nat → Dem
  | 0 => fun _ => none
  | k + 1 => (lineF gs ls k).set (ls.getD k (0, 0)).1.toNat (((lineF gs ls k).get (ls.getD k (0, 0)).1.toNat).1 + 1, ((lineF gs ls k).get (ls.getD k (0, 0)).1.toNat).2 + (gs.getD (ls.getD k (0, 0)).1.toNat gd0).2 * (ls.getD k (0, 0)).2)
theorem line_bd {g : Nat} {gs : List Gd} {ls : List (Int × Int)} (hg : goodsB gs = true) (hn : gs.length = g) (hl : linesB g ls = true) {k : Nat} (hk : k < ls.length) :
    0 ≤ (ls.getD k (0, 0)).1 ∧ (ls.getD k (0, 0)).1 < g ∧ 1 ≤ (ls.getD k (0, 0)).2 ∧ (ls.getD k (0, 0)).2 ≤ 99 ∧ 0 ≤ (gs.getD (ls.getD k (0, 0)).1.toNat gd0).2 * (ls.getD k (0, 0)).2 ∧ (gs.getD (ls.getD k (0, 0)).1.toNat gd0).2 * (ls.getD k (0, 0)).2 ≤ 10000 := by
  have h1 := linesB_at hl hk
  simp only [lineB, Bool.and_eq_true] at h1
  obtain ⟨a0, a1⟩ := Pf.inB_yes h1.1
  obtain ⟨b0, b1⟩ := Pf.inB_yes h1.2
  have h2 := goodsB_at hg (i := (ls.getD k (0, 0)).1.toNat) (by omega)
  simp only [okG, Bool.and_eq_true] at h2
  obtain ⟨c0, c1⟩ := Pf.inB_yes h2.2.1
  refine ⟨a0, by omega, b0, b1, Int.mul_nonneg (by omega) (by omega), ?_⟩
  exact Int.le_trans (Int.mul_le_mul c1 b1 (by omega) (by omega)) (by decide)
theorem lineF_bd {g : Nat} {gs : List Gd} {ls : List (Int × Int)} (hg : goodsB gs = true) (hn : gs.length = g) (hl : linesB g ls = true) : ∀ k, k ≤ ls.length → ∀ i, 0 ≤ ((lineF gs ls k).get i).1 ∧ ((lineF gs ls k).get i).1 ≤ k ∧ 0 ≤ ((lineF gs ls k).get i).2 ∧ ((lineF gs ls k).get i).2 ≤ 10000 * (k : Int) := by
  intro k
  induction k with
  | zero => intro _ i; simp [lineF, Dem.get]
  | succ k ih =>
    intro hk i
    have b := line_bd hg hn hl (k := k) (by omega)
    have h0 := ih (by omega)
    by_cases e : i = (ls.getD k (0, 0)).1.toNat
    · have h1 := h0 i
      have e1 : (lineF gs ls (k + 1)).get i = (((lineF gs ls k).get i).1 + 1, ((lineF gs ls k).get i).2 + (gs.getD i gd0).2 * (ls.getD k (0, 0)).2) := by
        rw [e]; simp only [lineF, Dem.get, Dem.set, if_true, Option.getD_some]
      rw [e1]
      rw [← e] at b
      push_cast
      refine ⟨?_, ?_, ?_, ?_⟩ <;> omega
    · have h1 := h0 i
      have e1 : (lineF gs ls (k + 1)).get i = (lineF gs ls k).get i := by simp only [lineF, Dem.get, Dem.set, if_neg e]
      rw [e1]
      push_cast
      refine ⟨?_, ?_, ?_, ?_⟩ <;> omega
theorem mkmapN (W : World) : (Instr.makeMap 108 none).run Tryz.prog W = .ok (.map (some W.heap.size)) (W.alloc (.map #[] 0)) := by
  simp [Instr.makeMap, go_sem, Result.andThen]
theorem grown_drewN {w w1 : World} {M : Nat} (h : w.grownBy w1 (some M)) : w.grownBy w1.drew (some M) := ⟨h.os, h.tape, h.output, h.size, h.block⟩
end Go.Proofs.YtlbagigghpiifabGreat
namespace Go.Proofs.YtlbagigghpiifabGreat
open Go.RowKit Go.Maps Go.Sort

/-- The numbers below n that are asked for, rising. -/
def Dem.keys (f : Dem) (n : Nat) : List Nat := (List.range n).filter fun i => (f i).isSome
theorem keys_len (f : Dem) (n : Nat) : (f.keys n).length ≤ n := by
  have := List.length_filter_le (fun i => (f i).isSome) (List.range n)
  simpa [Dem.keys] using this
theorem mem_keys {f : Dem} {n i : Nat} : i ∈ f.keys n ↔ i < n ∧ (f i).isSome = true := by simp [Dem.keys]
theorem keys_rise (f : Dem) (n : Nat) : (f.keys n).Pairwise (· < ·) := List.Pairwise.filter _ List.pairwise_lt_range

/-- What has been met so far: each key that is there and no longer to come, once. -/
structure Coll (D : DataW Unit) (left : Lit → Bool) (xs : List Int) : Prop where
  nodup : xs.Nodup
  mem : ∀ x, x ∈ xs ↔ (has D (.int .i64 x) = true ∧ left (.int .i64 x) = false)
theorem Coll.start (D : DataW Unit) : Coll D (has D) [] := ⟨List.nodup_nil, fun x => by simp⟩
theorem Coll.step {D : DataW Unit} {left : Lit → Bool} {xs : List Int} {x : Int} (h : Coll D left xs) (hl : left (.int .i64 x) = true) (hh : has D (.int .i64 x) = true) :
    Coll D (fun z => left z && !z.sameKey (.int .i64 x)) (xs ++ [x]) := by
  have hx : x ∉ xs := fun hm => by have := ((h.mem x).1 hm).2; rw [hl] at this; cases this
  refine ⟨?_, fun y => ?_⟩
  · rw [List.nodup_append]
    exact ⟨h.nodup, by simp, fun a ha b hb e => by simp at hb; subst hb; subst e; exact hx ha⟩
  · rw [List.mem_append, List.mem_singleton, h.mem y]
    by_cases e : y = x
    · subst e; simp [hh, Lit.sameKey]
    · simp [e, Lit.sameKey]
theorem Coll.sorted {D : DataW Unit} {f : Dem} {n : Nat} {left : Lit → Bool} {xs : List Int} (h : Coll D left xs) (hd : Dm D f n) (hl : ∀ kl, left kl = false) : (xs.mergeSort fun x y => decide (x ≤ y)) = nats (f.keys n) := by
  have hperm : xs.Perm (nats (f.keys n)) := by
    refine (List.perm_ext_iff_of_nodup h.nodup ?_).2 fun x => ?_
    · refine List.Pairwise.map _ (fun a b (hab : a < b) => ?_) (keys_rise f n)
      simp; omega
    · rw [h.mem x]
      simp only [hl, and_true, nats, List.mem_map]
      constructor
      · intro hx
        obtain ⟨i, hi, hk⟩ := hd.keys _ hx
        unfold ky at hk
        injection hk with _ hk
        exact ⟨i, mem_keys.2 ⟨hi, by rw [← hd.has_ i]; unfold ky; rw [← hk]; exact hx⟩, hk.symm⟩
      · rintro ⟨i, hi, rfl⟩
        rw [← (mem_keys.1 hi).2, ← hd.has_ i]; rfl
  refine List.Perm.eq_of_pairwise (le := fun a b => decide (a ≤ b) = true) (fun a b _ _ h1 h2 => ?_) (List.pairwise_mergeSort (fun a b c h1 h2 => ?_) (fun a b => ?_) xs) ?_ ((List.mergeSort_perm _ _).trans hperm)
  · simp at h1 h2; omega
  · simp at h1 h2 ⊢; omega
  · simp; omega
  · refine List.Pairwise.map _ (fun a b (hab : a < b) => ?_) (keys_rise f n)
    simp; omega

end Go.Proofs.YtlbagigghpiifabGreat
namespace Go.Proofs.YtlbagigghpiifabGreat
open Go.RowKit Go.Maps Go.Sort

theorem sort_keys {w : World} {g cap base n : Nat} {cur : Array Value} {ks : List Int} {f : Dem} (_ : w.ownsRow base 3 1 (.slice (some ⟨g, 0, none⟩) ks.length cap) ks.length (ints ks)) (hb : w.heap[g]? = some (.cells cur 3 (0, 0))) (h1 : ks.length ≤ cap) (h2 : cap ≤ maxLen) (h3 : cur.size = cap * 1)
    (h4 : cur.toList.take (ks.length * 1) = ints ks) (hbase : base ≤ g) (hl : ks.length ≤ 1000000) (hs : (ks.mergeSort fun x y => decide (x ≤ y)) = nats (f.keys n)) :
    Calls Tryz.prog 113 #[.slice (some ⟨g, 0, none⟩) ks.length cap] w fun e w' => e = .returned (.tuple #[]) ∧ w'.ownsRow base 3 1 (.slice (some ⟨g, 0, none⟩) ks.length cap) (f.keys n).length (ints (nats (f.keys n))) ∧ w.grownBy w' (some g) := by
  have hH : Holds (Value.int .i64) w g 0 ks.toArray := holds_of_blockI hb (by rw [Nat.mul_one] at h4; exact h4)
  have hgl : g < w.heap.size := (Array.getElem?_eq_some_iff.1 hb).1
  refine (Tryz.slices_Sort_int g 0 cap ks w hH hgl (by omega)).mono ?_
  rintro e w' ⟨rfl, q, os, rfl⟩
  have hl2 : (ks.mergeSort fun x y => decide (x ≤ y)).length = ks.length := List.length_mergeSort ks
  have hro := ownsRow_sortedI (n := q) (os := os) (ts := ks.mergeSort fun x y => decide (x ≤ y)) hl2 hbase hb h1 h2 h3
  have hkl : ks.length = (f.keys n).length := by rw [← hl2, hs, nats_len]
  refine ⟨rfl, ?_, grownBy_sortedI _⟩
  have e1 : ints (nats (f.keys n)) = (ks.mergeSort fun x y => decide (x ≤ y)).map (Value.int .i64) := by rw [hs]; rfl
  rw [e1, ← hkl]
  exact hro
theorem invK : ∀ key kl, keyOf Tryz.prog 3 key = some kl → ∃ x, key = Value.int .i64 x := fun key kl h => by
  obtain ⟨x, rfl, _⟩ := Maps.keyOf_int_inv Tryz.underlying3 h
  exact ⟨x, rfl⟩
theorem invV : ∀ v y, RT v = some y → ∃ c : Int × Int, v = .agg #[.int .i64 c.1, .int .i64 c.2] := fun v y h => by
  obtain ⟨p, q, rfl, _⟩ := RT_inv h
  exact ⟨(p, q), rfl⟩

set_option maxRecDepth 1000000 in
set_option maxHeartbeats 4000000 in
theorem inOrder_any {w : World} {b n nn : Nat} {f : Dem} (h : MO w b n nn f) (hnn : nn ≤ 1000000) :
    Calls Tryz.prog 100 #[.map (some b)] w fun e w' => ∃ v, e = .returned v ∧ Below w.heap.size w w' ∧ w'.ownsRow w.heap.size 3 1 v (f.keys n).length (ints (nats (f.keys n))) := by
  obtain ⟨i0, hi, hz0, hz1, hz2⟩ := info_parts inf3
  obtain ⟨D, hown, hdm⟩ := h
  have HD := hide hdm
  have hbl := hown.lt
  have hsz := hown.size_le
  clear hdm
  go_enter Tryz.func100, Tryz.ntmps100
  go_wp2_with (first
    | (at_range; refine wpList_range_own _ rfl _ 108 rfl 3 121 (int_keyed Tryz.underlying3) Tryz.underlying108 RT b nn D rfl hown ?_; intro w0 hrg0 hg0 hs0)
    | go_in)
  go_frame
  go_loopw [3, 4] (fun v _ wr => ∃ (left : Lit → Bool) (cnt : Nat) (ks : List Int), wr.ranges Tryz.prog 3 RT b w.heap.size nn D left cnt ∧ wr.ownsRow (w.heap.size + 1) 3 1 v ks.length (ints ks) ∧ Hid (Coll D left ks) ∧ ks.length + cnt ≤ nn ∧ Below w.heap.size w wr ∧ w.heap.size + 1 ≤ wr.heap.size) (fun _ _ wr => wr.rangeLeft b w.heap.size)
  case atStart =>
    exact ⟨_, _, [], hrg0, World.ownsRow_nil _ _ _ _, Coll.start D, by simpa using hsz, ⟨hg0.os, hg0.tape, hg0.output, hg0.size, fun k hk => hg0.block k hk (by simp)⟩, by omega⟩
  case round =>
    obtain ⟨left, cnt, ks, hrg, hrow, HC, hlen, hB, hz⟩ := hrel
    go_wp2_with (first
      | (at_next; refine wpList_next_ranges _ rfl _ rfl 3 (int_keyed Tryz.underlying3) RT (Value.int .i64) (fun c : Int × Int => .agg #[.int .i64 c.1, .int .i64 c.2]) invK invV b w.heap.size nn _ _ _ rfl hrg ?_ ?_)
      | go_in)
    · intro hc0 hl0
      have hs := HC.out.sorted HD.out hl0
      rcases hrow.2 with ⟨hnil, hk0⟩ | ⟨g, cap, cur, hv, hbase, hb, h1, h2, h3, h4⟩
      · subst hnil
        obtain rfl : ks = [] := List.eq_nil_of_length_eq_zero hk0
        have hL : f.keys n = [] := by
          have := congrArg List.length hs
          simp [nats] at this
          exact List.length_eq_zero_iff.1 this.symm
        clear hrg hs
        go_wp2_with (go_at_call 113; refine (Tryz.slices_Sort_int_none none 0 _).mono ?_; rintro e w' ⟨rfl, rfl⟩)
        go_ret
        exact ⟨_, rfl, hB, by rw [hL]; exact World.ownsRow_nil _ _ _ _⟩
      · subst hv
        have hsort := hide (sort_keys hrow hb h1 h2 h3 h4 hbase (by omega) hs)
        clear hrg hs hrow h4
        go_wp2_with (go_at_call 113; refine hsort.out.mono ?_; rintro e w' ⟨rfl, ho, hg⟩)
        go_ret
        exact ⟨_, rfl, hB.trans (grownBy_below hg (by omega) (by omega)), owns_base ho (Nat.le_succ w.heap.size)⟩
    · intro x c1 c2 kl yd yp w1 cnt1 hkey hlk hv hat hrg1 hlt hg1 hs1 hen
      obtain ⟨x', ex, rfl, _⟩ := Maps.keyOf_int_inv Tryz.underlying3 hkey
      cases ex
      have hm0 : wr.rangeLeft b w.heap.size = cnt := hrg.left_eq
      have hC1 := hide (HC.out.step hlk (has_true_of_atKey hat))
      have hrow1 := own_keep' hrow (w' := w1) (fun g hg hl => hg1.block g hl (by simp; have := hrow.lt g hg; omega))
      have hB1 : Below w.heap.size w w1 := hB.trans (grownBy_below hg1 (Nat.le_refl _) (by omega))
      have hz1' : w.heap.size + 1 ≤ w1.heap.size := by omega
      clear hrow hrg HC hs1 hg1 hB hat hv
      go_wp2_with (first
        | (at_builtin; refine wpList_append_own _ rfl _ _ 26 rfl (w.heap.size + 1) 3 i0 (.int .i64 0) 1 8 Tryz.underlying26 hi hz0 hz1 hz2 rfl (by decide) _ _ _ rfl (hrow1.alloc _) ⟨w1.heap.size, 0, none⟩ 1 1 (ints [x]) rfl rfl (new_one _ _ rfl) (int_cells _) (by unfold maxLen; omega) (by omega) (by simp; omega) ?_))
      intro v2 w2 own2 hg2 _
      have hrg2 := (hrg1.alloc (.cells #[.int .i64 x] 3)).kept hg2 (fun he => by have := hrow1.lt b he.symm; omega) (fun he => by have := hrow1.lt _ he.symm; omega)
      have hO2 : w2.ownsRow (w.heap.size + 1) 3 1 v2 (ks ++ [x]).length (ints (ks ++ [x])) := by
        rw [ints_snoc, List.length_append]; exact own2
      have hB2 : Below w.heap.size w w2 := (hB1.alloc hB1.size _).trans ⟨hg2.os, hg2.tape, hg2.output, hg2.size, fun k hk => hg2.block k (by simp; omega) (fun he => by have := hrow1.lt k he.symm; omega)⟩
      have hz2' : w.heap.size + 1 ≤ w2.heap.size := Nat.le_trans hz1' (Nat.le_trans (by simp) hg2.size)
      have HRG := hide hrg2
      have HM0 := hide hm0
      clear own2 hrg1 hrow1 hg2 hrg2 hen hm0
      go_wp2_with fail
      go_roundw
      case rel => exact ⟨_, cnt1, ks ++ [x], HRG.out, hO2, hC1, by simp; omega, hB2, hz2'⟩
      case measure => rw [HRG.out.left_eq, HM0.out]; omega
end Go.Proofs.YtlbagigghpiifabGreat
namespace Go.Proofs.YtlbagigghpiifabGreat
open Go.RowKit Go.Maps Go.Sort

/-- Those without picks, of the first j keys, are gone. -/
def Dem.less (f : Dem) (l : List Nat) : Dem := fun i => if i ∈ l ∧ (f.get i).1 = 0 then none else f i
/-- All without picks are gone. -/
def Dem.asked (f : Dem) : Dem := fun i => if (f.get i).1 = 0 then none else f i
theorem less_nil (f : Dem) : f.less [] = f := by funext i; simp [Dem.less]
theorem less_all (f : Dem) (n : Nat) (h : ∀ i, (f i).isSome = true → i < n) : f.less (f.keys n) = f.asked := by
  funext i
  unfold Dem.less Dem.asked
  by_cases hz : (f.get i).1 = 0
  · cases hf : f i with
    | none => simp
    | some x => simp [hz, mem_keys, hf, h i (by rw [hf]; rfl)]
  · simp [hz]
theorem less_get {f : Dem} {l : List Nat} {q : Nat} (h : q ∉ l) : (f.less l).get q = f.get q := by unfold Dem.get Dem.less; simp [h]
theorem less_keep {f : Dem} {l : List Nat} {q : Nat} (hz : (f.get q).1 ≠ 0) : f.less (l ++ [q]) = f.less l := by
  funext i
  unfold Dem.less
  by_cases e : i = q
  · subst e; simp [hz]
  · simp [e]
theorem less_drop {f : Dem} {l : List Nat} {q : Nat} (hz : (f.get q).1 = 0) : f.less (l ++ [q]) = (f.less l).del q := by
  funext i
  unfold Dem.less Dem.del
  by_cases e : i = q
  · subst e; simp [hz]
  · simp [e]
theorem MO.inside {w : World} {b n nn : Nat} {f : Dem} (h : MO w b n nn f) : ∀ i, (f i).isSome = true → i < n := fun i hi => by
  obtain ⟨D, _, hd⟩ := h
  obtain ⟨j, hj, e⟩ := hd.keys (ky i) (by rw [hd.has_ i]; exact hi)
  by_cases h : i = j
  · omega
  · exact absurd e (ky_ne h)
theorem tally0 (x y : Value) (W : World) : (Instr.field 121 (.agg #[x, y]) 0).run Tryz.prog W = .ok x W := by
  have u := Tryz.underlying121
  have u3 := Tryz.isAgg3
  simp [Instr.field, go_sem, run_underlying u, u3, Result.andThen]
  rfl
theorem tally1 (x y : Value) (W : World) : (Instr.field 121 (.agg #[x, y]) 1).run Tryz.prog W = .ok y W := by
  have u := Tryz.underlying121
  have u3 := Tryz.isAgg3
  simp [Instr.field, go_sem, run_underlying u, u3, Result.andThen]
  rfl
theorem grown_transM {a b c : World} {g : Nat} (h : a.grownBy b (some g)) (k : b.grownBy c (some g)) : a.grownBy c (some g) :=
  ⟨k.os.trans h.os, k.tape.trans h.tape, k.output.trans h.output, Nat.le_trans h.size k.size, fun b hb hne => (k.block b (Nat.lt_of_lt_of_le hb h.size) hne).trans (h.block b hb hne)⟩
theorem own_rowM {w : World} {base n : Nat} {v : Value} {xs : List Value} (h : w.ownsRow base 3 1 v n xs) : ∃ a cap, v = .slice a n cap := by
  rcases h.2 with ⟨rfl, hn⟩ | ⟨g, cap, cur, rfl, _⟩
  · exact ⟨none, 0, by rw [hn]⟩
  · exact ⟨_, _, rfl⟩
theorem own_cellM {w : World} {base n j : Nat} {a : Option Addr} {cap : Nat} {l : List Nat} (h : w.ownsRow base 3 1 (.slice a n cap) n (ints (nats l))) (hl : l.length = n) (hj : j < n) : ∃ g, a = some ⟨g, 0, none⟩ ∧ base ≤ g ∧ g < w.heap.size ∧ w.cell? ⟨g, j, none⟩ = some (.int .i64 ((l.getD j 0 : Nat) : Int)) := by
  obtain ⟨g, cap', hv, hg0, hg1⟩ := h.form (by omega)
  cases hv
  refine ⟨g, rfl, hg0, hg1, ?_⟩
  rw [h.cellAt j (by omega), ints_get _ j (by rw [nats_len]; omega)]
  simp only [nats, List.getD_eq_getElem?_getD, List.getElem?_map]
  cases l[j]? <;> rfl
theorem take_key {f : Dem} {n j : Nat} (h : j < (f.keys n).length) : (f.keys n).take (j + 1) = (f.keys n).take j ++ [(f.keys n).getD j 0] := by
  rw [List.take_succ_eq_append_getElem h, Pf.getD_lt _ _ h]
theorem key_new {f : Dem} {n j : Nat} (h : j < (f.keys n).length) : (f.keys n).getD j 0 ∉ (f.keys n).take j := by
  intro hm
  obtain ⟨k, hk, e⟩ := List.getElem_of_mem hm
  simp at hk
  rw [List.getElem_take, Pf.getD_lt _ _ h] at e
  have := List.pairwise_iff_getElem.1 (keys_rise f n) k j (by omega) h (by omega)
  omega
theorem key_at {f : Dem} {n j : Nat} (h : j < (f.keys n).length) : (f.keys n).getD j 0 < n := by
  have : (f.keys n).getD j 0 ∈ f.keys n := by rw [Pf.getD_lt _ _ h]; exact List.getElem_mem h
  exact (mem_keys.1 this).1

set_option maxHeartbeats 4000000 in
set_option maxRecDepth 100000 in
theorem drop_any {w : World} {b n nn : Nat} {f : Dem} (h : MO w b n nn f) (hn : n ≤ 1000) (hnn : nn ≤ 1000000) :
    Calls Tryz.prog 99 #[.map (some b)] w fun e w' => e = .returned (.tuple #[]) ∧ MO w' b n nn f.asked ∧ w.grownBy w' (some b) := by
  have hbl := h.lt
  have t0 := tally0
  have HI := hide h.inside
  have HO := hide (inOrder_any h hnn)
  have HM0 := hide h
  have hkl := keys_len f n
  clear h
  go_enter Tryz.func99, Tryz.ntmps99
  go_wp2_with (go_at_call 100; refine HO.out.mono ?_; rintro e w1 ⟨v, rfl, hb1, own1⟩; obtain ⟨a, cap, rfl⟩ := own_rowM own1)
  have HOW := hide own1
  have hbm := hb1.block b hbl
  generalize hK : (f.keys n).length = K at *
  have HK := hide hK
  clear own1 HO hK
  go_loopw [3, 7] (fun _ s wr => ∃ j : Nat, s = .int .i64 j ∧ j ≤ K ∧ MO wr b n nn (f.less ((f.keys n).take j)) ∧ w1.grownBy wr (some b)) (fun _ s _ => K - (intOf s).toNat)
  case atStart => exact ⟨0, rfl, Nat.zero_le _, by rw [List.take_zero, less_nil]; exact HM0.out.keep hbm, World.grownBy.refl _ _⟩
  case round =>
    obtain ⟨j, rfl, hj, hmo, hgr⟩ := hrel
    by_cases hlt : j < K
    · obtain ⟨g, rfl, hg0, hg1, c1⟩ := own_cellM HOW.out HK.out hlt
      have c1' := (hgr.cell_far ⟨g, j, none⟩ hg1 (by simp; omega)).trans c1
      have hq := key_at (f := f) (n := n) (j := j) (by rw [HK.out]; exact hlt)
      have hnew := key_new (f := f) (n := n) (j := j) (by rw [HK.out]; exact hlt)
      have htk := take_key (f := f) (n := n) (j := j) (by rw [HK.out]; exact hlt)
      generalize (f.keys n).getD j 0 = q at *
      have j0 : (0 : Int) ≤ (j : Int) := by omega
      have j1 : (j : Int) < (K : Int) := by omega
      have hlk := hmo.look (i := q) (by omega)
      rw [less_get hnew] at hlk
      by_cases hz : (f.get q).1 = 0
      · rw [hz] at hlk
        have HF := hide (less_drop (l := (f.keys n).take j) hz)
        rw [← htk] at HF
        obtain ⟨D, hD, hdm⟩ := hmo
        have HDM := hide hdm
        have HGR := hide hgr
        generalize (f.get q).2 = y at hlk
        clear hdm hgr c1 hz hnew htk
        go_wp2_with (first
          | (at_delete; refine wpList_delete_own _ rfl _ _ 108 3 rfl 121 (int_keyed Tryz.underlying3) Tryz.underlying108 RT b nn D rfl hD _ _ rfl (ky_of (i := q) (by omega)) ?_; intro w2 hD2 hturn))
        have HD2 := hide hD2
        have HT := hide hturn.grown
        clear hD2 hturn hD hlk
        go_wp2_with fail
        go_roundw
        case rel => exact ⟨j + 1, by go_num, by omega, by rw [HF.out]; exact ⟨_, HD2.out, HDM.out.drop q⟩, grown_transM HGR.out HT.out⟩
        case measure => simp only [intOf]; omega
      · have HF := hide (less_keep (l := (f.keys n).take j) hz)
        rw [← htk] at HF
        have HMO := hide hmo
        have HGR := hide hgr
        have hxz : ((f.get q).1 == 0) = false := by simpa using hz
        generalize (f.get q).1 = x at *
        generalize (f.get q).2 = y at *
        clear hmo hgr c1 hz hnew htk
        go_wp2_with fail
        go_roundw
        case rel => exact ⟨j + 1, by go_num, by omega, by rw [HF.out]; exact HMO.out, HGR.out⟩
        case measure => simp only [intOf]; omega
    · have hje : j = K := by omega
      subst hje
      rw [← HK.out, List.take_length, less_all f n HI.out] at hmo
      have HMO := hide hmo
      have HGR := hide hgr
      clear hmo hgr
      go_wp2_with fail
      go_end0
      exact ⟨rfl, HMO.out, ⟨HGR.out.os.trans hb1.os, HGR.out.tape.trans hb1.tape, HGR.out.output.trans hb1.output, Nat.le_trans hb1.size HGR.out.size, fun k hk hne => (HGR.out.block k (Nat.lt_of_lt_of_le hk hb1.size) hne).trans (hb1.block k hk)⟩⟩
end Go.Proofs.YtlbagigghpiifabGreat
namespace Go.Proofs.YtlbagigghpiifabGreat
open Go.RowKit Go.Maps Go.Sort

/-- A list of n numbers: g of those in l, 0 of the others. -/
def rowOf (g : Nat → Int) (l : List Nat) (n : Nat) : List Int := (List.range n).map fun i => if i ∈ l then g i else 0
theorem rowOf_len (g : Nat → Int) (l : List Nat) (n : Nat) : (rowOf g l n).length = n := by simp [rowOf]
theorem rowOf_nil (g : Nat → Int) (n : Nat) : rowOf g [] n = List.replicate n 0 := by
  apply List.ext_getElem
  · simp [rowOf]
  · intro i h1 h2; simp [rowOf]
theorem rowOf_step (g : Nat → Int) (l : List Nat) (n q : Nat) : (rowOf g l n).set q (g q) = rowOf g (l ++ [q]) n := by
  apply List.ext_getElem
  · simp [rowOf]
  · intro i h1 h2
    rw [List.getElem_set]
    simp only [rowOf, List.getElem_map, List.getElem_range, List.mem_append, List.mem_singleton]
    by_cases e : q = i
    · subst e; simp
    · rw [if_neg e]
      by_cases hi : i ∈ l
      · simp [hi]
      · simp [hi, show ¬ i = q from fun h => e h.symm]
/-- How often, how much, good by good. -/
def Dem.picks (f : Dem) (n : Nat) : List Int := (List.range n).map fun i => (f.get i).1
def Dem.flow (f : Dem) (n : Nat) : List Int := (List.range n).map fun i => (f.get i).2
theorem picks_len (f : Dem) (n : Nat) : (f.picks n).length = n := by simp [Dem.picks]
theorem flow_len (f : Dem) (n : Nat) : (f.flow n).length = n := by simp [Dem.flow]
theorem rowOf_picks (f : Dem) (n : Nat) : rowOf (fun i => (f.get i).1) (f.keys n) n = f.picks n := by
  apply List.ext_getElem
  · simp [rowOf, Dem.picks]
  · intro i h1 h2
    have hi : i < n := by simpa [rowOf] using h1
    simp only [rowOf, Dem.picks, List.getElem_map, List.getElem_range, mem_keys]
    cases hf : f i with
    | none => simp [Dem.get, hf]
    | some x => simp [hi]
theorem rowOf_flow (f : Dem) (n : Nat) : rowOf (fun i => (f.get i).2) (f.keys n) n = f.flow n := by
  apply List.ext_getElem
  · simp [rowOf, Dem.flow]
  · intro i h1 h2
    have hi : i < n := by simpa [rowOf] using h1
    simp only [rowOf, Dem.flow, List.getElem_map, List.getElem_range, mem_keys]
    cases hf : f i with
    | none => simp [Dem.get, hf]
    | some x => simp [hi]

theorem own_made_at {w : World} {g n base : Nat} (h : w.heap[g]? = some (.cells (madeCells #[.int .i64 0] n) 3 (0, 0))) (hb : base ≤ g) (hn : n ≤ 1000000) : w.ownsRow base 3 1 (.slice (some ⟨g, 0, none⟩) n n) n (ints (List.replicate n 0)) := by
  refine ⟨by simp [ints], Or.inr ⟨g, n, _, rfl, hb, h, Nat.le_refl _, by unfold maxLen; omega, by simp [madeCells], ?_⟩⟩
  rw [toList_madeCells_one]
  simp [ints]
/-- A profile of no goods asked for, in blocks of its own. -/
structure Fresh (w wc : World) (X Y Z n : Nat) : Prop where
  c0 : wc.cell? ⟨Z, 0, none⟩ = some (.slice (some ⟨X, 0, none⟩) n n)
  c1 : wc.cell? ⟨Z, 1, none⟩ = some (.slice (some ⟨Y, 0, none⟩) n n)
  x : wc.heap[X]? = some (.cells (madeCells #[.int .i64 0] n) 3 (0, 0))
  y : wc.heap[Y]? = some (.cells (madeCells #[.int .i64 0] n) 3 (0, 0))
  below : Below w.heap.size w wc
  xy : X ≠ Y
  xz : X ≠ Z
  yz : Y ≠ Z
  lx : w.heap.size ≤ X
  ly : w.heap.size ≤ Y
  lz : w.heap.size ≤ Z

theorem prof_res {w w1 wc : World} {b : Nat} {t : TypeId} (hg : (w.alloc (.cells #[.slice none 0 0, .slice none 0 0] t)).grownBy w1 (some b)) (hb : b < w.heap.size) (hB : Below w1.heap.size w1 wc) (hs : w.heap.size < w1.heap.size) :
    wc.cell? ⟨w.heap.size, 0, none⟩ = some (.slice none 0 0) ∧ wc.cell? ⟨w.heap.size, 1, none⟩ = some (.slice none 0 0) ∧ wc.frozen? ⟨w.heap.size, 0, none⟩ = false ∧ wc.frozen? ⟨w.heap.size, 1, none⟩ = false := by
  have h1 := hg.block w.heap.size (by simp) (by simp; omega)
  have hc : ∀ i, wc.cell? ⟨w.heap.size, i, none⟩ = (w.alloc (.cells #[.slice none 0 0, .slice none 0 0] t)).cell? ⟨w.heap.size, i, none⟩ := fun i => (hB.cell (p := ⟨w.heap.size, i, none⟩) hs).trans (World.cell?_of_block (a := ⟨w.heap.size, i, none⟩) h1)
  have hf : ∀ i, wc.frozen? ⟨w.heap.size, i, none⟩ = (w.alloc (.cells #[.slice none 0 0, .slice none 0 0] t)).frozen? ⟨w.heap.size, i, none⟩ := fun i => (hB.frozen (p := ⟨w.heap.size, i, none⟩) hs).trans (World.frozen?_of_block (a := ⟨w.heap.size, i, none⟩) h1)
  exact ⟨(hc 0).trans (by simp [go_sem]), (hc 1).trans (by simp [go_sem]), (hf 0).trans (by simp [go_sem]), (hf 1).trans (by simp [go_sem])⟩
theorem prof_grown {w w1 wc : World} {b : Nat} {o : Obj} (hg : (w.alloc o).grownBy w1 (some b)) (hB : Below w1.heap.size w1 wc) : w.grownBy wc (some b) := by
  have bn := (Below.refl w.heap.size w).alloc (Nat.le_refl _) o
  have s1 : w.heap.size ≤ w1.heap.size := Nat.le_trans (by simp) hg.size
  exact ⟨hB.os.trans (hg.os.trans bn.os), hB.tape.trans (hg.tape.trans bn.tape), hB.output.trans (hg.output.trans bn.output), Nat.le_trans s1 hB.size, fun k hk hne => (hB.block k (by omega)).trans ((hg.block k (by simp; omega) hne).trans (bn.block k hk))⟩
theorem grown_more {w wc w2 : World} {b : Nat} (hg : w.grownBy wc (some b)) (hB : Below wc.heap.size wc w2) : w.grownBy w2 (some b) :=
  ⟨hB.os.trans hg.os, hB.tape.trans hg.tape, hB.output.trans hg.output, Nat.le_trans hg.size hB.size, fun k hk hne => (hB.block k (Nat.lt_of_lt_of_le hk hg.size)).trans (hg.block k hk hne)⟩
theorem off_set2 {w wr : World} {x y : Nat} (h : Off2 w wr x y) (i k : Nat) (v u : Value) : Off2 w ((wr.setCell ⟨x, i, none⟩ v).setCell ⟨y, k, none⟩ u) x y :=
  ⟨h.os, h.tape, h.output, by simpa using h.size, fun b hb h1 h2 => (Below.heap_setCell _ _ _ b h2).trans ((Below.heap_setCell _ _ _ b h1).trans (h.block b hb h1 h2))⟩
theorem prof_end {w w2 wr : World} {b X Y : Nat} (hg : w.grownBy w2 (some b)) (h : Off2 w2 wr X Y) (hx : w.heap.size ≤ X) (hy : w.heap.size ≤ Y) (v u : Value) : w.grownBy ((wr.setCell ⟨w.heap.size, 0, none⟩ v).setCell ⟨w.heap.size, 1, none⟩ u) (some b) := by
  have hs := hg.size
  exact ⟨h.os.trans hg.os, h.tape.trans hg.tape, h.output.trans hg.output, by simpa using Nat.le_trans hs h.size, fun k hk hne => (Below.heap_setCell _ _ _ k (by show k ≠ w.heap.size; omega)).trans ((Below.heap_setCell _ _ _ k (by show k ≠ w.heap.size; omega)).trans ((h.block k (by omega) (by omega) (by omega)).trans (hg.block k hk hne)))⟩
theorem own_two {wr : World} {base n c g B : Nat} {xs : List Value} (h : wr.ownsRow base 3 1 (.slice (some ⟨g, 0, none⟩) n c) n xs) (hne : g ≠ B) (v u : Value) : ((wr.setCell ⟨B, 0, none⟩ v).setCell ⟨B, 1, none⟩ u).ownsRow base 3 1 (.slice (some ⟨g, 0, none⟩) n c) n xs :=
  owns_keep (owns_keep h (Below.heap_setCell _ _ _ g hne)) (Below.heap_setCell _ _ _ g hne)
theorem off_refl (w : World) (x y : Nat) : Off2 w w x y := ⟨rfl, rfl, rfl, Nat.le_refl _, fun _ _ _ _ => rfl⟩
theorem bnew (w : World) (o : Obj) : Below w.heap.size w (w.alloc o) := (Below.refl _ _).alloc (Nat.le_refl _) o
theorem at0 (w : World) (a b c : Obj) : (((w.alloc a).alloc b).alloc c).drew.heap[w.heap.size]? = some a := by
  show (((w.alloc a).alloc b).alloc c).heap[w.heap.size]? = some a
  rw [(bnew ((w.alloc a).alloc b) c).block w.heap.size (by simp; omega), (bnew (w.alloc a) b).block w.heap.size (by simp), heap_alloc_new]
theorem at1 (w : World) (a b c : Obj) : (((w.alloc a).alloc b).alloc c).drew.heap[w.heap.size + 1]? = some b := by
  show (((w.alloc a).alloc b).alloc c).heap[w.heap.size + 1]? = some b
  rw [(bnew ((w.alloc a).alloc b) c).block (w.heap.size + 1) (by simp)]
  have := heap_alloc_new (w.alloc a) b
  rwa [World.size_alloc] at this
theorem at2 (w : World) (a b c : Obj) : (((w.alloc a).alloc b).alloc c).drew.heap[w.heap.size + 1 + 1]? = some c := by
  show (((w.alloc a).alloc b).alloc c).heap[w.heap.size + 1 + 1]? = some c
  have := heap_alloc_new ((w.alloc a).alloc b) c
  rwa [World.size_alloc, World.size_alloc] at this
theorem fresh012 (w : World) (n t : Nat) : Hid (Fresh w (((w.alloc (.cells (madeCells #[.int .i64 0] n) 3)).alloc (.cells (madeCells #[.int .i64 0] n) 3)).alloc (.cells #[.slice (some ⟨w.heap.size, 0, none⟩) n n, .slice (some ⟨(w.heap.size + 1), 0, none⟩) n n] t)).drew w.heap.size (w.heap.size + 1) (w.heap.size + 1 + 1) n) :=
  hide ⟨by simp [go_sem], by simp [go_sem], at0 _ _ _ _, at1 _ _ _ _, ((((Below.refl _ _).alloc (Nat.le_refl _) _).alloc (by simp) _).alloc (by simp; omega) _).drew, by omega, by omega, by omega, by omega, by omega, by omega⟩
theorem fresh021 (w : World) (n t : Nat) : Hid (Fresh w (((w.alloc (.cells (madeCells #[.int .i64 0] n) 3)).alloc (.cells #[.slice (some ⟨w.heap.size, 0, none⟩) n n, .slice (some ⟨(w.heap.size + 1 + 1), 0, none⟩) n n] t)).alloc (.cells (madeCells #[.int .i64 0] n) 3)).drew w.heap.size (w.heap.size + 1 + 1) (w.heap.size + 1) n) :=
  hide ⟨by simp [go_sem], by simp [go_sem], at0 _ _ _ _, at2 _ _ _ _, ((((Below.refl _ _).alloc (Nat.le_refl _) _).alloc (by simp) _).alloc (by simp; omega) _).drew, by omega, by omega, by omega, by omega, by omega, by omega⟩
theorem fresh102 (w : World) (n t : Nat) : Hid (Fresh w (((w.alloc (.cells (madeCells #[.int .i64 0] n) 3)).alloc (.cells (madeCells #[.int .i64 0] n) 3)).alloc (.cells #[.slice (some ⟨(w.heap.size + 1), 0, none⟩) n n, .slice (some ⟨w.heap.size, 0, none⟩) n n] t)).drew (w.heap.size + 1) w.heap.size (w.heap.size + 1 + 1) n) :=
  hide ⟨by simp [go_sem], by simp [go_sem], at1 _ _ _ _, at0 _ _ _ _, ((((Below.refl _ _).alloc (Nat.le_refl _) _).alloc (by simp) _).alloc (by simp; omega) _).drew, by omega, by omega, by omega, by omega, by omega, by omega⟩
theorem fresh120 (w : World) (n t : Nat) : Hid (Fresh w (((w.alloc (.cells #[.slice (some ⟨(w.heap.size + 1), 0, none⟩) n n, .slice (some ⟨(w.heap.size + 1 + 1), 0, none⟩) n n] t)).alloc (.cells (madeCells #[.int .i64 0] n) 3)).alloc (.cells (madeCells #[.int .i64 0] n) 3)).drew (w.heap.size + 1) (w.heap.size + 1 + 1) w.heap.size n) :=
  hide ⟨by simp [go_sem], by simp [go_sem], at1 _ _ _ _, at2 _ _ _ _, ((((Below.refl _ _).alloc (Nat.le_refl _) _).alloc (by simp) _).alloc (by simp; omega) _).drew, by omega, by omega, by omega, by omega, by omega, by omega⟩
theorem fresh201 (w : World) (n t : Nat) : Hid (Fresh w (((w.alloc (.cells (madeCells #[.int .i64 0] n) 3)).alloc (.cells #[.slice (some ⟨(w.heap.size + 1 + 1), 0, none⟩) n n, .slice (some ⟨w.heap.size, 0, none⟩) n n] t)).alloc (.cells (madeCells #[.int .i64 0] n) 3)).drew (w.heap.size + 1 + 1) w.heap.size (w.heap.size + 1) n) :=
  hide ⟨by simp [go_sem], by simp [go_sem], at2 _ _ _ _, at0 _ _ _ _, ((((Below.refl _ _).alloc (Nat.le_refl _) _).alloc (by simp) _).alloc (by simp; omega) _).drew, by omega, by omega, by omega, by omega, by omega, by omega⟩
theorem fresh210 (w : World) (n t : Nat) : Hid (Fresh w (((w.alloc (.cells #[.slice (some ⟨(w.heap.size + 1 + 1), 0, none⟩) n n, .slice (some ⟨(w.heap.size + 1), 0, none⟩) n n] t)).alloc (.cells (madeCells #[.int .i64 0] n) 3)).alloc (.cells (madeCells #[.int .i64 0] n) 3)).drew (w.heap.size + 1 + 1) (w.heap.size + 1) w.heap.size n) :=
  hide ⟨by simp [go_sem], by simp [go_sem], at2 _ _ _ _, at1 _ _ _ _, ((((Below.refl _ _).alloc (Nat.le_refl _) _).alloc (by simp) _).alloc (by simp; omega) _).drew, by omega, by omega, by omega, by omega, by omega, by omega⟩

set_option maxHeartbeats 4000000 in
set_option maxRecDepth 100000 in
theorem profile_any {w : World} {b n nn : Nat} {f : Dem} (h : MO w b n nn f) (hn : n ≤ 1000) (hnn : nn ≤ 1000000) :
    Calls Tryz.prog 76 #[.map (some b), .int .i64 (n : Int)] w fun e w' => ∃ x y, e = .returned (.agg #[.slice (some ⟨x, 0, none⟩) n n, .slice (some ⟨y, 0, none⟩) n n]) ∧ x ≠ y ∧ w.grownBy w' (some b) ∧
      w'.ownsRow w.heap.size 3 1 (.slice (some ⟨x, 0, none⟩) n n) n (ints (f.asked.picks n)) ∧ w'.ownsRow w.heap.size 3 1 (.slice (some ⟨y, 0, none⟩) n n) n (ints (f.asked.flow n)) := by
  have hmk := makeI_run n (by omega)
  have hbl := h.lt
  have t0 := tally0
  have t1 := tally1
  have HO := hide (drop_any (h.keep (w' := w.alloc (.cells #[.slice none 0 0, .slice none 0 0] 61)) (((Below.refl _ _).alloc (Nat.le_refl _) _).block b h.lt)) hn hnn)
  clear h
  go_enter Tryz.func76, Tryz.ntmps76
  go_upto_region 2 with (go_at_call 99; refine HO.out.mono ?_; rintro e w1 ⟨rfl, hm1, hg1⟩)
  go_cut [5] (fun s5 wc => ∃ X Y Z, s5 = .pointer (some ⟨Z, 0, none⟩) ∧ Hid (Fresh w1 wc X Y Z n))
  case first =>
    go_region
    all_goals
      go_wp2_with fail
      go_meet
      case rel =>
        first
        | exact ⟨_, _, _, rfl, fresh012 _ _ _⟩
        | exact ⟨_, _, _, rfl, fresh021 _ _ _⟩
        | exact ⟨_, _, _, rfl, fresh102 _ _ _⟩
        | exact ⟨_, _, _, rfl, fresh120 _ _ _⟩
        | exact ⟨_, _, _, rfl, fresh201 _ _ _⟩
        | exact ⟨_, _, _, rfl, fresh210 _ _ _⟩
  case rest =>
    obtain ⟨X, Y, Z, rfl, HF⟩ := hcut
    have hF := HF.out
    have sz1 : w.heap.size + 1 ≤ w1.heap.size := by simpa using hg1.size
    have hlX : X < wc.heap.size := (Array.getElem?_eq_some_iff.1 hF.x).1
    have hlY : Y < wc.heap.size := (Array.getElem?_eq_some_iff.1 hF.y).1
    have hlZ : Z < wc.heap.size := World.block_lt_of_cell? wc _ hF.c0
    have hmc := hm1.below hF.below
    have HO2 := hide (inOrder_any hmc hnn)
    have HMC := hide hmc
    obtain ⟨r0, r1, r2, r3⟩ := prof_res hg1 hbl hF.below (by omega)
    have HG0 := hide (prof_grown hg1 hF.below)
    have lx := hF.lx
    have lx' : w.heap.size ≤ X := by omega
    have ly' : w.heap.size ≤ Y := by have := hF.ly; omega
    have ly := hF.ly
    have lz := hF.lz
    have xy := hF.xy
    have xz := hF.xz
    have yz := hF.yz
    have q0 := hF.c0
    have q1 := hF.c1
    have hkl := keys_len f.asked n
    have HX := hide (own_made_at (base := w.heap.size) hF.x (by omega) (by omega))
    have HY := hide (own_made_at (base := w.heap.size) hF.y (by omega) (by omega))
    clear hm1 hg1 hmc hF HF HO hmk
    generalize hFF : f.asked = F at *
    have HFF := hide hFF
    clear hFF
    go_wp2_with (go_at_call 100; refine HO2.out.mono ?_; rintro e w2 ⟨v, rfl, hb2, own2⟩; obtain ⟨a, cap, rfl⟩ := own_rowM own2)
    have HOW := hide own2
    have HM2 := hide (HMC.out.below hb2)
    have HX2 := hide (owns_keep HX.out (hb2.block X hlX))
    have HY2 := hide (owns_keep HY.out (hb2.block Y hlY))
    have sz2 := hb2.size
    obtain ⟨hc2, hf2⟩ := bcell hb2
    have Q0 := (hc2 _ _ hlZ).trans q0
    have Q1 := (hc2 _ _ hlZ).trans q1
    have R0 := (hc2 _ _ (by omega)).trans r0
    have R1 := (hc2 _ _ (by omega)).trans r1
    have R2 := (hf2 _ _ (by omega)).trans r2
    have R3 := (hf2 _ _ (by omega)).trans r3
    have HG2 := hide (grown_more HG0.out hb2)
    generalize hK : (F.keys n).length = K at *
    have HK := hide hK
    clear own2 HO2 hK q0 q1 r0 r1 r2 r3 hc2 hf2 HX HY HMC HG0
    go_loopw [7, 18] (fun _ s wr => ∃ j : Nat, s = .int .i64 j ∧ j ≤ K ∧ wr.ownsRow w.heap.size 3 1 (.slice (some ⟨X, 0, none⟩) n n) n (ints (rowOf (fun i => (F.get i).1) ((F.keys n).take j) n)) ∧ wr.ownsRow w.heap.size 3 1 (.slice (some ⟨Y, 0, none⟩) n n) n (ints (rowOf (fun i => (F.get i).2) ((F.keys n).take j) n)) ∧ Off2 w2 wr X Y) (fun _ s _ => K - (intOf s).toNat)
    case atStart => exact ⟨0, rfl, Nat.zero_le _, by rw [List.take_zero, rowOf_nil]; exact HX2.out, by rw [List.take_zero, rowOf_nil]; exact HY2.out, off_refl _ _ _⟩
    case round =>
      obtain ⟨j, rfl, hj, hoX, hoY, hoff⟩ := hrel
      have cel : ∀ B i, B < w2.heap.size → B ≠ X → B ≠ Y → wr.cell? ⟨B, i, none⟩ = w2.cell? ⟨B, i, none⟩ := fun B i h1 h2 h3 => World.cell?_of_block (w := w2) (a := ⟨B, i, none⟩) (hoff.block B h1 h2 h3)
      have fro : ∀ B i, B < w2.heap.size → B ≠ X → B ≠ Y → wr.frozen? ⟨B, i, none⟩ = w2.frozen? ⟨B, i, none⟩ := fun B i h1 h2 h3 => World.frozen?_of_block (w := w2) (a := ⟨B, i, none⟩) (hoff.block B h1 h2 h3)
      by_cases hlt : j < K
      · obtain ⟨g, rfl, hg0, hg1, c1⟩ := own_cellM HOW.out HK.out hlt
        have hq := key_at (f := F) (n := n) (j := j) (by rw [HK.out]; exact hlt)
        have htk := take_key (f := F) (n := n) (j := j) (by rw [HK.out]; exact hlt)
        have c1' := (cel g j hg1 (by omega) (by omega)).trans c1
        generalize (F.keys n).getD j 0 = q at *
        have j0 : (0 : Int) ≤ (j : Int) := by omega
        have j1 : (j : Int) < (K : Int) := by omega
        have i0 : (0 : Int) ≤ (q : Int) := by omega
        have i1 : (q : Int) < (n : Int) := by omega
        have S0 := (cel Z 0 (by omega) (by omega) (by omega)).trans Q0
        have S1 := (cel Z 1 (by omega) (by omega) (by omega)).trans Q1
        have hmr := HM2.out.keep (hoff.block b (by omega) (by omega) (by omega))
        have hl1 := hmr.look (i := q) (by omega)
        have hl2 := (hmr.keep (w' := wr.setCell ⟨X, q, none⟩ (.int .i64 (F.get q).1)) (Below.heap_setCell wr _ _ b (by show b ≠ X; omega))).look (i := q) (by omega)
        have d0 : wr.cell? ⟨X, q, none⟩ = some (.int .i64 ((rowOf (fun i => (F.get i).1) ((F.keys n).take j) n).getD q 0)) := by rw [hoX.cellAt q (by omega), ints_get _ q (by rw [rowOf_len]; exact hq)]
        have d1 : wr.cell? ⟨Y, q, none⟩ = some (.int .i64 ((rowOf (fun i => (F.get i).2) ((F.keys n).take j) n).getD q 0)) := by rw [hoY.cellAt q (by omega), ints_get _ q (by rw [rowOf_len]; exact hq)]
        have g0 := hoX.frozenAt q
        have g1 := hoY.frozenAt q
        obtain ⟨st1, _⟩ := hoX.stored q (.int .i64 (F.get q).1)
        rw [ints_set, rowOf_step (fun i => (F.get i).1), ← htk] at st1
        have hoY' := owns_keep hoY (Below.heap_setCell wr ⟨X, q, none⟩ (.int .i64 (F.get q).1) Y (by show Y ≠ X; omega))
        obtain ⟨st2, _⟩ := hoY'.stored q (.int .i64 (F.get q).2)
        rw [ints_set, rowOf_step (fun i => (F.get i).2), ← htk] at st2
        have HST1 := hide (owns_keep st1 (Below.heap_setCell (wr.setCell ⟨X, q, none⟩ (.int .i64 (F.get q).1)) ⟨Y, q, none⟩ (.int .i64 (F.get q).2) X (by show X ≠ Y; omega)))
        have HST2 := hide st2
        have HOF := hide (off_set2 hoff q q (.int .i64 (F.get q).1) (.int .i64 (F.get q).2))
        have e1 : ¬ X = Z := by omega
        have e2 : ¬ X = Y := by omega
        have e3 : ¬ Y = Z := by omega
        generalize (rowOf (fun i => (F.get i).1) ((F.keys n).take j) n).getD q 0 = o1 at d0
        generalize (rowOf (fun i => (F.get i).2) ((F.keys n).take j) n).getD q 0 = o2 at d1
        clear st1 st2 hoX hoY hoY' hoff cel fro c1 hmr htk
        generalize (F.get q).1 = p at *
        generalize (F.get q).2 = y at *
        go_wp2_with fail
        go_roundw
        case rel => exact ⟨j + 1, by go_num, by omega, HST1.out, HST2.out, HOF.out⟩
        case measure => simp only [intOf]; omega
      · have hje : j = K := by omega
        subst hje
        rw [← HK.out, List.take_length, rowOf_picks] at hoX
        rw [← HK.out, List.take_length, rowOf_flow] at hoY
        have S0 := (cel Z 0 (by omega) (by omega) (by omega)).trans Q0
        have S1 := (cel Z 1 (by omega) (by omega) (by omega)).trans Q1
        have U0 := (cel w.heap.size 0 (by omega) (by omega) (by omega)).trans R0
        have U1 := (cel w.heap.size 1 (by omega) (by omega) (by omega)).trans R1
        have U2 := (fro w.heap.size 0 (by omega) (by omega) (by omega)).trans R2
        have U3 := (fro w.heap.size 1 (by omega) (by omega) (by omega)).trans R3
        have HOX := hide hoX
        have HOY := hide hoY
        have HOF := hide hoff
        clear hoX hoY hoff cel fro Q0 Q1 R0 R1 R2 R3
        go_wp2_with fail
        refine bodyPost_ret (v := .agg #[.slice (some ⟨X, 0, none⟩) n n, .slice (some ⟨Y, 0, none⟩) n n]) (by simp [results, Tryz.results76, go_sem, U0, U1]) rfl ⟨X, Y, rfl, xy, ?_, ?_, ?_⟩
        · exact prof_end HG2.out HOF.out lx' ly' _ _
        · rw [HFF.out]; exact own_two (B := w.heap.size) HOX.out (by omega) _ _
        · rw [HFF.out]; exact own_two (B := w.heap.size) HOY.out (by omega) _ _
end Go.Proofs.YtlbagigghpiifabGreat
namespace Go.Proofs.YtlbagigghpiifabGreat
open Go.RowKit Go.Maps Go.Sort

theorem RV.keep {w w1 w2 : World} (h : RV w w1) (hs : w1.heap.size ≤ w2.heap.size) (hB : Below w.heap.size w w2) (hb : w2.heap[w.heap.size]? = w1.heap[w.heap.size]?) : RV w w2 := by
  obtain ⟨c0, c1, f0, f1, _, hl⟩ := h
  have hc : ∀ o, w2.cell? ⟨w.heap.size, o, none⟩ = w1.cell? ⟨w.heap.size, o, none⟩ := fun o => World.cell?_of_block (w := w1) (a := ⟨w.heap.size, o, none⟩) hb
  have hf : ∀ o, w2.frozen? ⟨w.heap.size, o, none⟩ = w1.frozen? ⟨w.heap.size, o, none⟩ := fun o => World.frozen?_of_block (w := w1) (a := ⟨w.heap.size, o, none⟩) hb
  exact ⟨(hc 0).trans c0, (hc 1).trans c1, (hf 0).trans f0, (hf 1).trans f1, hB, Nat.lt_of_lt_of_le hl hs⟩
/-- What stays while a line is added. -/
theorem kL_call {w w1 w2 : World} {B b o M : Nat} {v0 v1 v2 : Value} (hB : B ≠ M) (hb : b ≠ M) (lB : B < w1.heap.size) (lb : b < w1.heap.size)
    (s : w1.cell? ⟨B, 0, none⟩ = some v0 ∧ w1.cell? ⟨B, 1, none⟩ = some v1 ∧ w1.cell? ⟨b, o, none⟩ = some v2 ∧ w.grownBy w1 (some M)) (h : w1.grownBy w2 (some M)) :
    w2.cell? ⟨B, 0, none⟩ = some v0 ∧ w2.cell? ⟨B, 1, none⟩ = some v1 ∧ w2.cell? ⟨b, o, none⟩ = some v2 ∧ w.grownBy w2 (some M) := by
  obtain ⟨s0, s1, s2, s4⟩ := s
  have hc : ∀ x o, x < w1.heap.size → x ≠ M → w2.cell? ⟨x, o, none⟩ = w1.cell? ⟨x, o, none⟩ := fun x o hx hne => h.cell_far ⟨x, o, none⟩ hx (by simp; omega)
  exact ⟨(hc _ _ lB hB).trans s0, (hc _ _ lB hB).trans s1, (hc _ _ lb hb).trans s2, grown_transM s4 h⟩
theorem add_line {w : World} {M n k : Nat} {f f' : Dem} {i : Nat} {z : Int} (h : Hid (MO w M n k f)) (hi : i < n) (hn : n ≤ 12) (hk : k ≤ 80) (hbd : Hid (0 ≤ (f.get i).1 ∧ (f.get i).1 ≤ k ∧ 0 ≤ (f.get i).2 ∧ (f.get i).2 ≤ 10000 * (k : Int))) (z0 : 0 ≤ z) (z1 : z ≤ 10000)
    (hf : Hid (f.set i ((f.get i).1 + 1, (f.get i).2 + z) = f')) :
    Calls Tryz.prog 75 #[.map (some M), .int .i64 (i : Int), .int .i64 1, .int .i64 z] w fun e w' => e = .returned (.tuple #[]) ∧ Hid (MO w' M n (k + 1) f') ∧ w.grownBy w' (some M) := by
  obtain ⟨b0, b1, b2, b3⟩ := hbd.out
  exact hf.out ▸ add_any (p := 1) (q := z) h.out hi (by omega) (by omega) b0 (by omega) b2 (by omega) (by decide) (by decide) z0 (by omega)

set_option maxRecDepth 20000 in
set_option maxHeartbeats 8000000 in
theorem po_good {a a' : Option Addr} {n c n' c' : Nat} {gs : List Gd} {ls : List (Int × Int)} {w : World} (hn : gs.length = n) (hc : n ≤ c) (hs : Short gs) (h : GRow w a gs) (hg : goodsB gs = true)
    (hn' : ls.length = n') (h' : LRow w a' ls) (hl : linesB n ls = true) :
    Calls Tryz.prog 52 #[.slice a n c, .slice a' n' c'] w fun e w' => Below w.heap.size w w' ∧ ∃ x y, e = .returned (.tuple #[.agg #[.slice (some ⟨x, 0, none⟩) n n, .slice (some ⟨y, 0, none⟩) n n], .bool true]) ∧ x ≠ y ∧ w'.ownsRow w.heap.size 3 1 (.slice (some ⟨x, 0, none⟩) n n) n (ints ((lineF gs ls n').asked.picks n)) ∧ w'.ownsRow w.heap.size 3 1 (.slice (some ⟨y, 0, none⟩) n n) n (ints ((lineF gs ls n').asked.flow n)) := by
  have h12 : n ≤ 12 := hn ▸ goodsB_len hg
  have h80 : n' ≤ 80 := hn' ▸ linesB_len hl
  have H := hide h
  have HG := hide hg
  have HN := hide hn
  have HS := hide hs
  have H' := hide h'
  have HN' := hide hn'
  have HL := hide hl
  have hmk := mkmapN
  clear h hg hn hs h' hn' hl
  go_enter Tryz.func52, Tryz.ntmps52
  go_wp2_with (first
    | (go_at_call 73; refine (gg_h HN hc HS H HG ((Below.refl _ _).alloc (Nat.le_refl _) _)).mono ?_; rintro e w1 ⟨rfl, hb1⟩; obtain ⟨p4, p5, f0, f1, hB1, z1⟩ := (RV.new w _).below hb1)
    | (go_at_call 74; refine (al_h HN' h12 H' HL hB1).mono ?_; rintro e w2 ⟨rfl, hb2⟩; have hRV := RV.below ⟨p4, p5, f0, f1, hB1, z1⟩ hb2))
  have HRV := hide (hRV.below ((Below.refl _ _).alloc (Nat.le_refl _) (.map #[] 0)))
  have hB3 := HRV.out.2.2.2.2.1
  have z3 : w.heap.size < w2.heap.size := hRV.2.2.2.2.2
  have HMO := hide (MO.made w2 n)
  have sz0 : (w2.alloc (.map #[] 0)).heap.size = w2.heap.size + 1 := by simp
  clear p4 p5 f0 f1 hb1 hB1 z1 hb2 hmk hRV
  generalize hM : w2.heap.size = M at *
  generalize w2.alloc (.map #[] 0) = W0 at *
  go_loopw [8, 23] (fun _ s wr => ∃ k : Nat, s = .int .i64 k ∧ k ≤ n' ∧ Hid (MO wr M n k (lineF gs ls k)) ∧ W0.grownBy wr (some M)) (fun _ s _ => n' - (intOf s).toNat)
  case atStart => exact ⟨0, rfl, Nat.zero_le _, HMO, World.grownBy.refl _ _⟩
  case round =>
    obtain ⟨k, rfl, hk, HMk, hgr⟩ := hrel
    have szr := hgr.size
    have hBr : Below w.heap.size w wr := hB3.trans ⟨hgr.os, hgr.tape, hgr.output, hgr.size, fun b hb => hgr.block b (by omega) (by simp; omega)⟩
    by_cases hlt : k < n'
    · obtain ⟨b, off, rfl, hb, r1, r2⟩ := H'.out.at (i := k) (by rw [HN'.out]; exact hlt)
      have bd := line_bd HG.out HN.out HL.out (k := k) (by rw [HN'.out]; exact hlt)
      have HST : Hid ((lineF gs ls k).set (ls.getD k (0, 0)).1.toNat (((lineF gs ls k).get (ls.getD k (0, 0)).1.toNat).1 + 1, ((lineF gs ls k).get (ls.getD k (0, 0)).1.toNat).2 + (gs.getD (ls.getD k (0, 0)).1.toNat gd0).2 * (ls.getD k (0, 0)).2) = lineF gs ls (k + 1)) := hide rfl
      have HBD := hide (lineF_bd HG.out HN.out HL.out k (by rw [HN'.out]; omega))
      generalize hgx : ls.getD k (0, 0) = x at *
      obtain ⟨x1, x2⟩ := x
      clear hgx
      dsimp only at r1 r2 bd HST
      obtain ⟨x10, x11, x20, x21, m0, m1⟩ := bd
      obtain ⟨i, rfl⟩ := Int.eq_ofNat_of_zero_le x10
      simp only [Int.toNat_natCast] at m0 m1 HST
      obtain ⟨b', off', rfl, hb', s1, s2⟩ := H.out.at (i := i) (by rw [HN.out]; omega)
      generalize (gs.getD i gd0).2 = z at *
      have wm : IntKind.i64.wrap (z * x2) = z * x2 := by rw [IntKind.wrap_i64]; omega
      have old : ∀ B o, B < w.heap.size → wr.cell? ⟨B, o, none⟩ = w.cell? ⟨B, o, none⟩ := fun B o h => hBr.cell (p := ⟨B, o, none⟩) h
      have y1 := (old b _ hb).trans r1
      have y2 := (old b _ hb).trans r2
      have y3 := (old b' _ hb').trans s2
      clear r1 r2 s1 s2 old
      have k0 : (0 : Int) ≤ (k : Int) := by omega
      have k1 : (k : Int) < (n' : Int) := by omega
      have hi : i < n := by omega
      have bl := (Below.refl wr.heap.size wr).alloc (Nat.le_refl _) (.cells #[.int .i64 (i : Int), .int .i64 x2] 85)
      have hMl := HMk.out.lt
      have HMl : Hid (MO (wr.alloc (.cells #[.int .i64 (i : Int), .int .i64 x2] 85)).drew M n k (lineF gs ls k)) := hide ((HMk.out.below bl).keep rfl)
      have e0 : (wr.alloc (.cells #[.int .i64 (i : Int), .int .i64 x2] 85)).drew.cell? ⟨wr.heap.size, 0, none⟩ = some (.int .i64 (i : Int)) := by show (wr.alloc _).cell? _ = _; simp [go_sem]
      have e1 : (wr.alloc (.cells #[.int .i64 (i : Int), .int .i64 x2] 85)).drew.cell? ⟨wr.heap.size, 1, none⟩ = some (.int .i64 x2) := by show (wr.alloc _).cell? _ = _; simp [go_sem]
      have e2 : (wr.alloc (.cells #[.int .i64 (i : Int), .int .i64 x2] 85)).drew.cell? ⟨b', off' + i * 2 + 1, none⟩ = some (.int .i64 z) := (bl.cell (p := ⟨b', off' + i * 2 + 1, none⟩) (by show b' < _; omega)).trans y3
      have hgl : W0.grownBy (wr.alloc (.cells #[.int .i64 (i : Int), .int .i64 x2] 85)).drew (some M) := ⟨bl.os.trans hgr.os, bl.tape.trans hgr.tape, bl.output.trans hgr.output, Nat.le_trans hgr.size bl.size, fun q hq hne => (bl.block q (by omega)).trans (hgr.block q hq hne)⟩
      have i0 : (0 : Int) ≤ (i : Int) := by omega
      have i1 : (i : Int) < (n : Int) := by omega
      have HBi := hide (HBD.out i)
      clear HMk HBD bl y3
      go_wp2_with fail
      go_region_held3 (fun w' => w'.cell? ⟨wr.heap.size, 0, none⟩ = some (.int .i64 (i : Int)) ∧ w'.cell? ⟨wr.heap.size, 1, none⟩ = some (.int .i64 x2) ∧ w'.cell? ⟨b', off' + i * 2 + 1, none⟩ = some (.int .i64 z) ∧ W0.grownBy w' (some M))
        (first | exact ⟨e0, e1, e2, hgl⟩ | assumption | exact kL_call (by omega) (by omega) (by show wr.heap.size < (wr.alloc _).heap.size; simp) (by show b' < (wr.alloc _).heap.size; simp; omega) ⟨e0, e1, e2, hgl⟩ hga | fail)
        (first
        | (go_at_call 75; refine (add_line HMl hi h12 (by omega) HBi m0 m1 HST).mono ?_; rintro e wa ⟨rfl, HMa, hga⟩)
        | fail)
      obtain ⟨_, _, _, hgA⟩ := ‹_ ∧ _ ∧ _ ∧ _›
      clear e0 e1 e2 hgl hga HMl
      go_wp2_with fail
      go_roundw
      case rel => exact ⟨k + 1, by go_num, by omega, HMa, hgA⟩
      case measure => simp only [intOf]; omega
    · have hke : k = n' := by omega
      subst hke
      have HPR := hide (profile_any HMk.out (by omega) (by omega))
      obtain ⟨c0, c1, f0, f1, _, _⟩ := HRV.out
      have HRr := hide (RV.keep HRV.out hgr.size hBr (hgr.block _ (by omega) (by simp; omega)))
      clear c0 c1 f0 f1
      go_wp2_with (go_at_call 76; refine HPR.out.mono ?_; rintro e w5 ⟨x, y, rfl, hxy, hg5, ox, oy⟩; have sz5 := hg5.size; have hB5 : Below w.heap.size w w5 := hBr.trans ⟨hg5.os, hg5.tape, hg5.output, hg5.size, fun b hb => hg5.block b (by omega) (by simp; omega)⟩; obtain ⟨c0, c1, f0, f1, _, _⟩ := RV.keep HRr.out hg5.size hB5 (hg5.block _ (by omega) (by simp; omega)))
      have bx := owns_low ox hBr.size
      have by' := owns_low oy hBr.size
      have lx := ox.lt x rfl
      have ly := oy.lt y rfl
      refine bodyPost_ret (v := .tuple #[.agg #[.slice (some ⟨x, 0, none⟩) n n, .slice (some ⟨y, 0, none⟩) n n], .bool true]) (by simp [results, Tryz.results52, go_sem, c0, c1]) rfl ⟨(hB5.setCell (Nat.le_refl _) _).setCell (Nat.le_refl _) _, x, y, rfl, hxy, ?_, ?_⟩
      · exact own_two (B := w.heap.size) bx (by omega) _ _
      · exact own_two (B := w.heap.size) by' (by omega) _ _
end Go.Proofs.YtlbagigghpiifabGreat
namespace Go.Proofs.YtlbagigghpiifabGreat
open Go.RowKit Go.Maps Go.Sort

theorem lineF_zero {g : Nat} {gs : List Gd} {ls : List (Int × Int)} (hg : goodsB gs = true) (hn : gs.length = g) (hl : linesB g ls = true) : ∀ k, k ≤ ls.length → ∀ i, ((lineF gs ls k).get i).1 = 0 → ((lineF gs ls k).get i).2 = 0 := by
  intro k
  induction k with
  | zero => intro _ i _; simp [lineF, Dem.get]
  | succ k ih =>
    intro hk i h0
    have hb := lineF_bd hg hn hl k (by omega) i
    by_cases e : i = (ls.getD k (0, 0)).1.toNat
    · have e1 : (lineF gs ls (k + 1)).get i = (((lineF gs ls k).get i).1 + 1, ((lineF gs ls k).get i).2 + (gs.getD i gd0).2 * (ls.getD k (0, 0)).2) := by
        rw [e]; simp only [lineF, Dem.get, Dem.set, if_true, Option.getD_some]
      rw [e1] at h0
      simp only at h0
      omega
    · have e1 : (lineF gs ls (k + 1)).get i = (lineF gs ls k).get i := by simp only [lineF, Dem.get, Dem.set, if_neg e]
      rw [e1] at h0 ⊢
      exact ih (by omega) i h0
theorem askedN (f : Dem) (i : Nat) : f.asked.get i = if (f.get i).1 = 0 then (0, 0) else f.get i := by
  by_cases h : ((f i).getD (0, 0)).1 = 0
  · simp [Dem.asked, Dem.get, h]
  · simp [Dem.asked, Dem.get, h]
theorem asked_same {f : Dem} (h : ∀ i, (f.get i).1 = 0 → (f.get i).2 = 0) (n : Nat) : f.asked.picks n = f.picks n ∧ f.asked.flow n = f.flow n := by
  have e : ∀ i, f.asked.get i = f.get i := fun i => by
    rw [askedN]
    split
    · rename_i h0
      exact Prod.ext h0.symm (h i h0).symm
    · rfl
  unfold Dem.picks Dem.flow
  exact ⟨List.map_congr_left fun i _ => by rw [e], List.map_congr_left fun i _ => by rw [e]⟩
theorem picks_at (f : Dem) {n i : Nat} (hi : i < n) : (f.picks n).getD i 0 = (f.get i).1 := by simp [Dem.picks, hi]
theorem flow_at (f : Dem) {n i : Nat} (hi : i < n) : (f.flow n).getD i 0 = (f.get i).2 := by simp [Dem.flow, hi]
theorem list_ext {xs ys : List Int} {n : Nat} (h1 : xs.length = n) (h2 : ys.length = n) (h : ∀ i, i < n → xs.getD i 0 = ys.getD i 0) : xs = ys := by
  refine List.ext_getElem (by omega) fun i hi hj => ?_
  have := h i (by omega)
  rwa [Pf.getD_lt _ _ hi, Pf.getD_lt _ _ hj] at this
theorem set_at (cs : List Int) (i j : Nat) (x : Int) (hi : i < cs.length) : (cs.set i x).getD j 0 = if j = i then x else cs.getD j 0 := by
  by_cases e : j = i
  · subst e; simp [hi]
  · rw [if_neg e]
    simp only [List.getD_eq_getElem?_getD]
    rw [List.getElem?_set_ne (by omega)]
theorem picks_set (f : Dem) {n i : Nat} (hi : i < n) (x : Int × Int) : (f.set i x).picks n = (f.picks n).set i x.1 :=
  list_ext (picks_len _ _) (by simp [picks_len]) fun j hj => by
    rw [picks_at _ hj, set_at _ _ _ _ (by rw [picks_len]; exact hi), picks_at _ hj]
    simp only [Dem.get, Dem.set]
    split <;> rfl
theorem flow_set (f : Dem) {n i : Nat} (hi : i < n) (x : Int × Int) : (f.set i x).flow n = (f.flow n).set i x.2 :=
  list_ext (flow_len _ _) (by simp [flow_len]) fun j hj => by
    rw [flow_at _ hj, set_at _ _ _ _ (by rw [flow_len]; exact hi), flow_at _ hj]
    simp only [Dem.get, Dem.set]
    split <;> rfl

/-- The profile that is being made: its variable, its two lists, the answer's variable. -/
def PI (w wr : World) (X Y Z n : Nat) (ps fl : List Int) : Prop :=
  RV w wr ∧ wr.cell? ⟨Z, 0, none⟩ = some (.slice (some ⟨X, 0, none⟩) n n) ∧ wr.cell? ⟨Z, 1, none⟩ = some (.slice (some ⟨Y, 0, none⟩) n n) ∧ wr.ownsRow w.heap.size 3 1 (.slice (some ⟨X, 0, none⟩) n n) n (ints ps) ∧ wr.ownsRow w.heap.size 3 1 (.slice (some ⟨Y, 0, none⟩) n n) n (ints fl) ∧ Z < wr.heap.size ∧
    (w.heap.size < X ∧ w.heap.size < Y ∧ w.heap.size < Z ∧ X ≠ Y ∧ X ≠ Z ∧ Y ≠ Z)
theorem PI.below {w wr w' : World} {X Y Z n : Nat} {ps fl : List Int} (h : PI w wr X Y Z n ps fl) (hb : Below wr.heap.size wr w') : PI w w' X Y Z n ps fl := by
  obtain ⟨h1, h2, h3, h4, h5, h6, h7⟩ := h
  exact ⟨h1.below hb, (hb.cell (p := ⟨Z, 0, none⟩) h6).trans h2, (hb.cell (p := ⟨Z, 1, none⟩) h6).trans h3, owns_keep h4 (hb.block X (h4.lt X rfl).2), owns_keep h5 (hb.block Y (h5.lt Y rfl).2), Nat.lt_of_lt_of_le h6 hb.size, h7⟩
theorem PI.setX {w wr : World} {X Y Z n i : Nat} {ps fl : List Int} (h : PI w wr X Y Z n ps fl) (x : Int) : PI w (wr.setCell ⟨X, i, none⟩ (.int .i64 x)) X Y Z n (ps.set i x) fl := by
  obtain ⟨h1, h2, h3, h4, h5, h6, k1, k2, k3, k4, k5, k6⟩ := h
  have hb : ∀ b, b ≠ X → (wr.setCell ⟨X, i, none⟩ (.int .i64 x)).heap[b]? = wr.heap[b]? := fun b hne => Below.heap_setCell _ _ _ b hne
  obtain ⟨st, _⟩ := h4.stored i (.int .i64 x)
  rw [ints_set] at st
  refine ⟨h1.keep (by simp) (h1.2.2.2.2.1.setCell (by show w.heap.size ≤ X; omega) _) (hb _ (by omega)), (World.cell?_of_block (w := wr) (a := ⟨Z, 0, none⟩) (hb Z (Ne.symm k5))).trans h2, (World.cell?_of_block (w := wr) (a := ⟨Z, 1, none⟩) (hb Z (Ne.symm k5))).trans h3, st, owns_keep h5 (hb Y (Ne.symm k4)), by simpa using h6, k1, k2, k3, k4, k5, k6⟩
theorem PI.setY {w wr : World} {X Y Z n i : Nat} {ps fl : List Int} (h : PI w wr X Y Z n ps fl) (x : Int) : PI w (wr.setCell ⟨Y, i, none⟩ (.int .i64 x)) X Y Z n ps (fl.set i x) := by
  obtain ⟨h1, h2, h3, h4, h5, h6, k1, k2, k3, k4, k5, k6⟩ := h
  have hb : ∀ b, b ≠ Y → (wr.setCell ⟨Y, i, none⟩ (.int .i64 x)).heap[b]? = wr.heap[b]? := fun b hne => Below.heap_setCell _ _ _ b hne
  obtain ⟨st, _⟩ := h5.stored i (.int .i64 x)
  rw [ints_set] at st
  refine ⟨h1.keep (by simp) (h1.2.2.2.2.1.setCell (by show w.heap.size ≤ Y; omega) _) (hb _ (by omega)), (World.cell?_of_block (w := wr) (a := ⟨Z, 0, none⟩) (hb Z (Ne.symm k6))).trans h2, (World.cell?_of_block (w := wr) (a := ⟨Z, 1, none⟩) (hb Z (Ne.symm k6))).trans h3, owns_keep h4 (hb X k4), st, by simpa using h6, k1, k2, k3, k4, k5, k6⟩
theorem PI.drew {w wr : World} {X Y Z n : Nat} {ps fl : List Int} (h : PI w wr X Y Z n ps fl) : PI w wr.drew X Y Z n ps fl := h.below (Below.refl _ _).drew
theorem fresh_own {wc : World} {base G n : Nat} (hG : base ≤ G) (hx : wc.heap[G]? = some (.cells (madeCells #[.int .i64 0] n) 3 (0, 0))) (hm : n ≤ maxLen) : wc.ownsRow base 3 1 (.slice (some ⟨G, 0, none⟩) n n) n (ints (List.replicate n 0)) :=
  ⟨by simp [ints], Or.inr ⟨G, n, madeCells #[.int .i64 0] n, rfl, hG, hx, Nat.le_refl _, hm, by simp [madeCells], by rw [toList_madeCells_one]; simp [ints]⟩⟩
theorem pi_new {w w1 wc : World} {X Y Z n : Nat} (r1 : RV w w1) (hF : Fresh w1 wc X Y Z n) (hn : n ≤ 1000) : PI w wc X Y Z n (List.replicate n 0) (List.replicate n 0) := by
  have r2 := r1.below hF.below
  have hs := r1.2.2.2.2.2
  have l1 := hF.lx
  have l2 := hF.ly
  have l3 := hF.lz
  exact ⟨r2, hF.c0, hF.c1, fresh_own (by omega) hF.x (by unfold maxLen; omega), fresh_own (by omega) hF.y (by unfold maxLen; omega), World.block_lt_of_cell? wc _ hF.c0, by omega, by omega, by omega, hF.xy, hF.xz, hF.yz⟩
theorem zero_lists (n : Nat) (gs : List Gd) (ls : List (Int × Int)) : (lineF gs ls 0).picks n = List.replicate n 0 ∧ (lineF gs ls 0).flow n = List.replicate n 0 := by
  refine ⟨list_ext (picks_len _ _) (by simp) fun i hi => ?_, list_ext (flow_len _ _) (by simp) fun i hi => ?_⟩
  · rw [picks_at _ hi]; simp [lineF, Dem.get, hi]
  · rw [flow_at _ hi]; simp [lineF, Dem.get, hi]
theorem lineF_take (gs : List Gd) (ls : List (Int × Int)) (k : Nat) : ∀ m, m ≤ k → lineF gs (ls.take k) m = lineF gs ls m
  | 0, _ => rfl
  | m + 1, h => by
    have e : (ls.take k).getD m (0, 0) = ls.getD m (0, 0) := by simp [show m < k by omega]
    rw [lineF, lineF, e, lineF_take gs ls k m (by omega)]
theorem pre_bd {n : Nat} {gs : List Gd} {ls : List (Int × Int)} {k : Nat} (hg : goodsB gs = true) (hn : gs.length = n) (hl : ls.length ≤ 80) (hk : k ≤ ls.length) (h : ∀ i, i < k → lineB n (ls.getD i (0, 0)) = true) (i : Nat) :
    0 ≤ ((lineF gs ls k).get i).1 ∧ ((lineF gs ls k).get i).1 ≤ 80 ∧ 0 ≤ ((lineF gs ls k).get i).2 ∧ ((lineF gs ls k).get i).2 ≤ 800000 := by
  have hlen : (ls.take k).length = k := by simp; omega
  have hb := lineF_bd (ls := ls.take k) hg hn (linesB_of (by omega) fun j hj => by
    have e : (ls.take k).getD j (0, 0) = ls.getD j (0, 0) := by simp [show j < k by omega]
    rw [e]; exact h j (by omega)) k (by omega) i
  rw [lineF_take gs ls k k (Nat.le_refl _)] at hb
  omega
theorem size_bd {gs : List Gd} (hg : goodsB gs = true) {i : Nat} (hi : i < gs.length) : 1 ≤ (gs.getD i gd0).2 ∧ (gs.getD i gd0).2 ≤ 100 := by
  have h2 := goodsB_at hg hi
  simp only [okG, Bool.and_eq_true] at h2
  exact Pf.inB_yes h2.2.1
theorem new_at0 (w : World) (x y : Value) (t : TypeId) {H : Nat} (h : w.heap.size = H) : (w.alloc (.cells #[x, y] t)).cell? ⟨H, 0, none⟩ = some x := by subst h; simp
theorem new_at1 (w : World) (x y : Value) (t : TypeId) {H : Nat} (h : w.heap.size = H) : (w.alloc (.cells #[x, y] t)).cell? ⟨H, 1, none⟩ = some y := by subst h; simp
theorem at_line {wr W : World} {b o k : Nat} {v : Option Value} (hb : W.heap[b]? = wr.heap[b]?) (h : wr.cell? ⟨b, o + k, none⟩ = v) : W.cell? ⟨b, o + k, none⟩ = v := (World.cell?_of_block (w := wr) (a := ⟨b, o + k, none⟩) hb).trans h

set_option maxRecDepth 100000 in
set_option maxHeartbeats 2000000 in
theorem spo_rest {a a' : Option Addr} {n c n' c' : Nat} {gs : List Gd} {ls : List (Int × Int)} {w : World} (hn : gs.length = n) (hn1 : n ≤ 1048576) (hc : n ≤ c) (hs : Short gs) (h : GRow w a gs) (hg : goodsB gs = true) (hl : ls.length = n') (hl80 : n' ≤ 80) (h' : LRow w a' ls) :
    Calls Tryz.prog 67 #[.slice a n c, .slice a' n' c'] w fun e w' => Below w.heap.size w w' ∧
      ((linesB n ls = false ∧ e = .returned (.tuple #[.agg #[.slice none 0 0, .slice none 0 0], .bool false])) ∨
       (linesB n ls = true ∧ ∃ x y, e = .returned (.tuple #[.agg #[.slice (some ⟨x, 0, none⟩) n n, .slice (some ⟨y, 0, none⟩) n n], .bool true]) ∧ x ≠ y ∧ w'.ownsRow w.heap.size 3 1 (.slice (some ⟨x, 0, none⟩) n n) n (ints ((lineF gs ls n').picks n)) ∧ w'.ownsRow w.heap.size 3 1 (.slice (some ⟨y, 0, none⟩) n n) n (ints ((lineF gs ls n').flow n)))) := by
  have h12 : n ≤ 12 := hn ▸ goodsB_len hg
  have hmk := makeI_run n (by omega)
  have h80 : ¬ (80 : Int) < (n' : Int) := by omega
  have H := hide h
  have HG := hide hg
  have HN := hide hn
  have HS := hide hs
  have HL := hide hl
  have H' := hide h'
  clear h hg hn hs hl h'
  go_enter Tryz.func67, Tryz.ntmps67
  go_upto_region 3 with ((go_at_call 92; refine (sgg_h HN hn1 hc HS H HG ((Below.refl _ _).alloc (Nat.le_refl _) _)).mono ?_; rintro e w1 ⟨rfl, hb1⟩; have R1 := hide ((RV.new w _).below hb1); clear hb1))
  go_cut [6] (fun s6 wc => ∃ X Y Z, s6 = .pointer (some ⟨Z, 0, none⟩) ∧ Hid (Fresh w1 wc X Y Z n))
  case first =>
    go_region
    all_goals
      go_wp2_with fail
      go_meet
      case rel =>
        first
        | exact ⟨_, _, _, rfl, fresh012 _ _ _⟩
        | exact ⟨_, _, _, rfl, fresh021 _ _ _⟩
        | exact ⟨_, _, _, rfl, fresh102 _ _ _⟩
        | exact ⟨_, _, _, rfl, fresh120 _ _ _⟩
        | exact ⟨_, _, _, rfl, fresh201 _ _ _⟩
        | exact ⟨_, _, _, rfl, fresh210 _ _ _⟩
  case rest =>
    obtain ⟨X, Y, Z, rfl, HF⟩ := hcut
    have P0 : Hid (PI w wc X Y Z n ((lineF gs ls 0).picks n) ((lineF gs ls 0).flow n)) := hide (by
      rw [(zero_lists n gs ls).1, (zero_lists n gs ls).2]; exact pi_new R1.out HF.out (by omega))
    clear HF R1 hmk
    go_wp2_with fail
    go_loopw [5, 8, 27] (fun s5 _ s wr => ∃ k : Nat, s5 = .bool false ∧ s = .int .i64 k ∧ k ≤ n' ∧ Hid (∀ i, i < k → lineB n (ls.getD i (0, 0)) = true) ∧ Hid (PI w wr X Y Z n ((lineF gs ls k).picks n) ((lineF gs ls k).flow n))) (fun _ _ s _ => n' - (intOf s).toNat)
    case atStart => exact ⟨0, rfl, rfl, Nat.zero_le _, hide fun i hi => absurd hi (Nat.not_lt_zero _), P0⟩
    case round =>
      obtain ⟨k, rfl, rfl, hk, HA, HP⟩ := hrel
      have hB := HP.out.1.2.2.2.2.1
      by_cases hlt : k < n'
      · obtain ⟨bl, ol, rfl, hbl, l0, l1⟩ := (H'.out.below hB).at (i := k) (by rw [HL.out]; exact hlt)
        have k0 : (0 : Int) ≤ (k : Int) := by omega
        have k1 : (k : Int) < (n' : Int) := by omega
        have HX := hide (rfl : ls.getD k (0, 0) = ls.getD k (0, 0))
        generalize hx : ls.getD k (0, 0) = x at *
        have HXX := hide hx
        obtain ⟨gi, q⟩ := x
        obtain ⟨rc0, rc1, rf0, rf1, _, rl⟩ := HP.out.1
        have bad : lineB n (gi, q) = false → linesB n ls = false := fun hb => linesB_not (i := k) (by rw [HL.out]; exact hlt) (by rw [HXX.out]; exact hb)
        have BAD := hide bad
        have BB := hide (((hB.setCell (p := ⟨w.heap.size, 0, none⟩) (Nat.le_refl _) (.slice none 0 0)).setCell (p := ⟨w.heap.size, 1, none⟩) (Nat.le_refl _) (.slice none 0 0)).alloc (by simp; omega) (.cells #[.int .i64 gi, .int .i64 q] 85))
        clear hx HX bad
        by_cases g0 : gi < 0
        · have HF := hide (BAD.out (by simp [lineB, Pf.inB, show ¬ 0 ≤ gi by omega]))
          go_wp2_with fail
          exact bodyPost_ret (v := .tuple #[.agg #[.slice none 0 0, .slice none 0 0], .bool false]) (by simp [results, Tryz.results67, go_sem, rc0, rc1, rl]) rfl ⟨BB.out, Or.inl ⟨HF.out, rfl⟩⟩
        · by_cases g1 : (n : Int) ≤ gi
          · have HF := hide (BAD.out (by simp [lineB, Pf.inB, show ¬ gi ≤ (n : Int) - 1 by omega]))
            go_wp2_with fail
            exact bodyPost_ret (v := .tuple #[.agg #[.slice none 0 0, .slice none 0 0], .bool false]) (by simp [results, Tryz.results67, go_sem, rc0, rc1, rl]) rfl ⟨BB.out, Or.inl ⟨HF.out, rfl⟩⟩
          · cases hq : Pf.inB q 1 99
            · have HF := hide (BAD.out (by simp [lineB, hq]))
              go_wp2_with (go_at_call 68; refine (in_eq hq).mono ?_; rintro e w2 ⟨rfl, rfl⟩)
              exact bodyPost_ret (v := .tuple #[.agg #[.slice none 0 0, .slice none 0 0], .bool false]) (by simp [results, Tryz.results67, go_sem, rc0, rc1, rl]) rfl ⟨BB.out, Or.inl ⟨HF.out, rfl⟩⟩
            · obtain ⟨i, rfl⟩ := Int.eq_ofNat_of_zero_le (show 0 ≤ gi by omega)
              have hin : i < n := by omega
              have HGood : Hid (lineB n ((i : Int), q) = true) := hide (by simp only [lineB, Bool.and_eq_true]; exact ⟨Pf.inB_of (by omega) (by omega), hq⟩)
              have HA' : Hid (∀ j, j < k + 1 → lineB n (ls.getD j (0, 0)) = true) := hide fun j hj => by
                by_cases e : j = k
                · subst e; rw [HXX.out]; exact HGood.out
                · exact HA.out j (by omega)
              have hbd := pre_bd HG.out HN.out (by rw [HL.out]; exact hl80) (by rw [HL.out]; exact hk) HA.out i
              obtain ⟨q0, q1⟩ := Pf.inB_yes hq
              have HSTEP : Hid (lineF gs ls (k + 1) = (lineF gs ls k).set i (((lineF gs ls k).get i).1 + 1, ((lineF gs ls k).get i).2 + (gs.getD i gd0).2 * q)) := hide (by rw [lineF, HXX.out]; rfl)
              have hz := size_bd HG.out (i := i) (by rw [HN.out]; exact hin)
              have hpr : 0 ≤ (gs.getD i gd0).2 * q ∧ (gs.getD i gd0).2 * q ≤ 10000 := ⟨Int.mul_nonneg (by omega) (by omega), Int.le_trans (Int.mul_le_mul hz.2 q1 (by omega) (by omega)) (by decide)⟩
              have P9 := (HP.out.setX (i := i) (((lineF gs ls k).get i).1 + 1)).below (bnew _ (.cells #[.int .i64 (i : Int), .int .i64 q] 85))
              obtain ⟨_, z0, _, ox, _, zl, ks1, ks2, ks3, ks4, ks5, ks6⟩ := HP.out
              have xl := (ox.lt X rfl).2
              have cX : wr.cell? ⟨X, i, none⟩ = some (.int .i64 ((lineF gs ls k).get i).1) := by rw [ox.cellAt i (by omega), ints_get _ i (by rw [picks_len]; exact hin), picks_at _ hin]
              have fX := ox.frozenAt i
              obtain ⟨bg, og, rfl, hbg, _, s1⟩ := (H.out.below P9.1.2.2.2.2.1).at (i := i) (by rw [HN.out]; exact hin)
              have cY : ((wr.setCell ⟨X, i, none⟩ (.int .i64 (((lineF gs ls k).get i).1 + 1))).alloc (.cells #[.int .i64 (i : Int), .int .i64 q] 85)).cell? ⟨Y, i, none⟩ = some (.int .i64 ((lineF gs ls k).get i).2) := by rw [P9.2.2.2.2.1.cellAt i (by omega), ints_get _ i (by rw [flow_len]; exact hin), flow_at _ hin]
              have fY := P9.2.2.2.2.1.frozenAt i
              have v0 : ((wr.setCell ⟨X, i, none⟩ (.int .i64 (((lineF gs ls k).get i).1 + 1))).alloc (.cells #[.int .i64 (i : Int), .int .i64 q] 85)).cell? ⟨wr.heap.size, 0, none⟩ = some (.int .i64 (i : Int)) := new_at0 _ _ _ _ (by simp)
              have v1 : ((wr.setCell ⟨X, i, none⟩ (.int .i64 (((lineF gs ls k).get i).1 + 1))).alloc (.cells #[.int .i64 (i : Int), .int .i64 q] 85)).cell? ⟨wr.heap.size, 1, none⟩ = some (.int .i64 q) := new_at1 _ _ _ _ (by simp)
              have z1 := P9.2.2.1
              have HP9 := hide P9
              have hHQ := hide hq
              have i0 : (0 : Int) ≤ (i : Int) := by omega
              have i1 : (i : Int) < (n : Int) := by omega
              generalize ((lineF gs ls k).get i).1 = pi at *
              generalize ((lineF gs ls k).get i).2 = fi at *
              generalize (gs.getD i gd0).2 = sz at *
              obtain ⟨b0, b1, b2, b3⟩ := hbd
              obtain ⟨sz0, sz1⟩ := hz
              obtain ⟨pr0, pr1⟩ := hpr
              clear P9 ox g0 g1 hq BAD
              go_upto_region 10 with (go_at_call 68; refine (in_eq hHQ.out).mono ?_; rintro e w2 ⟨rfl, rfl⟩)
              generalize (wr.setCell ⟨X, i, none⟩ (.int .i64 (pi + 1))).alloc (.cells #[.int .i64 (i : Int), .int .i64 q] 85) = W9 at *
              clear cX fX z0
              go_region
              go_wp2_with fail
              go_roundw
              case rel =>
                refine ⟨k + 1, rfl, by go_num, by omega, HA', hide ?_⟩
                rw [HSTEP.out, picks_set _ hin, flow_set _ hin]
                first | exact (HP9.out.setY _).drew | exact HP9.out.drew.setY _
              case measure => simp only [intOf]; omega
      · have hke : k = n' := by omega
        subst hke
        have HLB : Hid (linesB n ls = true) := hide (linesB_of (by rw [HL.out]; exact hl80) fun i hi => HA.out i (by rw [← HL.out]; exact hi))
        obtain ⟨⟨rc0, rc1, rf0, rf1, hBw, rl⟩, z0, z1, ox, oy, zl, ks1, ks2, ks3, ks4, ks5, ks6⟩ := HP.out
        have HX := hide (own_two ox (B := w.heap.size) (by omega) (.slice (some ⟨X, 0, none⟩) n n) (.slice (some ⟨Y, 0, none⟩) n n))
        have HY := hide (own_two oy (B := w.heap.size) (by omega) (.slice (some ⟨X, 0, none⟩) n n) (.slice (some ⟨Y, 0, none⟩) n n))
        have HBE := hide ((hBw.setCell (p := ⟨w.heap.size, 0, none⟩) (Nat.le_refl _) (.slice (some ⟨X, 0, none⟩) n n)).setCell (p := ⟨w.heap.size, 1, none⟩) (Nat.le_refl _) (.slice (some ⟨Y, 0, none⟩) n n))
        clear ox oy HP hBw
        go_wp2_with fail
        exact bodyPost_ret (v := .tuple #[.agg #[.slice (some ⟨X, 0, none⟩) n n, .slice (some ⟨Y, 0, none⟩) n n], .bool true]) (by simp [results, Tryz.results67, go_sem, rc0, rc1]) rfl ⟨HBE.out, Or.inr ⟨HLB.out, X, Y, rfl, ks4, HX.out, HY.out⟩⟩
theorem spo_good {a a' : Option Addr} {n c n' c' : Nat} {gs : List Gd} {ls : List (Int × Int)} {w : World} (hn : gs.length = n) (hn1 : n ≤ 1048576) (hc : n ≤ c) (hs : Short gs) (h : GRow w a gs) (hg : goodsB gs = true) (hl : ls.length = n') (h' : LRow w a' ls) (hlb : linesB n ls = true) :
    Calls Tryz.prog 67 #[.slice a n c, .slice a' n' c'] w fun e w' => Below w.heap.size w w' ∧ ∃ x y, e = .returned (.tuple #[.agg #[.slice (some ⟨x, 0, none⟩) n n, .slice (some ⟨y, 0, none⟩) n n], .bool true]) ∧ x ≠ y ∧ w'.ownsRow w.heap.size 3 1 (.slice (some ⟨x, 0, none⟩) n n) n (ints ((lineF gs ls n').asked.picks n)) ∧ w'.ownsRow w.heap.size 3 1 (.slice (some ⟨y, 0, none⟩) n n) n (ints ((lineF gs ls n').asked.flow n)) := by
  have e := asked_same (lineF_zero hg hn hlb n' (by omega)) n
  rw [e.1, e.2]
  refine (spo_rest hn hn1 hc hs h hg hl (hl ▸ linesB_len hlb) h').mono fun e w' ⟨hb, hr⟩ => ?_
  rcases hr with ⟨h1, _⟩ | ⟨_, hr⟩
  · rw [hlb] at h1; cases h1
  · exact ⟨hb, hr⟩
theorem spo_bad2 {a a' : Option Addr} {n c n' c' : Nat} {gs : List Gd} {ls : List (Int × Int)} {w : World} (hn : gs.length = n) (hn1 : n ≤ 1048576) (hc : n ≤ c) (hs : Short gs) (h : GRow w a gs) (hg : goodsB gs = true) (hl : ls.length = n') (h' : LRow w a' ls) (hlb : linesB n ls = false) :
    Calls Tryz.prog 67 #[.slice a n c, .slice a' n' c'] w fun e w' => e = .returned (.tuple #[.agg #[.slice none 0 0, .slice none 0 0], .bool false]) ∧ Below w.heap.size w w' := by
  by_cases h80 : n' ≤ 80
  · refine (spo_rest hn hn1 hc hs h hg hl h80 h').mono fun e w' ⟨hb, hr⟩ => ?_
    rcases hr with ⟨_, h1⟩ | ⟨h1, _⟩
    · exact ⟨h1, hb⟩
    · rw [hlb] at h1; cases h1
  · exact spo_many hn hn1 hc hs h hg (by omega)
end Go.Proofs.YtlbagigghpiifabGreat
namespace Go.Proofs.YtlbagigghpiifabGreat
open Go.RowKit

theorem poans_none {f n n' : Nat} {gs : List Gd} {ls : List (Int × Int)} (h : ∀ (W : World) (b b' : Nat), Short gs → GRow W (some ⟨b, 0, none⟩) gs → LRow W (some ⟨b', 0, none⟩) ls →
    Calls Tryz.prog f #[.slice (some ⟨b, 0, none⟩) n n, .slice (some ⟨b', 0, none⟩) n' n'] W fun e w' => e = .returned (.tuple #[.agg #[.slice none 0 0, .slice none 0 0], .bool false]) ∧ Below W.heap.size W w') : PoAns f n n' 0 false gs ls [] [] := fun W b b' h1 h2 h3 =>
  (h W b b' h1 h2 h3).mono fun _ _ ⟨he, hb⟩ => ⟨_, _, he, hb, ⟨rfl, Or.inl ⟨rfl, rfl⟩⟩, ⟨rfl, Or.inl ⟨rfl, rfl⟩⟩, fun g hg => by cases hg⟩
theorem poans_some {f n n' : Nat} {gs : List Gd} {ls : List (Int × Int)} {R1 R2 : List Int} (h : ∀ (W : World) (b b' : Nat), Short gs → GRow W (some ⟨b, 0, none⟩) gs → LRow W (some ⟨b', 0, none⟩) ls →
    Calls Tryz.prog f #[.slice (some ⟨b, 0, none⟩) n n, .slice (some ⟨b', 0, none⟩) n' n'] W fun e w' => Below W.heap.size W w' ∧ ∃ x y, e = .returned (.tuple #[.agg #[.slice (some ⟨x, 0, none⟩) n n, .slice (some ⟨y, 0, none⟩) n n], .bool true]) ∧ x ≠ y ∧ w'.ownsRow W.heap.size 3 1 (.slice (some ⟨x, 0, none⟩) n n) n (ints R1) ∧ w'.ownsRow W.heap.size 3 1 (.slice (some ⟨y, 0, none⟩) n n) n (ints R2)) : PoAns f n n' n true gs ls R1 R2 := fun W b b' h1 h2 h3 =>
  (h W b b' h1 h2 h3).mono fun _ _ ⟨hb, x, y, he, hne, o1, o2⟩ => ⟨_, _, he, hb, o1, o2, fun g hg hg' => by
    simp [Value.ownBlock] at hg hg'
    omega⟩
end Go.Proofs.YtlbagigghpiifabGreat
namespace Go.Proofs.YtlbagigghpiifabGreat
open Go.RowKit

end Go.Proofs.YtlbagigghpiifabGreat
namespace Go.Proofs.YtlbagigghpiifabGreat
open Go.RowKit

def fgB (gs : List Gd) (ls : List (Int × Int)) (x : ByteArray) : Bool := sheetB gs ls && decide (0 ≤ fndI gs x)
def fgI (gs : List Gd) (ls : List (Int × Int)) (x : ByteArray) : Int := if fgB gs ls x then fndI gs x else 0
theorem sgsh_hid {a a' : Option Addr} {n c n' c' : Nat} {gs : List Gd} {ls : List (Int × Int)} {w : World} {r : Bool} (hr : Hid (sheetB gs ls = r)) (hn : Hid (gs.length = n)) (hn1 : n ≤ 1048576) (hc : n ≤ c) (hs : Hid (Short gs)) (h : Hid (GRow w a gs))
    (hl : Hid (ls.length = n')) (hl1 : n' ≤ 1048576) (hc' : n' ≤ c') (h' : Hid (LRow w a' ls)) :
    Calls Tryz.prog 66 #[.agg #[.slice a n c, .slice a' n' c']] w fun e w' => e = .returned (.bool r) ∧ Below w.heap.size w w' := hr.out ▸ sgsh_any hn.out hn1 hc hs.out h.out hl.out hl1 hc' h'.out
end Go.Proofs.YtlbagigghpiifabGreat
