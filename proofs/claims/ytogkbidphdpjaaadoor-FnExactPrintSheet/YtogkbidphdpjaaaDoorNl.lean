/-
  Lines of the laws: what szLineS, toLineS, eqLineS answer over rows of lines in memory.
-/
import Derived.Test.YtogkbidphdpjaaaDoorGu
import Derived.Test.YtogkbidphdpjaaaDoorNa
import Derived.Test.YtogkbidphdpjaaaDoorPg
import Derived.OwnWalk
namespace Go.Proofs.YtogkbidphdpjaaaDoor
open Go.RowKit

def LAt (w : World) (b off : Nat) (xs : List (Int × Int)) : Prop :=
  ∀ i, i < xs.length → w.cell? ⟨b, off + i * 2, none⟩ = some (.int .i64 (xs.getD i (0, 0)).1) ∧ w.cell? ⟨b, off + i * 2 + 1, none⟩ = some (.int .i64 (xs.getD i (0, 0)).2)
theorem LAt.below {w w' : World} {B b off : Nat} {xs : List (Int × Int)} (h : LAt w b off xs) (hb : Below B w w') (hlt : b < B) : LAt w' b off xs :=
  fun i hi => ⟨(hb.cell (p := ⟨b, off + i * 2, none⟩) hlt).trans (h i hi).1, (hb.cell (p := ⟨b, off + i * 2 + 1, none⟩) hlt).trans (h i hi).2⟩
theorem LAt.row {w : World} {b off : Nat} {xs : List (Int × Int)} (h : LAt w b off xs) (hb : b < w.heap.size) : LRow w (some ⟨b, off, none⟩) xs := Or.inr ⟨b, off, rfl, hb, h⟩
theorem setL1 {W : World} {b i : Nat} {x : Value} (h : (W.cell? ⟨b, i, none⟩).isSome = true) : (W.setCell ⟨b, i, none⟩ x).cell? ⟨b, i, none⟩ = some x := by
  obtain ⟨v, hv⟩ := Option.isSome_iff_exists.1 h
  exact World.cell?_setCell_same _ _ _ hv
set_option maxHeartbeats 400000 in
theorem toLine_any (n d : Int) (w : World) :
    Calls Tryd.prog 37 #[.agg #[.int .i64 n, .int .i64 d]] w fun e w' => e = .returned (.agg #[.int .i64 n, .int .i64 d]) ∧ Below w.heap.size w w' := by
  go_enter Tryd.func37, Tryd.ntmps37
  go_wp2
  exact bodyPost_ret (v := .agg #[.int .i64 n, .int .i64 d]) (by simp [results, Tryd.results37, go_sem]) rfl ⟨rfl, (((Below.refl _ _).alloc (Nat.le_refl _) _).alloc (by simp) _).alloc (by simp; omega) _⟩
set_option maxHeartbeats 400000 in
theorem eqLine_same (n d : Int) (w : World) :
    Calls Tryd.prog 42 #[.agg #[.int .i64 n, .int .i64 d], .agg #[.int .i64 n, .int .i64 d]] w fun e w' => e = .returned (.bool true) ∧ Below w.heap.size w w' := by
  go_enter Tryd.func42, Tryd.ntmps42
  go_wp2
  go_ret
  exact ⟨rfl, ((Below.refl _ _).alloc (Nat.le_refl _) _).alloc (by simp) _⟩
set_option maxHeartbeats 400000 in
theorem szL_yes (a : Option Addr) (len cap : Nat) (left : Int) (w : World) (h0 : 0 ≤ left) (h1 : left ≤ 1048576) (h : (len : Int) ≤ left) :
    Calls Tryd.prog 15 #[.slice a len cap, .int .i64 left] w fun e w' => e = .returned (.int .i64 (left - len)) ∧ w' = w := by
  have h2 : ¬ left - (len : Int) < 0 := by omega
  go_enter Tryd.func15, Tryd.ntmps15
  go_wp2
  go_ret
  exact ⟨rfl, rfl⟩

set_option maxHeartbeats 400000 in
theorem szL_no (a : Option Addr) (len cap : Nat) (left : Int) (w : World) (h0 : 0 ≤ left) (h1 : left ≤ 1048576) (hm : len ≤ maxLen) (h : left < (len : Int)) :
    Calls Tryd.prog 15 #[.slice a len cap, .int .i64 left] w fun e w' => e = .returned (.int .i64 (-1)) ∧ w' = w := by
  unfold maxLen at hm
  have h2 : left - (len : Int) < 0 := by omega
  have h3 : wrap64 (left - (len : Int)) = left - (len : Int) := wrap_id' _ (by omega) (by omega)
  go_enter Tryd.func15, Tryd.ntmps15
  go_wp2
  go_ret
  exact ⟨rfl, rfl⟩

theorem makeL_run (n : Nat) (hn : n ≤ 1048576) (w : World) : (Instr.makeSlice 30 (.int .i64 (n : Int)) (.int .i64 (n : Int))).run Tryd.prog w = .ok (.slice (some ⟨w.heap.size, 0, none⟩) n n) (w.alloc (.cells (madeCells #[.int .i64 0, .int .i64 0] (n * 2)) 50)) := by
  have h : (Tryd.prog.info? 50).map (fun i => (i.zero, i.size, i.bytes)) = some (some (.agg #[.int .i64 0, .int .i64 0]), 2, 16) := by kernel_rfl
  obtain ⟨i, hi, hzz⟩ := Option.map_eq_some_iff.1 h
  simp only [Prod.mk.injEq] at hzz
  obtain ⟨hz, hs, hb⟩ := hzz
  have := run_make (P := Tryd.prog) w 30 50 i _ Tryd.underlying30 hi hz .i64 .i64 (n : Int) (n : Int) (by omega) (by omega) (by rw [hb]; omega) (by omega)
  simpa [hs, Value.cells] using this
theorem madeL_cell (w : World) (n j : Nat) (t : TypeId) (hj : j < n * 2) : (w.alloc (.cells (madeCells #[.int .i64 0, .int .i64 0] (n * 2)) t)).cell? ⟨w.heap.size, j, none⟩ = some (.int .i64 0) := by
  have h2 : j % 2 = 0 ∨ j % 2 = 1 := by omega
  have h3 : (madeCells #[.int .i64 0, .int .i64 0] (n * 2))[j]? = some (.int .i64 0) := by
    rcases h2 with h2 | h2 <;> simp [madeCells, hj, h2]
  simp only [World.cell?, (MapKept.heap_alloc w _).1]
  simpa using h3
theorem putL2 {W : World} {B i : Nat} {x y : Value} (h0 : (W.cell? ⟨B, i, none⟩).isSome = true) (h1 : (W.cell? ⟨B, i + 1, none⟩).isSome = true) :
    ((W.setCell ⟨B, i, none⟩ x).setCell ⟨B, i + 1, none⟩ y).cell? ⟨B, i, none⟩ = some x ∧ ((W.setCell ⟨B, i, none⟩ x).setCell ⟨B, i + 1, none⟩ y).cell? ⟨B, i + 1, none⟩ = some y ∧
    (∀ j, j ≠ i → j ≠ i + 1 → ((W.setCell ⟨B, i, none⟩ x).setCell ⟨B, i + 1, none⟩ y).cell? ⟨B, j, none⟩ = W.cell? ⟨B, j, none⟩) ∧ (∀ a, ((W.setCell ⟨B, i, none⟩ x).setCell ⟨B, i + 1, none⟩ y).frozen? a = W.frozen? a) := by
  refine ⟨?_, ?_, ?_, ?_⟩
  · rw [World.cell?_setCell_other _ _ _ _ (by simp)]; exact setL1 h0
  · exact setL1 (by rw [World.cell?_setCell_other _ _ _ _ (by simp)]; exact h1)
  · intro j hj hj'
    rw [World.cell?_setCell_other _ _ _ _ (fun e => hj' (by injection e with _ e2; exact e2.symm)), World.cell?_setCell_other _ _ _ _ (fun e => hj (by injection e with _ e2; exact e2.symm))]
  · intro a; rw [World.frozen?_setCell, World.frozen?_setCell]
theorem madeL_frozen (w : World) (c : Array Value) (j : Nat) (t : TypeId) : (w.alloc (.cells c t)).frozen? ⟨w.heap.size, j, none⟩ = false := by simp [go_sem]

theorem takeL_row {w : World} {b off : Nat} {xs : List (Int × Int)} {k : Nat} (h : LAt w b off (xs.take k)) (hk : k < xs.length) (x1 x2 : Int) (hx : xs.getD k (0, 0) = (x1, x2)) {w' : World}
    (hw : ∀ j, j < off + k * 2 → w'.cell? ⟨b, j, none⟩ = w.cell? ⟨b, j, none⟩) (h0 : w'.cell? ⟨b, off + k * 2, none⟩ = some (.int .i64 x1)) (h1 : w'.cell? ⟨b, off + k * 2 + 1, none⟩ = some (.int .i64 x2)) : LAt w' b off (xs.take (k + 1)) := by
  intro i hi
  simp only [List.length_take] at hi
  by_cases e : i < k
  · have hh := h i (by simp only [List.length_take]; omega)
    have eq : (xs.take (k + 1)).getD i (0, 0) = (xs.take k).getD i (0, 0) := by
      simp [e, show i < k + 1 by omega]
    rw [eq]
    exact ⟨(hw _ (by omega)).trans hh.1, (hw _ (by omega)).trans hh.2⟩
  · have e2 : i = k := by omega
    subst e2
    have eq : (xs.take (i + 1)).getD i (0, 0) = (x1, x2) := by
      rw [← hx]; simp
    rw [eq]
    exact ⟨h0, h1⟩

set_option maxHeartbeats 1000000 in
theorem toL_row (a : Option Addr) (cap : Nat) (xs : List (Int × Int)) (w : World) (hlen : xs.length ≤ 1048576) (hr : xs = [] ∨ ∃ b off, a = some ⟨b, off, none⟩ ∧ b < w.heap.size ∧ LAt w b off xs) :
    Calls Tryd.prog 19 #[.slice a xs.length cap] w fun e w' => e = .returned (.slice (some ⟨w.heap.size, 0, none⟩) xs.length xs.length) ∧ Below w.heap.size w w' ∧ w.heap.size < w'.heap.size ∧ LAt w' w.heap.size 0 xs ∧ Loose w' w.heap.size (xs.length * 2) := by
  have hmk := makeL_run xs.length hlen
  have HR := hide hr
  clear hr
  go_enter Tryd.func19, Tryd.ntmps19
  go_wp2_with fail
  go_loopw [4] (fun s wr => ∃ (k : Nat), s = .int .i64 k ∧ k ≤ xs.length ∧ LAt wr w.heap.size 0 (xs.take k) ∧ Hid (∀ j, j < xs.length * 2 → (wr.cell? ⟨w.heap.size, j, none⟩).isSome = true ∧ wr.frozen? ⟨w.heap.size, j, none⟩ = false) ∧ Below w.heap.size w wr ∧ w.heap.size < wr.heap.size) (fun s _ => xs.length - (intOf s).toNat)
  case atStart =>
    exact ⟨0, rfl, Nat.zero_le _, fun i hi => by simp at hi, hide fun j hj => ⟨by rw [madeL_cell _ _ _ _ hj]; rfl, madeL_frozen _ _ _ _⟩, (Below.refl _ _).alloc (Nat.le_refl _) _, by simp⟩
  case round =>
    obtain ⟨k, rfl, hk, hrow, HJ, hB, hz⟩ := hrel
    by_cases hlt : k < xs.length
    · rcases HR.out with hnil | ⟨b, off, rfl, hb, hr⟩
      · rw [hnil] at hlt; simp at hlt
      · obtain ⟨r0, r1⟩ := hr k hlt
        have r0' := (hB.cell (p := ⟨b, off + k * 2, none⟩) hb).trans r0
        have r1' := (hB.cell (p := ⟨b, off + k * 2 + 1, none⟩) hb).trans r1
        generalize hgx : (xs.getD k (0, 0)) = x at *
        obtain ⟨x1, x2⟩ := x
        have HG := hide hgx
        have HROW := hide hrow
        clear r0 r1 hgx hrow hmk
        go_wp2_with fail
        refine (toLine_any x1 x2 _).mono ?_
        rintro e w2 ⟨rfl, hb2⟩
        obtain ⟨hc2, hf2⟩ := bcell hb2
        have q0 := HJ.out (k * 2) (by omega)
        have q1 := HJ.out (k * 2 + 1) (by omega)
        obtain ⟨v0, hv0⟩ := Option.isSome_iff_exists.1 q0.1
        obtain ⟨v1, hv1⟩ := Option.isSome_iff_exists.1 q1.1
        have p0 : w2.cell? ⟨w.heap.size, k * 2, none⟩ = some v0 := (hc2 _ _ hz).trans hv0
        have p1 : w2.cell? ⟨w.heap.size, k * 2 + 1, none⟩ = some v1 := (hc2 _ _ hz).trans hv1
        have p2 : w2.frozen? ⟨w.heap.size, k * 2, none⟩ = false := (hf2 _ _ hz).trans q0.2
        have p3 : w2.frozen? ⟨w.heap.size, k * 2 + 1, none⟩ = false := (hf2 _ _ hz).trans q1.2
        go_wp2_with fail
        obtain ⟨u0, u1, u2, u3⟩ := putL2 (W := w2) (B := w.heap.size) (i := k * 2) (x := .int .i64 x1) (y := .int .i64 x2) (by rw [p0]; rfl) (by rw [p1]; rfl)
        refine ⟨⟨k + 1, by go_num, by omega, ?_, ?_, ?_, ?_⟩, by simp only [intOf]; omega⟩
        · have hrow2 := (HROW.out).below hb2 hz
          exact takeL_row hrow2 hlt x1 x2 HG.out (fun j hj => u2 j (by omega) (by omega)) (by simpa using u0) (by simpa using u1)
        · refine hide fun j hj => ⟨?_, (u3 _).trans ((hf2 _ _ hz).trans (HJ.out j hj).2)⟩
          by_cases e0 : j = k * 2
          · subst e0; rw [u0]; rfl
          · by_cases e1 : j = k * 2 + 1
            · subst e1; rw [u1]; rfl
            · rw [u2 j e0 e1, hc2 _ _ hz]; exact (HJ.out j hj).1
        · exact ((hB.trans (hb2.mono (by omega))).setCell (Nat.le_refl _) _).setCell (Nat.le_refl _) _
        · have := hb2.size; simp; omega
    · have hke : k = xs.length := by omega
      subst hke
      rw [List.take_length] at hrow
      go_wp2_with fail
      go_ret
      exact ⟨rfl, hB, hz, hrow, HJ.out⟩

theorem heldLE {w w1 w2 : World} {b c i : Nat} {v0 v1 v2 v3 : Value} (hb : b < w.heap.size) (hc : c < w.heap.size)
    (s : w1.cell? ⟨b, i, none⟩ = some v0 ∧ w1.cell? ⟨b, i + 1, none⟩ = some v1 ∧ w1.cell? ⟨c, i, none⟩ = some v2 ∧ w1.cell? ⟨c, i + 1, none⟩ = some v3 ∧ Below w.heap.size w w1 ∧ w.heap.size ≤ w1.heap.size) (hb2 : Below w1.heap.size w1 w2) :
    w2.cell? ⟨b, i, none⟩ = some v0 ∧ w2.cell? ⟨b, i + 1, none⟩ = some v1 ∧ w2.cell? ⟨c, i, none⟩ = some v2 ∧ w2.cell? ⟨c, i + 1, none⟩ = some v3 ∧ Below w.heap.size w w2 ∧ w.heap.size ≤ w2.heap.size := by
  obtain ⟨s0, s1, s2, s3, s4, s5⟩ := s
  obtain ⟨h, _⟩ := bcell hb2
  exact ⟨(h _ _ (by omega)).trans s0, (h _ _ (by omega)).trans s1, (h _ _ (by omega)).trans s2, (h _ _ (by omega)).trans s3, s4.trans (hb2.mono s5), Nat.le_trans s5 hb2.size⟩

set_option maxHeartbeats 2000000 in
theorem eqL_same (b c cap cap' : Nat) (xs : List (Int × Int)) (w : World) (hlen : xs.length ≤ 1048576) (hb : b < w.heap.size) (hc : c < w.heap.size) (h1 : LAt w b 0 xs) (h2 : LAt w c 0 xs) :
    Calls Tryd.prog 23 #[.slice (some ⟨b, 0, none⟩) xs.length cap, .slice (some ⟨c, 0, none⟩) xs.length cap'] w fun e w' => e = .returned (.bool true) ∧ Below w.heap.size w w' := by
  have hne : ((xs.length : Int) != (xs.length : Int)) = false := by simp
  go_enter Tryd.func23, Tryd.ntmps23
  go_wp2_with fail
  go_loopw [5] (fun s wr => ∃ (k : Nat), s = .int .i64 k ∧ k ≤ xs.length ∧ Below w.heap.size w wr ∧ w.heap.size ≤ wr.heap.size) (fun s _ => xs.length - (intOf s).toNat)
  case atStart => exact ⟨0, rfl, Nat.zero_le _, Below.refl _ _, Nat.le_refl _⟩
  case round =>
    obtain ⟨k, rfl, hk, hB, hz⟩ := hrel
    by_cases hlt : k < xs.length
    · obtain ⟨r0, r1⟩ := h1 k hlt
      obtain ⟨s0, s1⟩ := h2 k hlt
      have r0' := (hB.cell (p := ⟨b, 0 + k * 2, none⟩) hb).trans r0
      have r1' := (hB.cell (p := ⟨b, 0 + k * 2 + 1, none⟩) hb).trans r1
      have s0' := (hB.cell (p := ⟨c, 0 + k * 2, none⟩) hc).trans s0
      have s1' := (hB.cell (p := ⟨c, 0 + k * 2 + 1, none⟩) hc).trans s1
      simp only [Nat.zero_add] at r0' r1' s0' s1'
      generalize (xs.getD k (0, 0)) = x at *
      obtain ⟨x1, x2⟩ := x
      clear r0 r1 s0 s1
      have i0 : (0 : Int) ≤ (k : Int) := by omega
      have i1 : (k : Int) < (xs.length : Int) := by omega
      go_wp2_with fail
      go_region_held3 (fun w' => w'.cell? ⟨b, k * 2, none⟩ = some (.int .i64 x1) ∧ w'.cell? ⟨b, k * 2 + 1, none⟩ = some (.int .i64 x2) ∧ w'.cell? ⟨c, k * 2, none⟩ = some (.int .i64 x1) ∧ w'.cell? ⟨c, k * 2 + 1, none⟩ = some (.int .i64 x2) ∧ Below w.heap.size w w' ∧ w.heap.size ≤ w'.heap.size)
        (first | exact ⟨r0', r1', s0', s1', hB.drew, hz⟩ | assumption | exact heldLE hb hc ‹_› (by assumption))
        (first
        | (go_at_call 42; refine (eqLine_same _ _ _).mono ?_; rintro e w1 ⟨rfl, hb1⟩))
      go_wp2_with fail
      obtain ⟨_, _, _, _, hB2, hz2⟩ := ‹_ ∧ _ ∧ _ ∧ _ ∧ _ ∧ _›
      exact ⟨⟨k + 1, by go_num, by omega, hB2, hz2⟩, by simp only [intOf]; omega⟩
    · go_wp2_with fail
      go_ret
      exact ⟨rfl, hB⟩

end Go.Proofs.YtogkbidphdpjaaaDoor
