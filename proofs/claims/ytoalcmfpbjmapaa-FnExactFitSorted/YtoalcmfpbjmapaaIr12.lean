/-
  What l12Fill and l12Numbers of the model answer.
-/
import Derived.Test.YtoalcmfpbjmapaaIq12
namespace Go.Proofs.Ytoalcmfpbjmapaa
open Go.RowKit

/-- What is there when a number is put into box i. -/
structure St12 (W : World) (b0 G cap gl capl n i : Nat) (us : List Value) (B : List (List (Int × Int))) (x : Int × Int) (ar : Option Addr) (len cr : Nat) (a1 : Option Addr) (c1 : Nat) (w1 : World) (g2 cap2 : Nat) (w2 : World) : Prop where
  row : us.getD i nilS = .slice ar len cr
  c0 : (W.alloc (.cells #[] 3)).cell? ⟨G, i, none⟩ = some (.slice ar len cr)
  r1 : ∀ ty, (Builtin.append_ #[22, 22] ty #[.slice (some ⟨W.heap.size, 0, none⟩) 0 0, .slice ar len cr]).run Try.prog (W.alloc (.cells #[] 3)) = .ok (.slice a1 len c1) w1
  r2 : ∀ ty, (Builtin.append_ #[22, 22] ty #[.slice a1 len c1, .slice (some ⟨w1.heap.size, 0, none⟩) 1 1]).run Try.prog (w1.alloc (.cells #[.int .i64 x.1] 3)) = .ok (.slice (some ⟨g2, 0, none⟩) (len + 1) cap2) w2
  c2 : w2.cell? ⟨G, i, none⟩ = some (.slice ar len cr)
  f2 : w2.frozen? ⟨G, i, none⟩ = false
  c3 : (w2.setCell ⟨G, i, none⟩ (.slice (some ⟨g2, 0, none⟩) (len + 1) cap2)).cell? ⟨gl, i, none⟩ = some (.int .i64 (It.rm (B.getD i [])))
  f3 : (w2.setCell ⟨G, i, none⟩ (.slice (some ⟨g2, 0, none⟩) (len + 1) cap2)).frozen? ⟨gl, i, none⟩ = false
  fs : FS ((w2.setCell ⟨G, i, none⟩ (.slice (some ⟨g2, 0, none⟩) (len + 1) cap2)).setCell ⟨gl, i, none⟩ (.int .i64 (It.rm (B.getD i []) - x.2))) b0 (.slice (some ⟨G, 0, none⟩) n cap) (.slice (some ⟨gl, 0, none⟩) n capl) (us.set i (.slice (some ⟨g2, 0, none⟩) (len + 1) cap2)) (B.set i (B.getD i [] ++ [x]))
  b3 : Below b0 W (w2.setCell ⟨G, i, none⟩ (.slice (some ⟨g2, 0, none⟩) (len + 1) cap2))
  b4 : Below b0 W ((w2.setCell ⟨G, i, none⟩ (.slice (some ⟨g2, 0, none⟩) (len + 1) cap2)).setCell ⟨gl, i, none⟩ (.int .i64 (It.rm (B.getD i []) - x.2)))
theorem FS.store {W : World} {b0 G cap gl capl n i : Nat} {us : List Value} {B : List (List (Int × Int))} {x : Int × Int} (h : FS W b0 (.slice (some ⟨G, 0, none⟩) n cap) (.slice (some ⟨gl, 0, none⟩) n capl) us B) (hn : B.length = n) (hi : i < n) (h9 : (B.getD i []).length ≤ 900) :
    ∃ ar len cr a1 c1 w1 g2 cap2 w2, St12 W b0 G cap gl capl n i us B x ar len cr a1 c1 w1 g2 cap2 w2 := by
  obtain ⟨hL, hO, hb, hA⟩ := h
  subst hn
  have hlen := It.nums_len B
  have hi' : i < (It.nums B).length := by rw [hlen]; exact hi
  have ho := hL.2.1 i hi'
  rw [It.nums_at] at ho
  have hL' := hL
  rw [← hlen] at hL'
  have hc := hL'.cell hi'
  obtain ⟨ar, cr, e, hr⟩ := own_row rfl ho
  have hlm : ((B.getD i []).map Prod.fst).length = (B.getD i []).length := by simp
  obtain ⟨a1, c1, w1, r1, o1, b1⟩ := cl_run12 (c := cr) (w := W) (n := ((B.getD i []).map Prod.fst).length) rfl (by rw [hlm]; omega) hr
  obtain ⟨g2, cap2, w2, r2, o2, gr2, f2⟩ := push_9 (x := .int .i64 x.1) Try.underlying22 infoI rfl rfl (by omega) o1 (by rw [hlm]; omega) b1.size
  have hGl : G < W.heap.size := (hL.1.lt G rfl).2
  have hgl : gl < W.heap.size := (hO.lt gl rfl).2
  have k1 : ∀ b, b < W.heap.size → w2.heap[b]? = W.heap[b]? := fun b hb' => ((gr2.block b (by have := b1.size; simp; omega) (fun e' => by have := (o1.lt b e'.symm).1; omega)).trans ((below_alloc w1 _).block b (by have := b1.size; omega))).trans (b1.block b hb')
  have z2 : W.heap.size ≤ w2.heap.size := Nat.le_trans b1.size (Nat.le_trans (by simp) gr2.size)
  have hne : G ≠ gl := fun e' => (hA gl rfl).1 (by rw [e']; rfl)
  have fr2 : w2.frozen? ⟨G, i, none⟩ = false := (World.frozen?_of_block (w := W) (a := ⟨G, i, none⟩) (k1 G hGl)).trans (hL'.1.frozenAt i)
  have far : ∀ b, b ≠ G → (w2.setCell ⟨G, i, none⟩ (.slice (some ⟨g2, 0, none⟩) (((B.getD i []).map Prod.fst).length + 1) cap2)).heap[b]? = w2.heap[b]? := fun b hb' => Below.heap_setCell w2 ⟨G, i, none⟩ _ b hb'
  have hO3 : (w2.setCell ⟨G, i, none⟩ (.slice (some ⟨g2, 0, none⟩) (((B.getD i []).map Prod.fst).length + 1) cap2)).ownsRow b0 3 1 (.slice (some ⟨gl, 0, none⟩) B.length capl) B.length (ints (It.rooms B)) := own_keep2 hO fun g hv hl => by
    obtain rfl : gl = g := by simpa [Value.ownBlock] using hv
    exact (far gl (Ne.symm hne)).trans (k1 gl hgl)
  have hf2 : W.heap.size ≤ g2 := by
    rcases f2 with f2 | f2
    · exact (o1.lt g2 f2).1
    · have := b1.size; omega
  have L3 := hL'.put (W' := w2) (u' := .slice (some ⟨g2, 0, none⟩) (((B.getD i []).map Prod.fst).length + 1) cap2) (r' := (B.getD i []).map Prod.fst ++ [x.1]) hi' (fun b hb' _ => k1 b hb') z2 (by
      rw [List.length_append, ints_snoc]; exact own_low2 o2 hb) (fun g e' => by
      have : g2 = g := by simpa [Value.ownBlock] using e'
      exact Or.inr (by omega))
  rw [hlen] at L3
  have b3 : Below b0 W (w2.setCell ⟨G, i, none⟩ (.slice (some ⟨g2, 0, none⟩) (((B.getD i []).map Prod.fst).length + 1) cap2)) := by
    have : Below b0 W w2 := ⟨(gr2.os.trans b1.os), (gr2.tape.trans b1.tape), (gr2.output.trans b1.output), z2, fun b hb' => k1 b (by omega)⟩
    exact this.setCell (p := ⟨G, i, none⟩) (hL.1.lt G rfl).1 _
  refine ⟨ar, _, cr, a1, c1, w1, g2, cap2, w2, e, ?_, r1, r2, ?_, fr2, ?_, hO3.frozenAt i, ⟨?_, ?_, ?_, fun g e' => ?_⟩, b3, b3.setCell (p := ⟨gl, i, none⟩) (hO.lt gl rfl).1 _⟩
  · exact ((below_alloc W _).cell (p := ⟨G, i, none⟩) hGl).trans (hc.trans (by rw [e]))
  · exact (World.cell?_of_block (w := W) (a := ⟨G, i, none⟩) (k1 G hGl)).trans (hc.trans (by rw [e]))
  · rw [hO3.cellAt i (by omega), ints_get _ i (by rw [It.rooms_len]; exact hi), It.rooms_at hi]
  · rw [It.nums_set, List.map_append]
    refine L3.keep2 fun g _ hc' => Below.heap_setCell _ ⟨gl, i, none⟩ _ g ?_
    show g ≠ gl
    intro e'
    subst e'
    rcases hc' with hc' | ⟨j, hj, hc'⟩
    · exact hne (by simpa [Value.ownBlock] using hc')
    · rw [List.length_set, hlen] at hj
      rw [getD_set' (by rw [hL.len, hlen]; exact hi)] at hc'
      split at hc'
      · have : g2 = g := by simpa [Value.ownBlock] using hc'
        omega
      · exact (hA g rfl).2 j hj hc'
  · have := (hO3.stored i (.int .i64 (It.rm (B.getD i []) - x.2))).1
    rw [ints_set] at this
    rw [List.length_set, It.rooms_set, It.rm_snoc]; exact this
  · have := b3.size; simp; simp at this; omega
  · obtain rfl : gl = g := by simpa [Value.ownBlock] using e'
    refine ⟨by simpa [Value.ownBlock] using hne, fun j hj => ?_⟩
    rw [List.length_set] at hj
    rw [getD_set' (by rw [hL.len, hlen]; exact hi)]
    split
    · intro e2
      have : g2 = gl := by simpa [Value.ownBlock] using e2
      omega
    · exact (hA gl rfl).2 j hj
end Go.Proofs.Ytoalcmfpbjmapaa
