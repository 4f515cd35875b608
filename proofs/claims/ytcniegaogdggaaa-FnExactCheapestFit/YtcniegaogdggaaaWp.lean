/-
  What the model's seek keeps in memory. (Written by genwp.py.)
-/
import Derived.Test.YtcniegaogdggaaaWl
import Derived.Test.YtcniegaogdggaaaHb
namespace Go.Proofs.Ytcniegaogdggaaa
open Go.RowKit

def tabB (n : Nat) (f : Nat → Bool) : List Bool := (List.range n).map f
theorem tabB_len (n : Nat) (f : Nat → Bool) : (tabB n f).length = n := by simp [tabB]
theorem tabB_get (f : Nat → Bool) {n i : Nat} (h : i < n) : (tabB n f).getD i false = f i := by simp [tabB, h]
def updB (f : Nat → Bool) (k : Nat) (x : Bool) : Nat → Bool := fun i => if i = k then x else f i
theorem tab_set (f : Hu.Fn) (n i : Nat) (x : Int) : (Hu.tab n f).set i x = Hu.tab n (Hu.upd f i x) := by
  apply List.ext_getElem
  · simp [Hu.tab]
  · intro j h1 h2
    simp only [Hu.tab, List.getElem_set, List.getElem_map, List.getElem_range, Hu.upd]
    by_cases e : i = j
    · subst e; simp
    · have : ¬ j = i := fun h => e h.symm
      simp [e, this]
theorem tabB_set (f : Nat → Bool) (n i : Nat) (x : Bool) : (tabB n f).set i x = tabB n (updB f i x) := by
  apply List.ext_getElem
  · simp [tabB]
  · intro j h1 h2
    simp only [tabB, List.getElem_set, List.getElem_map, List.getElem_range, updB]
    by_cases e : i = j
    · subst e; simp
    · have : ¬ j = i := fun h => e h.symm
      simp [e, this]
theorem tab_congr {n : Nat} {f g : Hu.Fn} (h : ∀ i, i < n → f i = g i) : Hu.tab n f = Hu.tab n g := by
  unfold Hu.tab; exact List.map_congr_left fun i hi => h i (List.mem_range.1 hi)
theorem tabB_congr {n : Nat} {f g : Nat → Bool} (h : ∀ i, i < n → f i = g i) : tabB n f = tabB n g := by
  unfold tabB; exact List.map_congr_left fun i hi => h i (List.mem_range.1 hi)
theorem Off3.set {w w1 : World} {x y z g k : Nat} (h : Off3 w w1 x y z) (v : Value) (hg : g = x ∨ g = y ∨ g = z ∨ w.heap.size ≤ g) : Off3 w (w1.setCell ⟨g, k, none⟩ v) x y z :=
  ⟨h.os, h.tape, h.output, by simpa using h.size, fun b hb n1 n2 n3 => (Below.heap_setCell _ _ _ _ (by rcases hg with e | e | e | e <;> (show b ≠ g; omega))).trans (h.block b hb n1 n2 n3)⟩
structure S6 (w wr : World) (bs M : Nat) (e : Option Addr) (n ce cap PU PV OW LS FR GN : Nat) (u v o ls fr : Hu.Fn) (gn : Nat → Bool) : Prop where
  m0 : wr.cell? ⟨M, 0, none⟩ = some (.slice e n ce)
  m1 : wr.cell? ⟨M, 1, none⟩ = some (.slice (some ⟨PU, 0, none⟩) n n)
  m2 : wr.cell? ⟨M, 2, none⟩ = some (.slice (some ⟨PV, 0, none⟩) n n)
  m3 : wr.cell? ⟨M, 3, none⟩ = some (.slice (some ⟨OW, 0, none⟩) n cap)
  pu : wr.ownsRow bs 3 1 (.slice (some ⟨PU, 0, none⟩) n n) n (ints (Hu.tab n u))
  pv : wr.ownsRow bs 3 1 (.slice (some ⟨PV, 0, none⟩) n n) n (ints (Hu.tab n v))
  ow : wr.ownsRow bs 3 1 (.slice (some ⟨OW, 0, none⟩) n cap) n (ints (Hu.tab n o))
  ls : wr.ownsRow w.heap.size 3 1 (.slice (some ⟨LS, 0, none⟩) n n) n (ints (Hu.tab n ls))
  fr : wr.ownsRow w.heap.size 3 1 (.slice (some ⟨FR, 0, none⟩) n n) n (ints (Hu.tab n fr))
  gn : wr.ownsRow w.heap.size 4 1 (.slice (some ⟨GN, 0, none⟩) n n) n (bls (tabB n gn))
  nd : [M, PU, PV, OW, LS, FR, GN].Nodup
  off : Off3 w wr OW PU PV
  ml : M < w.heap.size
theorem S6.set_pu {w wr : World} {bs M : Nat} {e : Option Addr} {n ce cap PU PV OW LS FR GN : Nat} {u v o ls fr : Hu.Fn} {gn : Nat → Bool} (h : S6 w wr bs M e n ce cap PU PV OW LS FR GN u v o ls fr gn) {i : Nat} (x : Int) (d : Nat) : S6 w ((wr.drewN d).setCell ⟨PU, i, none⟩ (.int .i64 x)) bs M e n ce cap PU PV OW LS FR GN (Hu.upd u i x) (v) (o) (ls) (fr) (gn) := by
  have nd := h.nd
  simp only [List.nodup_cons, List.mem_cons, List.not_mem_nil, or_false, not_or, List.nodup_nil, and_true, not_false_eq_true] at nd
  have hd := below_drewN (Below.refl wr.heap.size wr) d
  have oth : ∀ g, g ≠ PU → ((wr.drewN d).setCell ⟨PU, i, none⟩ (.int .i64 x)).heap[g]? = (wr.drewN d).heap[g]? := fun g hg => Below.heap_setCell _ _ _ _ hg
  have cel : ∀ k vv, wr.cell? ⟨M, k, none⟩ = some vv → ((wr.drewN d).setCell ⟨PU, i, none⟩ (.int .i64 x)).cell? ⟨M, k, none⟩ = some vv := fun k vv hv => (World.cell?_of_block (w := wr.drewN d) (a := ⟨M, k, none⟩) (oth M (by omega))).trans hv
  refine ⟨cel _ _ h.m0, cel _ _ h.m1, cel _ _ h.m2, cel _ _ h.m3, ?_, ?_, ?_, ?_, ?_, ?_, h.nd, (h.off.below hd h.off.size).set _ ?_, h.ml⟩
  · have := ((g_own h.pu hd).stored i (.int .i64 x)).1
    rw [ints_set, tab_set] at this
    exact this
  · exact own_blk (g_own h.pv hd) fun g hg => oth g (by simp [Value.ownBlock] at hg; omega)
  · exact own_blk (g_own h.ow hd) fun g hg => oth g (by simp [Value.ownBlock] at hg; omega)
  · exact own_blk (g_own h.ls hd) fun g hg => oth g (by simp [Value.ownBlock] at hg; omega)
  · exact own_blk (g_own h.fr hd) fun g hg => oth g (by simp [Value.ownBlock] at hg; omega)
  · exact own_blk (g_own h.gn hd) fun g hg => oth g (by simp [Value.ownBlock] at hg; omega)
  · exact Or.inr (Or.inl rfl)
theorem S6.set_pv {w wr : World} {bs M : Nat} {e : Option Addr} {n ce cap PU PV OW LS FR GN : Nat} {u v o ls fr : Hu.Fn} {gn : Nat → Bool} (h : S6 w wr bs M e n ce cap PU PV OW LS FR GN u v o ls fr gn) {i : Nat} (x : Int) (d : Nat) : S6 w ((wr.drewN d).setCell ⟨PV, i, none⟩ (.int .i64 x)) bs M e n ce cap PU PV OW LS FR GN (u) (Hu.upd v i x) (o) (ls) (fr) (gn) := by
  have nd := h.nd
  simp only [List.nodup_cons, List.mem_cons, List.not_mem_nil, or_false, not_or, List.nodup_nil, and_true, not_false_eq_true] at nd
  have hd := below_drewN (Below.refl wr.heap.size wr) d
  have oth : ∀ g, g ≠ PV → ((wr.drewN d).setCell ⟨PV, i, none⟩ (.int .i64 x)).heap[g]? = (wr.drewN d).heap[g]? := fun g hg => Below.heap_setCell _ _ _ _ hg
  have cel : ∀ k vv, wr.cell? ⟨M, k, none⟩ = some vv → ((wr.drewN d).setCell ⟨PV, i, none⟩ (.int .i64 x)).cell? ⟨M, k, none⟩ = some vv := fun k vv hv => (World.cell?_of_block (w := wr.drewN d) (a := ⟨M, k, none⟩) (oth M (by omega))).trans hv
  refine ⟨cel _ _ h.m0, cel _ _ h.m1, cel _ _ h.m2, cel _ _ h.m3, ?_, ?_, ?_, ?_, ?_, ?_, h.nd, (h.off.below hd h.off.size).set _ ?_, h.ml⟩
  · exact own_blk (g_own h.pu hd) fun g hg => oth g (by simp [Value.ownBlock] at hg; omega)
  · have := ((g_own h.pv hd).stored i (.int .i64 x)).1
    rw [ints_set, tab_set] at this
    exact this
  · exact own_blk (g_own h.ow hd) fun g hg => oth g (by simp [Value.ownBlock] at hg; omega)
  · exact own_blk (g_own h.ls hd) fun g hg => oth g (by simp [Value.ownBlock] at hg; omega)
  · exact own_blk (g_own h.fr hd) fun g hg => oth g (by simp [Value.ownBlock] at hg; omega)
  · exact own_blk (g_own h.gn hd) fun g hg => oth g (by simp [Value.ownBlock] at hg; omega)
  · exact Or.inr (Or.inr (Or.inl rfl))
theorem S6.set_ow {w wr : World} {bs M : Nat} {e : Option Addr} {n ce cap PU PV OW LS FR GN : Nat} {u v o ls fr : Hu.Fn} {gn : Nat → Bool} (h : S6 w wr bs M e n ce cap PU PV OW LS FR GN u v o ls fr gn) {i : Nat} (x : Int) (d : Nat) : S6 w ((wr.drewN d).setCell ⟨OW, i, none⟩ (.int .i64 x)) bs M e n ce cap PU PV OW LS FR GN (u) (v) (Hu.upd o i x) (ls) (fr) (gn) := by
  have nd := h.nd
  simp only [List.nodup_cons, List.mem_cons, List.not_mem_nil, or_false, not_or, List.nodup_nil, and_true, not_false_eq_true] at nd
  have hd := below_drewN (Below.refl wr.heap.size wr) d
  have oth : ∀ g, g ≠ OW → ((wr.drewN d).setCell ⟨OW, i, none⟩ (.int .i64 x)).heap[g]? = (wr.drewN d).heap[g]? := fun g hg => Below.heap_setCell _ _ _ _ hg
  have cel : ∀ k vv, wr.cell? ⟨M, k, none⟩ = some vv → ((wr.drewN d).setCell ⟨OW, i, none⟩ (.int .i64 x)).cell? ⟨M, k, none⟩ = some vv := fun k vv hv => (World.cell?_of_block (w := wr.drewN d) (a := ⟨M, k, none⟩) (oth M (by omega))).trans hv
  refine ⟨cel _ _ h.m0, cel _ _ h.m1, cel _ _ h.m2, cel _ _ h.m3, ?_, ?_, ?_, ?_, ?_, ?_, h.nd, (h.off.below hd h.off.size).set _ ?_, h.ml⟩
  · exact own_blk (g_own h.pu hd) fun g hg => oth g (by simp [Value.ownBlock] at hg; omega)
  · exact own_blk (g_own h.pv hd) fun g hg => oth g (by simp [Value.ownBlock] at hg; omega)
  · have := ((g_own h.ow hd).stored i (.int .i64 x)).1
    rw [ints_set, tab_set] at this
    exact this
  · exact own_blk (g_own h.ls hd) fun g hg => oth g (by simp [Value.ownBlock] at hg; omega)
  · exact own_blk (g_own h.fr hd) fun g hg => oth g (by simp [Value.ownBlock] at hg; omega)
  · exact own_blk (g_own h.gn hd) fun g hg => oth g (by simp [Value.ownBlock] at hg; omega)
  · exact Or.inl rfl
theorem S6.set_ls {w wr : World} {bs M : Nat} {e : Option Addr} {n ce cap PU PV OW LS FR GN : Nat} {u v o ls fr : Hu.Fn} {gn : Nat → Bool} (h : S6 w wr bs M e n ce cap PU PV OW LS FR GN u v o ls fr gn) {i : Nat} (x : Int) (d : Nat) : S6 w ((wr.drewN d).setCell ⟨LS, i, none⟩ (.int .i64 x)) bs M e n ce cap PU PV OW LS FR GN (u) (v) (o) (Hu.upd ls i x) (fr) (gn) := by
  have nd := h.nd
  simp only [List.nodup_cons, List.mem_cons, List.not_mem_nil, or_false, not_or, List.nodup_nil, and_true, not_false_eq_true] at nd
  have hd := below_drewN (Below.refl wr.heap.size wr) d
  have oth : ∀ g, g ≠ LS → ((wr.drewN d).setCell ⟨LS, i, none⟩ (.int .i64 x)).heap[g]? = (wr.drewN d).heap[g]? := fun g hg => Below.heap_setCell _ _ _ _ hg
  have cel : ∀ k vv, wr.cell? ⟨M, k, none⟩ = some vv → ((wr.drewN d).setCell ⟨LS, i, none⟩ (.int .i64 x)).cell? ⟨M, k, none⟩ = some vv := fun k vv hv => (World.cell?_of_block (w := wr.drewN d) (a := ⟨M, k, none⟩) (oth M (by omega))).trans hv
  refine ⟨cel _ _ h.m0, cel _ _ h.m1, cel _ _ h.m2, cel _ _ h.m3, ?_, ?_, ?_, ?_, ?_, ?_, h.nd, (h.off.below hd h.off.size).set _ ?_, h.ml⟩
  · exact own_blk (g_own h.pu hd) fun g hg => oth g (by simp [Value.ownBlock] at hg; omega)
  · exact own_blk (g_own h.pv hd) fun g hg => oth g (by simp [Value.ownBlock] at hg; omega)
  · exact own_blk (g_own h.ow hd) fun g hg => oth g (by simp [Value.ownBlock] at hg; omega)
  · have := ((g_own h.ls hd).stored i (.int .i64 x)).1
    rw [ints_set, tab_set] at this
    exact this
  · exact own_blk (g_own h.fr hd) fun g hg => oth g (by simp [Value.ownBlock] at hg; omega)
  · exact own_blk (g_own h.gn hd) fun g hg => oth g (by simp [Value.ownBlock] at hg; omega)
  · exact Or.inr (Or.inr (Or.inr (h.ls.lt LS rfl).1))
theorem S6.set_fr {w wr : World} {bs M : Nat} {e : Option Addr} {n ce cap PU PV OW LS FR GN : Nat} {u v o ls fr : Hu.Fn} {gn : Nat → Bool} (h : S6 w wr bs M e n ce cap PU PV OW LS FR GN u v o ls fr gn) {i : Nat} (x : Int) (d : Nat) : S6 w ((wr.drewN d).setCell ⟨FR, i, none⟩ (.int .i64 x)) bs M e n ce cap PU PV OW LS FR GN (u) (v) (o) (ls) (Hu.upd fr i x) (gn) := by
  have nd := h.nd
  simp only [List.nodup_cons, List.mem_cons, List.not_mem_nil, or_false, not_or, List.nodup_nil, and_true, not_false_eq_true] at nd
  have hd := below_drewN (Below.refl wr.heap.size wr) d
  have oth : ∀ g, g ≠ FR → ((wr.drewN d).setCell ⟨FR, i, none⟩ (.int .i64 x)).heap[g]? = (wr.drewN d).heap[g]? := fun g hg => Below.heap_setCell _ _ _ _ hg
  have cel : ∀ k vv, wr.cell? ⟨M, k, none⟩ = some vv → ((wr.drewN d).setCell ⟨FR, i, none⟩ (.int .i64 x)).cell? ⟨M, k, none⟩ = some vv := fun k vv hv => (World.cell?_of_block (w := wr.drewN d) (a := ⟨M, k, none⟩) (oth M (by omega))).trans hv
  refine ⟨cel _ _ h.m0, cel _ _ h.m1, cel _ _ h.m2, cel _ _ h.m3, ?_, ?_, ?_, ?_, ?_, ?_, h.nd, (h.off.below hd h.off.size).set _ ?_, h.ml⟩
  · exact own_blk (g_own h.pu hd) fun g hg => oth g (by simp [Value.ownBlock] at hg; omega)
  · exact own_blk (g_own h.pv hd) fun g hg => oth g (by simp [Value.ownBlock] at hg; omega)
  · exact own_blk (g_own h.ow hd) fun g hg => oth g (by simp [Value.ownBlock] at hg; omega)
  · exact own_blk (g_own h.ls hd) fun g hg => oth g (by simp [Value.ownBlock] at hg; omega)
  · have := ((g_own h.fr hd).stored i (.int .i64 x)).1
    rw [ints_set, tab_set] at this
    exact this
  · exact own_blk (g_own h.gn hd) fun g hg => oth g (by simp [Value.ownBlock] at hg; omega)
  · exact Or.inr (Or.inr (Or.inr (h.fr.lt FR rfl).1))
theorem S6.set_gn {w wr : World} {bs M : Nat} {e : Option Addr} {n ce cap PU PV OW LS FR GN : Nat} {u v o ls fr : Hu.Fn} {gn : Nat → Bool} (h : S6 w wr bs M e n ce cap PU PV OW LS FR GN u v o ls fr gn) {i : Nat} (x : Bool) (d : Nat) : S6 w ((wr.drewN d).setCell ⟨GN, i, none⟩ (.bool x)) bs M e n ce cap PU PV OW LS FR GN (u) (v) (o) (ls) (fr) (updB gn i x) := by
  have nd := h.nd
  simp only [List.nodup_cons, List.mem_cons, List.not_mem_nil, or_false, not_or, List.nodup_nil, and_true, not_false_eq_true] at nd
  have hd := below_drewN (Below.refl wr.heap.size wr) d
  have oth : ∀ g, g ≠ GN → ((wr.drewN d).setCell ⟨GN, i, none⟩ (.bool x)).heap[g]? = (wr.drewN d).heap[g]? := fun g hg => Below.heap_setCell _ _ _ _ hg
  have cel : ∀ k vv, wr.cell? ⟨M, k, none⟩ = some vv → ((wr.drewN d).setCell ⟨GN, i, none⟩ (.bool x)).cell? ⟨M, k, none⟩ = some vv := fun k vv hv => (World.cell?_of_block (w := wr.drewN d) (a := ⟨M, k, none⟩) (oth M (by omega))).trans hv
  refine ⟨cel _ _ h.m0, cel _ _ h.m1, cel _ _ h.m2, cel _ _ h.m3, ?_, ?_, ?_, ?_, ?_, ?_, h.nd, (h.off.below hd h.off.size).set _ ?_, h.ml⟩
  · exact own_blk (g_own h.pu hd) fun g hg => oth g (by simp [Value.ownBlock] at hg; omega)
  · exact own_blk (g_own h.pv hd) fun g hg => oth g (by simp [Value.ownBlock] at hg; omega)
  · exact own_blk (g_own h.ow hd) fun g hg => oth g (by simp [Value.ownBlock] at hg; omega)
  · exact own_blk (g_own h.ls hd) fun g hg => oth g (by simp [Value.ownBlock] at hg; omega)
  · exact own_blk (g_own h.fr hd) fun g hg => oth g (by simp [Value.ownBlock] at hg; omega)
  · have := ((g_own h.gn hd).stored i (.bool x)).1
    rw [bls_set, tabB_set] at this
    exact this
  · exact Or.inr (Or.inr (Or.inr (h.gn.lt GN rfl).1))
theorem S6.c_pu {w wr : World} {bs M : Nat} {e : Option Addr} {n ce cap PU PV OW LS FR GN : Nat} {u v o ls fr : Hu.Fn} {gn : Nat → Bool} (h : S6 w wr bs M e n ce cap PU PV OW LS FR GN u v o ls fr gn) {i : Nat} (hi : i < n) : wr.cell? ⟨PU, i, none⟩ = some (.int .i64 (u i)) := by rw [h.pu.cellAt i (by omega), ints_get _ i (by rw [Hu.tab_len]; exact hi), Hu.tab_get _ hi]
theorem S6.z_pu {w wr : World} {bs M : Nat} {e : Option Addr} {n ce cap PU PV OW LS FR GN : Nat} {u v o ls fr : Hu.Fn} {gn : Nat → Bool} (h : S6 w wr bs M e n ce cap PU PV OW LS FR GN u v o ls fr gn) (i : Nat) : wr.frozen? ⟨PU, i, none⟩ = false := h.pu.frozenAt i
theorem S6.c_pv {w wr : World} {bs M : Nat} {e : Option Addr} {n ce cap PU PV OW LS FR GN : Nat} {u v o ls fr : Hu.Fn} {gn : Nat → Bool} (h : S6 w wr bs M e n ce cap PU PV OW LS FR GN u v o ls fr gn) {i : Nat} (hi : i < n) : wr.cell? ⟨PV, i, none⟩ = some (.int .i64 (v i)) := by rw [h.pv.cellAt i (by omega), ints_get _ i (by rw [Hu.tab_len]; exact hi), Hu.tab_get _ hi]
theorem S6.z_pv {w wr : World} {bs M : Nat} {e : Option Addr} {n ce cap PU PV OW LS FR GN : Nat} {u v o ls fr : Hu.Fn} {gn : Nat → Bool} (h : S6 w wr bs M e n ce cap PU PV OW LS FR GN u v o ls fr gn) (i : Nat) : wr.frozen? ⟨PV, i, none⟩ = false := h.pv.frozenAt i
theorem S6.c_ow {w wr : World} {bs M : Nat} {e : Option Addr} {n ce cap PU PV OW LS FR GN : Nat} {u v o ls fr : Hu.Fn} {gn : Nat → Bool} (h : S6 w wr bs M e n ce cap PU PV OW LS FR GN u v o ls fr gn) {i : Nat} (hi : i < n) : wr.cell? ⟨OW, i, none⟩ = some (.int .i64 (o i)) := by rw [h.ow.cellAt i (by omega), ints_get _ i (by rw [Hu.tab_len]; exact hi), Hu.tab_get _ hi]
theorem S6.z_ow {w wr : World} {bs M : Nat} {e : Option Addr} {n ce cap PU PV OW LS FR GN : Nat} {u v o ls fr : Hu.Fn} {gn : Nat → Bool} (h : S6 w wr bs M e n ce cap PU PV OW LS FR GN u v o ls fr gn) (i : Nat) : wr.frozen? ⟨OW, i, none⟩ = false := h.ow.frozenAt i
theorem S6.c_ls {w wr : World} {bs M : Nat} {e : Option Addr} {n ce cap PU PV OW LS FR GN : Nat} {u v o ls fr : Hu.Fn} {gn : Nat → Bool} (h : S6 w wr bs M e n ce cap PU PV OW LS FR GN u v o ls fr gn) {i : Nat} (hi : i < n) : wr.cell? ⟨LS, i, none⟩ = some (.int .i64 (ls i)) := by rw [h.ls.cellAt i (by omega), ints_get _ i (by rw [Hu.tab_len]; exact hi), Hu.tab_get _ hi]
theorem S6.z_ls {w wr : World} {bs M : Nat} {e : Option Addr} {n ce cap PU PV OW LS FR GN : Nat} {u v o ls fr : Hu.Fn} {gn : Nat → Bool} (h : S6 w wr bs M e n ce cap PU PV OW LS FR GN u v o ls fr gn) (i : Nat) : wr.frozen? ⟨LS, i, none⟩ = false := h.ls.frozenAt i
theorem S6.c_fr {w wr : World} {bs M : Nat} {e : Option Addr} {n ce cap PU PV OW LS FR GN : Nat} {u v o ls fr : Hu.Fn} {gn : Nat → Bool} (h : S6 w wr bs M e n ce cap PU PV OW LS FR GN u v o ls fr gn) {i : Nat} (hi : i < n) : wr.cell? ⟨FR, i, none⟩ = some (.int .i64 (fr i)) := by rw [h.fr.cellAt i (by omega), ints_get _ i (by rw [Hu.tab_len]; exact hi), Hu.tab_get _ hi]
theorem S6.z_fr {w wr : World} {bs M : Nat} {e : Option Addr} {n ce cap PU PV OW LS FR GN : Nat} {u v o ls fr : Hu.Fn} {gn : Nat → Bool} (h : S6 w wr bs M e n ce cap PU PV OW LS FR GN u v o ls fr gn) (i : Nat) : wr.frozen? ⟨FR, i, none⟩ = false := h.fr.frozenAt i
theorem S6.c_gn {w wr : World} {bs M : Nat} {e : Option Addr} {n ce cap PU PV OW LS FR GN : Nat} {u v o ls fr : Hu.Fn} {gn : Nat → Bool} (h : S6 w wr bs M e n ce cap PU PV OW LS FR GN u v o ls fr gn) {i : Nat} (hi : i < n) : wr.cell? ⟨GN, i, none⟩ = some (.bool (gn i)) := by rw [h.gn.cellAt i (by omega), bls_get _ i (by rw [tabB_len]; exact hi) false, tabB_get _ hi]
theorem S6.z_gn {w wr : World} {bs M : Nat} {e : Option Addr} {n ce cap PU PV OW LS FR GN : Nat} {u v o ls fr : Hu.Fn} {gn : Nat → Bool} (h : S6 w wr bs M e n ce cap PU PV OW LS FR GN u v o ls fr gn) (i : Nat) : wr.frozen? ⟨GN, i, none⟩ = false := h.gn.frozenAt i
theorem S6.as {w wr : World} {bs M : Nat} {e : Option Addr} {n ce cap PU PV OW LS FR GN : Nat} {u v o ls fr u' v' o' ls' fr' : Hu.Fn} {gn gn' : Nat → Bool} (h : S6 w wr bs M e n ce cap PU PV OW LS FR GN u v o ls fr gn) (hu : ∀ i, i < n → u i = u' i) (hv : ∀ i, i < n → v i = v' i) (ho : ∀ i, i < n → o i = o' i) (hl : ∀ i, i < n → ls i = ls' i) (hf : ∀ i, i < n → fr i = fr' i) (hg : ∀ i, i < n → gn i = gn' i) : S6 w wr bs M e n ce cap PU PV OW LS FR GN u' v' o' ls' fr' gn' := by
  refine ⟨h.m0, h.m1, h.m2, h.m3, ?_, ?_, ?_, ?_, ?_, ?_, h.nd, h.off, h.ml⟩
  · rw [← tab_congr hu]; exact h.pu
  · rw [← tab_congr hv]; exact h.pv
  · rw [← tab_congr ho]; exact h.ow
  · rw [← tab_congr hl]; exact h.ls
  · rw [← tab_congr hf]; exact h.fr
  · rw [← tabB_congr hg]; exact h.gn
end Go.Proofs.Ytcniegaogdggaaa
