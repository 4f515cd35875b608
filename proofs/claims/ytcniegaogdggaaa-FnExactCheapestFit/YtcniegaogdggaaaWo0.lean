/-
  What lies around the fitting of CheapestFit.
-/
import Derived.Test.YtcniegaogdggaaaWm
namespace Go.Proofs.Ytcniegaogdggaaa
open Go.RowKit

theorem own_low9 {w : World} {base base' e s n : Nat} {v : Value} {xs : List Value} (h : w.ownsRow base e s v n xs) (hb : base' ≤ base) : w.ownsRow base' e s v n xs := by
  refine ⟨h.1, ?_⟩
  rcases h.2 with h | ⟨g, cap, cur, hv, hbg, r⟩
  · exact Or.inl h
  · exact Or.inr ⟨g, cap, cur, hv, by omega, r⟩
theorem cm1_new (w : World) : (w.alloc (.cells #[.int .i64 (-1)] 3)).cell? ⟨w.heap.size, 0, none⟩ = some (.int .i64 (-1)) ∧ w.heap.size < (w.alloc (.cells #[.int .i64 (-1)] 3)).heap.size := ⟨by simp, by simp⟩
theorem cm1_below {w w' : World} {B : Nat} (h : w.cell? ⟨B, 0, none⟩ = some (.int .i64 (-1)) ∧ B < w.heap.size) (hb : Below w.heap.size w w') : w'.cell? ⟨B, 0, none⟩ = some (.int .i64 (-1)) ∧ B < w'.heap.size := ⟨(hb.cell (p := ⟨B, 0, none⟩) h.2).trans h.1, Nat.lt_of_lt_of_le h.2 hb.size⟩
structure Z4 (w : World) (b : Nat) : Prop where
  c0 : w.cell? ⟨b, 0, none⟩ = some (.slice none 0 0)
  c1 : w.cell? ⟨b, 1, none⟩ = some (.slice none 0 0)
  c2 : w.cell? ⟨b, 2, none⟩ = some (.slice none 0 0)
  c3 : w.cell? ⟨b, 3, none⟩ = some (.slice none 0 0)
  z0 : w.frozen? ⟨b, 0, none⟩ = false
  z1 : w.frozen? ⟨b, 1, none⟩ = false
  z2 : w.frozen? ⟨b, 2, none⟩ = false
  z3 : w.frozen? ⟨b, 3, none⟩ = false
  lt : b < w.heap.size
theorem Z4.new (w : World) (t : TypeId) : Z4 (w.alloc (.cells #[.slice none 0 0, .slice none 0 0, .slice none 0 0, .slice none 0 0] t)) w.heap.size := ⟨by simp, by simp, by simp, by simp, by simp, by simp, by simp, by simp, by simp⟩
theorem Z4.below {w w' : World} {b : Nat} (h : Z4 w b) (hb : Below w.heap.size w w') : Z4 w' b :=
  ⟨(hb.cell (p := ⟨b, 0, none⟩) h.lt).trans h.c0, (hb.cell (p := ⟨b, 1, none⟩) h.lt).trans h.c1, (hb.cell (p := ⟨b, 2, none⟩) h.lt).trans h.c2, (hb.cell (p := ⟨b, 3, none⟩) h.lt).trans h.c3, (hb.frozen (p := ⟨b, 0, none⟩) h.lt).trans h.z0, (hb.frozen (p := ⟨b, 1, none⟩) h.lt).trans h.z1, (hb.frozen (p := ⟨b, 2, none⟩) h.lt).trans h.z2, (hb.frozen (p := ⟨b, 3, none⟩) h.lt).trans h.z3, Nat.lt_of_lt_of_le h.lt hb.size⟩
/-- The fitting's variable and its three lists, apart from one another and behind w0. -/
structure CfI (w0 w : World) (FB : Nat) (e : Option Addr) (n ce FT PU PV : Nat) (ft us vs : List Int) : Prop where
  b0 : Below w0.heap.size w0 w
  f0 : w.cell? ⟨FB, 0, none⟩ = some (.slice e n ce)
  f1 : w.cell? ⟨FB, 1, none⟩ = some (.slice (some ⟨FT, 0, none⟩) n n)
  f2 : w.cell? ⟨FB, 2, none⟩ = some (.slice (some ⟨PU, 0, none⟩) n n)
  f3 : w.cell? ⟨FB, 3, none⟩ = some (.slice (some ⟨PV, 0, none⟩) n n)
  ft : w.ownsRow w0.heap.size 3 1 (.slice (some ⟨FT, 0, none⟩) n n) n (ints ft)
  pu : w.ownsRow w0.heap.size 3 1 (.slice (some ⟨PU, 0, none⟩) n n) n (ints us)
  pv : w.ownsRow w0.heap.size 3 1 (.slice (some ⟨PV, 0, none⟩) n n) n (ints vs)
  n1 : FT ≠ PU
  n2 : FT ≠ PV
  n3 : PU ≠ PV
  n4 : FB ≠ FT
  n5 : FB ≠ PU
  n6 : FB ≠ PV
  lb : FB < w.heap.size
  lo : w0.heap.size ≤ FB
theorem CfI.make {w0 w : World} {FB FT PU PV n ce : Nat} {e : Option Addr} {ft us vs : List Int} (z : Z4 w FB) (oft : w.ownsRow w0.heap.size 3 1 (.slice (some ⟨FT, 0, none⟩) n n) n (ints ft)) (opu : w.ownsRow w0.heap.size 3 1 (.slice (some ⟨PU, 0, none⟩) n n) n (ints us)) (opv : w.ownsRow w0.heap.size 3 1 (.slice (some ⟨PV, 0, none⟩) n n) n (ints vs)) (b0 : Below w0.heap.size w0 w) (n1 : FT ≠ PU) (n2 : FT ≠ PV) (n3 : PU ≠ PV) (n4 : FB ≠ FT) (n5 : FB ≠ PU) (n6 : FB ≠ PV) (lo : w0.heap.size ≤ FB) :
    CfI w0 ((((w.setCell ⟨FB, 0, none⟩ (.slice e n ce)).setCell ⟨FB, 1, none⟩ (.slice (some ⟨FT, 0, none⟩) n n)).setCell ⟨FB, 2, none⟩ (.slice (some ⟨PU, 0, none⟩) n n)).setCell ⟨FB, 3, none⟩ (.slice (some ⟨PV, 0, none⟩) n n)) FB e n ce FT PU PV ft us vs := by
  obtain ⟨c0, c1, c2, c3, z0, z1, z2, z3, lt⟩ := z
  have ob : ∀ g, g ≠ FB → ((((w.setCell ⟨FB, 0, none⟩ (.slice e n ce)).setCell ⟨FB, 1, none⟩ (.slice (some ⟨FT, 0, none⟩) n n)).setCell ⟨FB, 2, none⟩ (.slice (some ⟨PU, 0, none⟩) n n)).setCell ⟨FB, 3, none⟩ (.slice (some ⟨PV, 0, none⟩) n n)).heap[g]? = w.heap[g]? := fun g hg =>
    (Below.heap_setCell _ _ _ _ hg).trans ((Below.heap_setCell _ _ _ _ hg).trans ((Below.heap_setCell _ _ _ _ hg).trans (Below.heap_setCell _ _ _ _ hg)))
  refine ⟨(((b0.setCell (p := ⟨FB, 0, none⟩) lo _).setCell (p := ⟨FB, 1, none⟩) lo _).setCell (p := ⟨FB, 2, none⟩) lo _).setCell (p := ⟨FB, 3, none⟩) lo _, by simp [go_sem, *], by simp [go_sem, *], by simp [go_sem, *], by simp [go_sem, *], own_blk oft fun g hg => ?_, own_blk opu fun g hg => ?_, own_blk opv fun g hg => ?_, n1, n2, n3, n4, n5, n6, by simpa using lt, lo⟩
  · simp [Value.ownBlock] at hg; exact ob g (by omega)
  · simp [Value.ownBlock] at hg; exact ob g (by omega)
  · simp [Value.ownBlock] at hg; exact ob g (by omega)
/-- Behind one more load. -/
theorem CfI.more {w0 w w' : World} {FB FT PU PV n ce : Nat} {e : Option Addr} {ft us vs ft' us' vs' : List Int} (h : CfI w0 w FB e n ce FT PU PV ft us vs) (ho : Off3 w w' FT PU PV) (oft : w'.ownsRow w0.heap.size 3 1 (.slice (some ⟨FT, 0, none⟩) n n) n (ints ft')) (opu : w'.ownsRow w0.heap.size 3 1 (.slice (some ⟨PU, 0, none⟩) n n) n (ints us')) (opv : w'.ownsRow w0.heap.size 3 1 (.slice (some ⟨PV, 0, none⟩) n n) n (ints vs')) : CfI w0 w' FB e n ce FT PU PV ft' us' vs' :=
  have hb := ho.block FB h.lb h.n4 h.n5 h.n6
  ⟨ho.under h.b0 (h.ft.lt FT rfl).1 (h.pu.lt PU rfl).1 (h.pv.lt PV rfl).1, (World.cell?_of_block (w := w) (a := ⟨FB, 0, none⟩) hb).trans h.f0, (World.cell?_of_block (w := w) (a := ⟨FB, 1, none⟩) hb).trans h.f1, (World.cell?_of_block (w := w) (a := ⟨FB, 2, none⟩) hb).trans h.f2, (World.cell?_of_block (w := w) (a := ⟨FB, 3, none⟩) hb).trans h.f3, oft, opu, opv, h.n1, h.n2, h.n3, h.n4, h.n5, h.n6, Nat.lt_of_lt_of_le h.lb ho.size, h.lo⟩
/-- What comes out: three lists of their own memory. -/
structure CfO (w w' : World) (n FT PU PV : Nat) (C : List (List Int)) : Prop where
  b : Below w.heap.size w w'
  ft : w'.ownsRow w.heap.size 3 1 (.slice (some ⟨FT, 0, none⟩) n n) n (ints (Hu.fitL C n))
  pu : w'.ownsRow w.heap.size 3 1 (.slice (some ⟨PU, 0, none⟩) n n) n (ints (Hu.loadsL C n))
  pv : w'.ownsRow w.heap.size 3 1 (.slice (some ⟨PV, 0, none⟩) n n) n (ints (Hu.binsL C n))
  n1 : FT ≠ PU
  n2 : FT ≠ PV
  n3 : PU ≠ PV
theorem fitR_zero (n : Nat) (C : List (List Int)) : Hu.fitR n (Hu.fitTo C n 0).o 0 = List.replicate n (-1) := by
  apply List.ext_getElem
  · simp [Hu.fitR, Hu.tab]
  · intro i h1 h2; simp [Hu.fitR, Hu.tab]
theorem tab_zero (n : Nat) : Hu.tab n (fun _ => 0) = List.replicate n 0 := by
  apply List.ext_getElem
  · simp [Hu.tab]
  · intro i h1 h2; simp [Hu.tab]
theorem fitR_all (n : Nat) (C : List (List Int)) : Hu.fitR n (Hu.fitTo C n n).o n = Hu.fitL C n := by
  refine Hu.tab_ext (Hu.fitR_len _ _ _) fun i hi => ?_
  rw [Hu.fitR_lt hi hi]
theorem CfO.make {w w0 wr : World} {FB FT PU PV n ce d : Nat} {e : Option Addr} {C : List (List Int)} (hb : Below w.heap.size w w0) (h : CfI w0 wr FB e n ce FT PU PV (Hu.fitR n (Hu.fitTo C n n).o n) (Hu.tab n (Hu.fitTo C n n).u) (Hu.tab n (Hu.fitTo C n n).v)) (hs : w0.heap.size = w.heap.size + 1) (a b : Value) :
    CfO w (((wr.drewN d).setCell ⟨w.heap.size, 0, none⟩ a).setCell ⟨w.heap.size, 1, none⟩ b) n FT PU PV C := by
  have hd := below_drewN (Below.refl wr.heap.size wr) d
  have ob : ∀ g, g ≠ w.heap.size → (((wr.drewN d).setCell ⟨w.heap.size, 0, none⟩ a).setCell ⟨w.heap.size, 1, none⟩ b).heap[g]? = (wr.drewN d).heap[g]? := fun g hg => (Below.heap_setCell _ _ _ _ hg).trans (Below.heap_setCell _ _ _ _ hg)
  have l1 := (h.ft.lt FT rfl).1
  have l2 := (h.pu.lt PU rfl).1
  have l3 := (h.pv.lt PV rfl).1
  refine ⟨((hb.trans ((h.b0.mono (by omega)).trans (hd.mono (Nat.le_trans hb.size h.b0.size)))).setCell (p := ⟨w.heap.size, 0, none⟩) (Nat.le_refl _) _).setCell (p := ⟨w.heap.size, 1, none⟩) (Nat.le_refl _) _, ?_, ?_, ?_, h.n1, h.n2, h.n3⟩
  · rw [← fitR_all]
    exact own_low9 (own_blk (g_own h.ft hd) fun g hg => ob g (by simp [Value.ownBlock] at hg; omega)) (by omega)
  · exact own_low9 (own_blk (g_own h.pu hd) fun g hg => ob g (by simp [Value.ownBlock] at hg; omega)) (by omega)
  · exact own_low9 (own_blk (g_own h.pv hd) fun g hg => ob g (by simp [Value.ownBlock] at hg; omega)) (by omega)
end Go.Proofs.Ytcniegaogdggaaa
