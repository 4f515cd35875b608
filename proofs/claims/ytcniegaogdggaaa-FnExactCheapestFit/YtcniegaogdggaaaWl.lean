/-
  What addLoad answers.
-/
import Derived.Test.YtcniegaogdggaaaWk
import Derived.Test.YtcniegaogdggaaaKo
import Derived.Deep.MidRow
import Derived.Deep.DeepCutAuto
namespace Go.Proofs.Ytcniegaogdggaaa
open Go.RowKit

/-- All but three blocks as it was. -/
structure Off3 (w w' : World) (x y z : Nat) : Prop where
  os : w'.os = w.os
  tape : w'.tape = w.tape
  output : w'.output = w.output
  size : w.heap.size ≤ w'.heap.size
  block : ∀ b, b < w.heap.size → b ≠ x → b ≠ y → b ≠ z → w'.heap[b]? = w.heap[b]?
theorem Off3.refl (w : World) (x y z : Nat) : Off3 w w x y z := ⟨rfl, rfl, rfl, Nat.le_refl _, fun _ _ _ _ _ => rfl⟩
theorem Off3.below {w w1 w2 : World} {x y z k : Nat} (h : Off3 w w1 x y z) (hb : Below k w1 w2) (hk : w.heap.size ≤ k) : Off3 w w2 x y z :=
  ⟨hb.os.trans h.os, hb.tape.trans h.tape, hb.output.trans h.output, Nat.le_trans h.size hb.size, fun b hb' n1 n2 n3 => (hb.block b (by omega)).trans (h.block b hb' n1 n2 n3)⟩
theorem Off3.off2 {w w1 w2 : World} {x y z : Nat} (h : Off3 w w1 x y z) (hb : Off2 w1 w2 y z) : Off3 w w2 x y z :=
  ⟨hb.os.trans h.os, hb.tape.trans h.tape, hb.output.trans h.output, Nat.le_trans h.size hb.size, fun b hb' n1 n2 n3 => (hb.block b (by have := h.size; omega) n2 n3).trans (h.block b hb' n1 n2 n3)⟩
theorem Off3.grown {w w1 w2 : World} {x y z : Nat} (h : Off3 w w1 x y z) (hb : w1.grownBy w2 (some x)) : Off3 w w2 x y z :=
  ⟨hb.os.trans h.os, hb.tape.trans h.tape, hb.output.trans h.output, Nat.le_trans h.size hb.size, fun b hb' n1 n2 n3 => (hb.block b (by have := h.size; omega) (by simpa using n1)).trans (h.block b hb' n1 n2 n3)⟩
theorem Off3.under {w0 w w1 : World} {x y z : Nat} (h : Off3 w w1 x y z) (h0 : Below w0.heap.size w0 w) (hx : w0.heap.size ≤ x) (hy : w0.heap.size ≤ y) (hz : w0.heap.size ≤ z) : Below w0.heap.size w0 w1 :=
  ⟨h.os.trans h0.os, h.tape.trans h0.tape, h.output.trans h0.output, Nat.le_trans h0.size h.size, fun b hb => (h.block b (by have := h0.size; omega) (by omega) (by omega) (by omega)).trans (h0.block b hb)⟩
/-- What lies around a way: the costs, the fitting's variable, its three lists. -/
structure AL (w0 w wr : World) (e : Option Addr) (n ce FT PU PV : Nat) (C : List (List Int)) (ft us vs : List Int) : Prop where
  c0 : CRow w0 e C
  b0 : Below w0.heap.size w0 w
  off : Off3 w wr FT PU PV
  lt : w.heap.size < wr.heap.size
  f0 : wr.cell? ⟨w.heap.size, 0, none⟩ = some (.slice e n ce)
  f1 : wr.cell? ⟨w.heap.size, 1, none⟩ = some (.slice (some ⟨FT, 0, none⟩) n n)
  f2 : wr.cell? ⟨w.heap.size, 2, none⟩ = some (.slice (some ⟨PU, 0, none⟩) n n)
  f3 : wr.cell? ⟨w.heap.size, 3, none⟩ = some (.slice (some ⟨PV, 0, none⟩) n n)
  ft : wr.ownsRow w0.heap.size 3 1 (.slice (some ⟨FT, 0, none⟩) n n) n (ints ft)
  pu : wr.ownsRow w0.heap.size 3 1 (.slice (some ⟨PU, 0, none⟩) n n) n (ints us)
  pv : wr.ownsRow w0.heap.size 3 1 (.slice (some ⟨PV, 0, none⟩) n n) n (ints vs)
  n1 : FT ≠ PU
  n2 : FT ≠ PV
  n3 : PU ≠ PV
  l1 : FT < w.heap.size
  l2 : PU < w.heap.size
  l3 : PV < w.heap.size
theorem AL.c {w0 w wr : World} {e : Option Addr} {n ce FT PU PV : Nat} {C : List (List Int)} {ft us vs : List Int} (h : AL w0 w wr e n ce FT PU PV C ft us vs) : CRow wr e C :=
  h.c0.below (h.off.under h.b0 (h.ft.lt FT rfl).1 (h.pu.lt PU rfl).1 (h.pv.lt PV rfl).1)
theorem AL.blw {w0 w wr w2 : World} {e : Option Addr} {n ce FT PU PV k : Nat} {C : List (List Int)} {ft us vs : List Int} (h : AL w0 w wr e n ce FT PU PV C ft us vs) (hb : Below k wr w2) (hk : w.heap.size + 1 ≤ k) : AL w0 w w2 e n ce FT PU PV C ft us vs where
  c0 := h.c0
  b0 := h.b0
  off := h.off.below hb (by omega)
  lt := Nat.lt_of_lt_of_le h.lt hb.size
  f0 := (hb.cell (p := ⟨w.heap.size, 0, none⟩) (by show w.heap.size < k; omega)).trans h.f0
  f1 := (hb.cell (p := ⟨w.heap.size, 1, none⟩) (by show w.heap.size < k; omega)).trans h.f1
  f2 := (hb.cell (p := ⟨w.heap.size, 2, none⟩) (by show w.heap.size < k; omega)).trans h.f2
  f3 := (hb.cell (p := ⟨w.heap.size, 3, none⟩) (by show w.heap.size < k; omega)).trans h.f3
  ft := own_blk h.ft fun g hg => by simp [Value.ownBlock] at hg; subst hg; exact hb.block _ (by have := h.l1; omega)
  pu := own_blk h.pu fun g hg => by simp [Value.ownBlock] at hg; subst hg; exact hb.block _ (by have := h.l2; omega)
  pv := own_blk h.pv fun g hg => by simp [Value.ownBlock] at hg; subst hg; exact hb.block _ (by have := h.l3; omega)
  n1 := h.n1
  n2 := h.n2
  n3 := h.n3
  l1 := h.l1
  l2 := h.l2
  l3 := h.l3
theorem AL.shift {w0 w wr w2 : World} {e : Option Addr} {n ce FT PU PV : Nat} {C : List (List Int)} {ft us vs us' vs' : List Int} (h : AL w0 w wr e n ce FT PU PV C ft us vs) (hb : Off2 wr w2 PU PV) (hu : w2.ownsRow w0.heap.size 3 1 (.slice (some ⟨PU, 0, none⟩) n n) n (ints us')) (hv : w2.ownsRow w0.heap.size 3 1 (.slice (some ⟨PV, 0, none⟩) n n) n (ints vs')) : AL w0 w w2 e n ce FT PU PV C ft us' vs' where
  c0 := h.c0
  b0 := h.b0
  off := h.off.off2 hb
  lt := Nat.lt_of_lt_of_le h.lt hb.size
  f0 := (hb.cell h.lt (by have := h.l2; omega) (by have := h.l3; omega)).trans h.f0
  f1 := (hb.cell h.lt (by have := h.l2; omega) (by have := h.l3; omega)).trans h.f1
  f2 := (hb.cell h.lt (by have := h.l2; omega) (by have := h.l3; omega)).trans h.f2
  f3 := (hb.cell h.lt (by have := h.l2; omega) (by have := h.l3; omega)).trans h.f3
  ft := own_blk h.ft fun g hg => by simp [Value.ownBlock] at hg; subst hg; exact hb.block _ (by have := h.l1; have := h.lt; omega) h.n1 h.n2
  pu := hu
  pv := hv
  n1 := h.n1
  n2 := h.n2
  n3 := h.n3
  l1 := h.l1
  l2 := h.l2
  l3 := h.l3
theorem Sr.off2 {w w' : World} {base b x y : Nat} {v0 v1 v2 : Value} {ls gn lf xs ys : List Int} (h : Sr w base b v0 v1 v2 ls gn lf xs ys) (hb : Off2 w w' x y) (hx : x < base) (hy : y < base) : Sr w' base b v0 v1 v2 ls gn lf xs ys :=
  ⟨h.sv.keep hb.size (hb.block b h.sv.lt (by have := h.bb; omega) (by have := h.bb; omega)), own_blk h.o0 fun g hg => hb.block g (h.o0.lt g hg).2 (by have := (h.o0.lt g hg).1; omega) (by have := (h.o0.lt g hg).1; omega), own_blk h.o1 fun g hg => hb.block g (h.o1.lt g hg).2 (by have := (h.o1.lt g hg).1; omega) (by have := (h.o1.lt g hg).1; omega), own_blk h.o2 fun g hg => hb.block g (h.o2.lt g hg).2 (by have := (h.o2.lt g hg).1; omega) (by have := (h.o2.lt g hg).1; omega), h.bb, h.d0, h.d1, h.d2, h.d01, h.d02, h.d12⟩
theorem own_apart {w : World} {base n c m x : Nat} {a : Option Addr} {xs : List Value} (h : w.ownsRow base 3 1 (.slice a n c) m xs) (hx : x < base) : ∀ b o, a = some ⟨b, o, none⟩ → b ≠ x := by
  rintro b o rfl e
  have := (h.lt b rfl).1
  omega
end Go.Proofs.Ytcniegaogdggaaa
