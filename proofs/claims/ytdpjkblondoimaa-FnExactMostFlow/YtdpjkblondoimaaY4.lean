/-
  In one: F, Sk, Op, Qo, Jm10.
-/
import Derived.Test.YtdpjkblondoimaaY3
import Derived.Deep.RegionHeld3
import Derived.Test.YtdpjkblondoimaaY1
import Derived.ChangeSlices
import Derived.ProofKit
import Derived.OpenShut
import Derived.ChangeOld
import Derived.Below
import Derived.Deep.SlicePairs
import Derived.Test.YtdpjkblondoimaaY2
import Derived.Deep.Matrix
namespace Go.Proofs.Ytdpjkblondoimaa
open Go.RowKit


theorem lt_of_some {W : World} {b o : Nat} (h : (W.cell? ⟨b, o, none⟩).isSome = true) : b < W.heap.size := by
  apply Nat.lt_of_not_le
  intro hle
  have : W.heap[b]? = none := by simp; omega
  simp [World.cell?, this] at h
theorem bsome {W w1 : World} (hb : Below W.heap.size W w1) : (∀ b o, (W.cell? ⟨b, o, none⟩).isSome = true → w1.cell? ⟨b, o, none⟩ = W.cell? ⟨b, o, none⟩) ∧ (∀ b o, (W.cell? ⟨b, o, none⟩).isSome = true → w1.frozen? ⟨b, o, none⟩ = W.frozen? ⟨b, o, none⟩) :=
  ⟨fun b o h => hb.cell (p := ⟨b, o, none⟩) (lt_of_some h), fun b o h => hb.frozen (p := ⟨b, o, none⟩) (lt_of_some h)⟩
theorem new_var {W w1 : World} (hb : Below W.heap.size W w1) (b : Nat) (v0 v1 : Value) (h0 : W.cell? ⟨b, 0, none⟩ = some v0) (h1 : W.cell? ⟨b, 1, none⟩ = some v1) (h2 : W.frozen? ⟨b, 0, none⟩ = false) (h3 : W.frozen? ⟨b, 1, none⟩ = false) :
    w1.cell? ⟨b, 0, none⟩ = some v0 ∧ w1.cell? ⟨b, 1, none⟩ = some v1 ∧ w1.frozen? ⟨b, 0, none⟩ = false ∧ w1.frozen? ⟨b, 1, none⟩ = false := by
  obtain ⟨hc, hf⟩ := bsome hb
  exact ⟨(hc _ _ (by rw [h0]; rfl)).trans h0, (hc _ _ (by rw [h1]; rfl)).trans h1, (hf _ _ (by rw [h0]; rfl)).trans h2, (hf _ _ (by rw [h1]; rfl)).trans h3⟩
theorem new_first {w w1 : World} {a b : Obj} {v0 v1 : Value} {t : TypeId} (hb : Below (((w.alloc a).alloc b).alloc (.cells #[v0, v1] t)).drew.heap.size (((w.alloc a).alloc b).alloc (.cells #[v0, v1] t)).drew w1) :
    w1.cell? ⟨w.heap.size + 1 + 1, 0, none⟩ = some v0 ∧ w1.cell? ⟨w.heap.size + 1 + 1, 1, none⟩ = some v1 ∧ w1.frozen? ⟨w.heap.size + 1 + 1, 0, none⟩ = false ∧ w1.frozen? ⟨w.heap.size + 1 + 1, 1, none⟩ = false :=
  new_var hb _ v0 v1 (by simp [go_sem]) (by simp [go_sem]) (by simp [go_sem]) (by simp [go_sem])
theorem last_cell {W w1 : World} (hb : Below W.heap.size W w1) (o : Nat) : (W.cell? ⟨W.heap.size - 1, o, none⟩).isSome = true → w1.cell? ⟨W.heap.size - 1, o, none⟩ = W.cell? ⟨W.heap.size - 1, o, none⟩ := (bsome hb).1 _ _
theorem last_frozen {W w1 : World} (hb : Below W.heap.size W w1) (o : Nat) : (W.cell? ⟨W.heap.size - 1, o, none⟩).isSome = true → w1.frozen? ⟨W.heap.size - 1, o, none⟩ = W.frozen? ⟨W.heap.size - 1, o, none⟩ := (bsome hb).2 _ _
theorem set1 {W : World} {b i : Nat} {x : Value} (h : (W.cell? ⟨b, i, none⟩).isSome = true) : (W.setCell ⟨b, i, none⟩ x).cell? ⟨b, i, none⟩ = some x := by
  obtain ⟨v, hv⟩ := Option.isSome_iff_exists.1 h
  exact World.cell?_setCell_same _ _ _ hv
theorem set2 {W : World} {b : Nat} {x y : Value} (h0 : (W.cell? ⟨b, 0, none⟩).isSome = true) (h1 : (W.cell? ⟨b, 1, none⟩).isSome = true) :
    ((W.setCell ⟨b, 0, none⟩ x).setCell ⟨b, 1, none⟩ y).cell? ⟨b, 0, none⟩ = some x ∧ ((W.setCell ⟨b, 0, none⟩ x).setCell ⟨b, 1, none⟩ y).cell? ⟨b, 1, none⟩ = some y ∧ b < ((W.setCell ⟨b, 0, none⟩ x).setCell ⟨b, 1, none⟩ y).heap.size := by
  refine ⟨?_, ?_, ?_⟩
  · rw [World.cell?_setCell_other _ _ _ _ (by simp)]; exact set1 h0
  · exact set1 (by rw [World.cell?_setCell_other _ _ _ _ (by simp)]; exact h1)
  · simpa using lt_of_some h0
theorem held_below {w w1 w2 : World} {n1 d1 n2 d2 : Int}
    (s : w1.cell? ⟨w.heap.size, 0, none⟩ = some (.int .i64 n1) ∧ w1.cell? ⟨w.heap.size, 1, none⟩ = some (.int .i64 d1) ∧ w1.cell? ⟨w.heap.size + 1, 0, none⟩ = some (.int .i64 n2) ∧ w1.cell? ⟨w.heap.size + 1, 1, none⟩ = some (.int .i64 d2) ∧ Below w.heap.size w w1 ∧ w.heap.size + 1 < w1.heap.size)
    (hb : Below w1.heap.size w1 w2) :
    w2.cell? ⟨w.heap.size, 0, none⟩ = some (.int .i64 n1) ∧ w2.cell? ⟨w.heap.size, 1, none⟩ = some (.int .i64 d1) ∧ w2.cell? ⟨w.heap.size + 1, 0, none⟩ = some (.int .i64 n2) ∧ w2.cell? ⟨w.heap.size + 1, 1, none⟩ = some (.int .i64 d2) ∧ Below w.heap.size w w2 ∧ w.heap.size + 1 < w2.heap.size := by
  obtain ⟨s0, s1, s2, s3, s4, s5⟩ := s
  obtain ⟨hc, _⟩ := bcell hb
  exact ⟨(hc _ _ (by omega)).trans s0, (hc _ _ (by omega)).trans s1, (hc _ _ s5).trans s2, (hc _ _ s5).trans s3, s4.trans (hb.mono (by omega)), Nat.lt_of_lt_of_le s5 hb.size⟩
theorem below_alloc_drew (w : World) (o : Obj) : Below w.drew.heap.size w.drew (w.alloc o).drew := (Below.refl _ w.drew).alloc (Nat.le_refl _) o
theorem below_alloc (w : World) (o : Obj) : Below w.heap.size w (w.alloc o) := (Below.refl _ _).alloc (Nat.le_refl _) o
theorem held_start (w : World) (n1 d1 n2 d2 : Int) (t : TypeId) :
    ((w.alloc (.cells #[.int .i64 n1, .int .i64 d1] t)).alloc (.cells #[.int .i64 n2, .int .i64 d2] t)).cell? ⟨w.heap.size, 0, none⟩ = some (.int .i64 n1) ∧ ((w.alloc (.cells #[.int .i64 n1, .int .i64 d1] t)).alloc (.cells #[.int .i64 n2, .int .i64 d2] t)).cell? ⟨w.heap.size, 1, none⟩ = some (.int .i64 d1) ∧ ((w.alloc (.cells #[.int .i64 n1, .int .i64 d1] t)).alloc (.cells #[.int .i64 n2, .int .i64 d2] t)).cell? ⟨w.heap.size + 1, 0, none⟩ = some (.int .i64 n2) ∧ ((w.alloc (.cells #[.int .i64 n1, .int .i64 d1] t)).alloc (.cells #[.int .i64 n2, .int .i64 d2] t)).cell? ⟨w.heap.size + 1, 1, none⟩ = some (.int .i64 d2) ∧ Below w.heap.size w ((w.alloc (.cells #[.int .i64 n1, .int .i64 d1] t)).alloc (.cells #[.int .i64 n2, .int .i64 d2] t)) ∧ w.heap.size + 1 < ((w.alloc (.cells #[.int .i64 n1, .int .i64 d1] t)).alloc (.cells #[.int .i64 n2, .int .i64 d2] t)).heap.size :=
  ⟨by simp, by simp, by simp, by simp, ((Below.refl _ _).alloc (Nat.le_refl _) _).alloc (by simp) _, by simp⟩
theorem held_alloc {w w1 : World} {n1 d1 n2 d2 : Int} {o : Obj}
    (s : w1.cell? ⟨w.heap.size, 0, none⟩ = some (.int .i64 n1) ∧ w1.cell? ⟨w.heap.size, 1, none⟩ = some (.int .i64 d1) ∧ w1.cell? ⟨w.heap.size + 1, 0, none⟩ = some (.int .i64 n2) ∧ w1.cell? ⟨w.heap.size + 1, 1, none⟩ = some (.int .i64 d2) ∧ Below w.heap.size w w1 ∧ w.heap.size + 1 < w1.heap.size) :
    (w1.alloc o).cell? ⟨w.heap.size, 0, none⟩ = some (.int .i64 n1) ∧ (w1.alloc o).cell? ⟨w.heap.size, 1, none⟩ = some (.int .i64 d1) ∧ (w1.alloc o).cell? ⟨w.heap.size + 1, 0, none⟩ = some (.int .i64 n2) ∧ (w1.alloc o).cell? ⟨w.heap.size + 1, 1, none⟩ = some (.int .i64 d2) ∧ Below w.heap.size w (w1.alloc o) ∧ w.heap.size + 1 < (w1.alloc o).heap.size := held_below s (below_alloc _ _)
theorem held_drew {w w1 : World} {n1 d1 n2 d2 : Int}
    (s : w1.cell? ⟨w.heap.size, 0, none⟩ = some (.int .i64 n1) ∧ w1.cell? ⟨w.heap.size, 1, none⟩ = some (.int .i64 d1) ∧ w1.cell? ⟨w.heap.size + 1, 0, none⟩ = some (.int .i64 n2) ∧ w1.cell? ⟨w.heap.size + 1, 1, none⟩ = some (.int .i64 d2) ∧ Below w.heap.size w w1 ∧ w.heap.size + 1 < w1.heap.size) :
    w1.drew.cell? ⟨w.heap.size, 0, none⟩ = some (.int .i64 n1) ∧ w1.drew.cell? ⟨w.heap.size, 1, none⟩ = some (.int .i64 d1) ∧ w1.drew.cell? ⟨w.heap.size + 1, 0, none⟩ = some (.int .i64 n2) ∧ w1.drew.cell? ⟨w.heap.size + 1, 1, none⟩ = some (.int .i64 d2) ∧ Below w.heap.size w w1.drew ∧ w.heap.size + 1 < w1.drew.heap.size := held_below s ((Below.refl _ _).drew)
theorem held_set {w w1 : World} {n1 d1 n2 d2 : Int} {b i : Nat} {v : Value}
    (s : w1.cell? ⟨w.heap.size, 0, none⟩ = some (.int .i64 n1) ∧ w1.cell? ⟨w.heap.size, 1, none⟩ = some (.int .i64 d1) ∧ w1.cell? ⟨w.heap.size + 1, 0, none⟩ = some (.int .i64 n2) ∧ w1.cell? ⟨w.heap.size + 1, 1, none⟩ = some (.int .i64 d2) ∧ Below w.heap.size w w1 ∧ w.heap.size + 1 < w1.heap.size)
    (hb : w.heap.size + 1 < b) :
    (w1.setCell ⟨b, i, none⟩ v).cell? ⟨w.heap.size, 0, none⟩ = some (.int .i64 n1) ∧ (w1.setCell ⟨b, i, none⟩ v).cell? ⟨w.heap.size, 1, none⟩ = some (.int .i64 d1) ∧ (w1.setCell ⟨b, i, none⟩ v).cell? ⟨w.heap.size + 1, 0, none⟩ = some (.int .i64 n2) ∧ (w1.setCell ⟨b, i, none⟩ v).cell? ⟨w.heap.size + 1, 1, none⟩ = some (.int .i64 d2) ∧ Below w.heap.size w (w1.setCell ⟨b, i, none⟩ v) ∧ w.heap.size + 1 < (w1.setCell ⟨b, i, none⟩ v).heap.size := by
  obtain ⟨s0, s1, s2, s3, s4, s5⟩ := s
  have hb' : Below b w1 (w1.setCell ⟨b, i, none⟩ v) := (Below.refl b w1).setCell (p := ⟨b, i, none⟩) (Nat.le_refl b) v
  exact ⟨(hb'.cell (p := ⟨_, _, none⟩) (by show w.heap.size < b; omega)).trans s0, (hb'.cell (p := ⟨_, _, none⟩) (by show w.heap.size < b; omega)).trans s1, (hb'.cell (p := ⟨_, _, none⟩) hb).trans s2, (hb'.cell (p := ⟨_, _, none⟩) hb).trans s3, s4.setCell (by show w.heap.size ≤ b; omega) v, by simpa using s5⟩
theorem held2_below {w wc w1 w2 : World} {n1 d1 n2 d2 RN RD : Int} {b : Nat}
    (s : w1.cell? ⟨w.heap.size, 0, none⟩ = some (.int .i64 n1) ∧ w1.cell? ⟨w.heap.size, 1, none⟩ = some (.int .i64 d1) ∧ w1.cell? ⟨w.heap.size + 1, 0, none⟩ = some (.int .i64 n2) ∧ w1.cell? ⟨w.heap.size + 1, 1, none⟩ = some (.int .i64 d2) ∧ w1.cell? ⟨b, 0, none⟩ = some (.int .i64 RN) ∧ w1.cell? ⟨b, 1, none⟩ = some (.int .i64 RD) ∧ Below w.heap.size w w1 ∧ w.heap.size + 1 < w1.heap.size ∧ wc.heap.size ≤ w1.heap.size ∧ b < wc.heap.size)
    (hb : Below w1.heap.size w1 w2) :
    w2.cell? ⟨w.heap.size, 0, none⟩ = some (.int .i64 n1) ∧ w2.cell? ⟨w.heap.size, 1, none⟩ = some (.int .i64 d1) ∧ w2.cell? ⟨w.heap.size + 1, 0, none⟩ = some (.int .i64 n2) ∧ w2.cell? ⟨w.heap.size + 1, 1, none⟩ = some (.int .i64 d2) ∧ w2.cell? ⟨b, 0, none⟩ = some (.int .i64 RN) ∧ w2.cell? ⟨b, 1, none⟩ = some (.int .i64 RD) ∧ Below w.heap.size w w2 ∧ w.heap.size + 1 < w2.heap.size ∧ wc.heap.size ≤ w2.heap.size ∧ b < wc.heap.size := by
  obtain ⟨s0, s1, s2, s3, s4, s5, s6, s7, s8, s9⟩ := s
  obtain ⟨hc, _⟩ := bcell hb
  exact ⟨(hc _ _ (by omega)).trans s0, (hc _ _ (by omega)).trans s1, (hc _ _ s7).trans s2, (hc _ _ s7).trans s3, (hc _ _ (by omega)).trans s4, (hc _ _ (by omega)).trans s5, s6.trans (hb.mono (by omega)), Nat.lt_of_lt_of_le s7 hb.size, Nat.le_trans s8 hb.size, s9⟩
theorem held2_set {w wc w1 : World} {n1 d1 n2 d2 RN RD : Int} {b c i : Nat} {v : Value}
    (s : w1.cell? ⟨w.heap.size, 0, none⟩ = some (.int .i64 n1) ∧ w1.cell? ⟨w.heap.size, 1, none⟩ = some (.int .i64 d1) ∧ w1.cell? ⟨w.heap.size + 1, 0, none⟩ = some (.int .i64 n2) ∧ w1.cell? ⟨w.heap.size + 1, 1, none⟩ = some (.int .i64 d2) ∧ w1.cell? ⟨b, 0, none⟩ = some (.int .i64 RN) ∧ w1.cell? ⟨b, 1, none⟩ = some (.int .i64 RD) ∧ Below w.heap.size w w1 ∧ w.heap.size + 1 < w1.heap.size ∧ wc.heap.size ≤ w1.heap.size ∧ b < wc.heap.size)
    (hx : w.heap.size + 1 < c) (hy : wc.heap.size ≤ c) :
    (w1.setCell ⟨c, i, none⟩ v).cell? ⟨w.heap.size, 0, none⟩ = some (.int .i64 n1) ∧ (w1.setCell ⟨c, i, none⟩ v).cell? ⟨w.heap.size, 1, none⟩ = some (.int .i64 d1) ∧ (w1.setCell ⟨c, i, none⟩ v).cell? ⟨w.heap.size + 1, 0, none⟩ = some (.int .i64 n2) ∧ (w1.setCell ⟨c, i, none⟩ v).cell? ⟨w.heap.size + 1, 1, none⟩ = some (.int .i64 d2) ∧ (w1.setCell ⟨c, i, none⟩ v).cell? ⟨b, 0, none⟩ = some (.int .i64 RN) ∧ (w1.setCell ⟨c, i, none⟩ v).cell? ⟨b, 1, none⟩ = some (.int .i64 RD) ∧ Below w.heap.size w (w1.setCell ⟨c, i, none⟩ v) ∧ w.heap.size + 1 < (w1.setCell ⟨c, i, none⟩ v).heap.size ∧ wc.heap.size ≤ (w1.setCell ⟨c, i, none⟩ v).heap.size ∧ b < wc.heap.size := by
  obtain ⟨s0, s1, s2, s3, s4, s5, s6, s7, s8, s9⟩ := s
  have hb' : Below c w1 (w1.setCell ⟨c, i, none⟩ v) := (Below.refl c w1).setCell (p := ⟨c, i, none⟩) (Nat.le_refl c) v
  have hc : ∀ x o, x < c → (w1.setCell ⟨c, i, none⟩ v).cell? ⟨x, o, none⟩ = w1.cell? ⟨x, o, none⟩ := fun x o h => hb'.cell (p := ⟨x, o, none⟩) h
  exact ⟨(hc _ _ (by omega)).trans s0, (hc _ _ (by omega)).trans s1, (hc _ _ (by omega)).trans s2, (hc _ _ (by omega)).trans s3, (hc _ _ (by omega)).trans s4, (hc _ _ (by omega)).trans s5, s6.setCell (by show w.heap.size ≤ c; omega) v, by simpa using s7, by simpa using s8, s9⟩
end Go.Proofs.Ytdpjkblondoimaa
namespace Go.Proofs.Ytdpjkblondoimaa
open Go.RowKit

def Car (w0 w : World) (a b : Option Addr) (xs ys : List Int) : Prop := ARow w a xs ∧ ARow w b ys ∧ Below w0.heap.size w0 w
theorem Car.step {w0 w w' : World} {a b : Option Addr} {xs ys : List Int} (h : Car w0 w a b xs ys) (hb : Below w.heap.size w w') : Car w0 w' a b xs ys :=
  ⟨h.1.below hb, h.2.1.below hb, h.2.2.trans (hb.mono h.2.2.size)⟩
theorem Car.alloc {w0 w : World} {a b : Option Addr} {xs ys : List Int} (h : Car w0 w a b xs ys) (o : Obj) : Car w0 (w.alloc o) a b xs ys := h.step (below_alloc _ _)
theorem toI_a {a : Option Addr} {n : Nat} {xs : List Int} {w : World} (c : Nat) (hx : Hid (xs.length = n)) (hn : n ≤ 1048576) (ha : ARow w a xs) :
    Calls Try.prog 28 #[.slice a n c] w fun e w' => e = .returned (.slice (some ⟨w.heap.size, 0, none⟩) n n) ∧ Below w.heap.size w w' ∧ ARow w' (some ⟨w.heap.size, 0, none⟩) xs :=
  (toI_own a c n xs w hx.out hn ha).mono fun _ _ ⟨h1, h2, _, h4⟩ => ⟨h1, h2, arow_owns hx.out.symm h4⟩
end Go.Proofs.Ytdpjkblondoimaa
namespace Go.Proofs.Ytdpjkblondoimaa
open Go.ChangeShapes Go.WideShapes Go.ChangeAt Go.RowKit Go.Deep

theorem laidOut' : laidOutB Try.prog = true := by kernel_rfl

set_option maxRecDepth 100000 in
theorem opened_ints {H : Type} {enc : TypeId × Value → H} {W : World} {fuel : Nat} {c : Value} {x : DataW H × List MemPlace} {sp : Nat → Bool}
    (hf : DataW.trod enc Try.prog W 0 sp true fuel 33 [c] = some x) : ∃ (a : Option Addr) (xs : List Int) (cap : Nat), c = .slice a xs.length cap ∧ xs.length ≤ maxLen ∧ ARow W a xs := by
  rcases open_ints Try.underlying33 Try.underlying3 (by kernel_rfl) hf with ⟨hcs, _⟩ | ⟨a, len, cap, zs, hcs, _, hl, hcap, hzl, _, hcell, _⟩
  · simp at hcs
    subst hcs
    exact ⟨none, [], 0, rfl, by simp, Or.inl rfl⟩
  · simp at hcs
    subst hcs
    have hlm : len ≤ zs.length := by rw [hzl]; split <;> omega
    refine ⟨some a, zs.take len, cap, by simp [hlm], by simp [hlm]; omega, ?_⟩
    by_cases h : len = 0
    · left; subst h; rfl
    · right
      obtain ⟨b, off, spot⟩ := a
      have hc := hcell 0 (by omega)
      have hspot : spot = none := by simpa [Addr.add] using World.cell?_spot hc
      subst hspot
      refine ⟨b, off, rfl, World.block_lt_of_cell? W _ hc, ?_⟩
      intro i hi
      simp [hlm] at hi
      have hci := hcell i (by omega)
      rw [add_plain] at hci
      rw [hci]
      simp [hi]

set_option maxRecDepth 100000 in
theorem opened_slice {H : Type} {enc : TypeId × Value → H} {W : World} {base : Nat} {v : Value} {x : DataW H} {p : List MemPlace} {sp : Nat → Bool} (hv : Value.okWide Try.prog W .any base 33 v)
    (h0 : DataW.Trod enc Try.prog W 0 sp true 33 v x p) : ∃ (a : Option Addr) (xs : List Int) (c : Nat), v = .slice a xs.length c ∧ xs.length ≤ maxLen ∧ ARow W a xs := by
  obtain ⟨a0, len0, cap0, rfl⟩ := okWide_slice Try.underlying33 hv
  obtain ⟨fuel, hf⟩ := h0
  exact opened_ints hf
theorem cellsS : Try.prog.cellsOf 33 = 1 := by kernel_rfl
end Go.Proofs.Ytdpjkblondoimaa
namespace Go.Proofs.Ytdpjkblondoimaa
open Go.ChangeShapes Go.WideShapes Go.ChangeAt Go.RowKit Go.Deep

theorem cellsCs : Try.prog.cellsOf 33 = 1 := by kernel_rfl
theorem cellsC1 : Try.prog.cellsOf 3 = 1 := by kernel_rfl
set_option maxRecDepth 100000 in
theorem opened_costs {H : Type} {enc : TypeId × Value → H} {W : World} {base : Nat} {v : Value} {x : DataW H} {p : List MemPlace} (hv : Value.okWide Try.prog W .any base 22 v)
    (h0 : DataW.Trod enc Try.prog W 0 (fun _ => true) true 22 v x p) : ∃ (a : Option Addr) (F : List (List Int)) (c : Nat), v = .slice a F.length c ∧ F.length ≤ maxLen ∧ CFits F ∧ CRow W a F := by
  obtain ⟨a0, len0, cap0, rfl⟩ := okWide_slice Try.underlying22 hv
  obtain ⟨fuel, hf⟩ := h0
  rcases open_int_rows Try.underlying22 Try.underlying33 Try.underlying3 cellsCs cellsC1 hf with ⟨hcs, _⟩ | ⟨a, len, cap, A, L, C, B, hcs, _, hl, hcap, _, hx⟩
  · simp [Value.cells] at hcs
    obtain ⟨rfl, rfl, rfl⟩ := hcs
    exact ⟨none, [], 0, rfl, Nat.zero_le _, fun i => by simp, Or.inl rfl⟩
  · simp [Value.cells] at hcs
    obtain ⟨rfl, rfl, rfl⟩ := hcs
    have hget : ∀ i, i < len0 → ((List.range len0).map fun i => (List.range (L i)).map (fun j => (B i).getD j 0)).getD i [] = (List.range (L i)).map (fun j => (B i).getD j 0) := fun i hi => by simp [hi]
    have hlen : ∀ i, i < len0 → (((List.range len0).map fun i => (List.range (L i)).map (fun j => (B i).getD j 0)).getD i []).length = L i := fun i hi => by rw [hget i hi]; simp
    refine ⟨some a, (List.range len0).map fun i => (List.range (L i)).map (fun j => (B i).getD j 0), cap0, by simp, by simp; omega, fun i => ?_, ?_⟩
    · by_cases hi : i < len0
      · rw [hlen i hi]; have := hx i (by omega); omega
      · simp [show len0 ≤ i by omega]
    · by_cases h : len0 = 0
      · left; subst h; rfl
      · right
        obtain ⟨b, off, spot⟩ := a
        have hc := (hx 0 (by omega)).1
        have hspot : spot = none := by simpa [Addr.add] using World.cell?_spot hc
        subst hspot
        refine ⟨b, off, rfl, World.block_lt_of_cell? W _ hc, ?_⟩
        intro i hi
        simp at hi
        obtain ⟨c0, hLC, hCm, _, _, hnone, hsome⟩ := hx i (by omega)
        rw [add_plain] at c0
        rw [hlen i hi, hget i hi]
        refine ⟨A i, C i, c0, ?_⟩
        by_cases hL : L i = 0
        · left; rw [hL]; rfl
        · right
          obtain ⟨a', ha'⟩ : ∃ a', A i = some a' := by
            cases e : A i with
            | none => have := hnone e; omega
            | some a' => exact ⟨a', rfl⟩
          obtain ⟨_, hcell⟩ := hsome a' ha'
          obtain ⟨b', off', spot'⟩ := a'
          have hc' := hcell 0 (by omega)
          have hspot' : spot' = none := by simpa [Addr.add] using World.cell?_spot hc'
          subst hspot'
          refine ⟨b', off', ha', World.block_lt_of_cell? W _ hc', fun j hj => ?_⟩
          simp at hj
          have := hcell j (by omega)
          rw [add_plain] at this
          rw [this]
          simp [hj]
end Go.Proofs.Ytdpjkblondoimaa
namespace Go.Proofs.Ytdpjkblondoimaa
open Go.RowKit

/-- A list that a call made, from lo on and below hi. -/
def AV (w : World) (lo hi : Nat) (v : Value) (n : Nat) (xs : List Int) : Prop := w.ownsRow lo 3 1 v n (ints xs) ∧ (∀ g, v.ownBlock = some g → g < hi) ∧ hi ≤ w.heap.size
theorem AV.new {w : World} {lo n : Nat} {v : Value} {xs : List Int} (h : w.ownsRow lo 3 1 v n (ints xs)) : AV w lo w.heap.size v n xs := ⟨h, fun g hg => (h.lt g hg).2, Nat.le_refl _⟩
theorem AV.below {w w' : World} {lo hi n : Nat} {v : Value} {xs : List Int} (h : AV w lo hi v n xs) (hb : Below w.heap.size w w') : AV w' lo hi v n xs := ⟨own_below h.1 hb, h.2.1, Nat.le_trans h.2.2 hb.size⟩
theorem AV.rng {w w' : World} {lo hi n a b : Nat} {v : Value} {xs : List Int} (h : AV w lo hi v n xs) (hr : Rng a b w w') (hd : hi ≤ a ∨ b ≤ lo) : AV w' lo hi v n xs :=
  ⟨own_keep h.1 fun g hg hl => hr.2.2.2.2 g hl (by have := h.1.lt g hg; have := h.2.1 g hg; omega), h.2.1, Nat.le_trans h.2.2 hr.2.2.2.1⟩
theorem AV.grown {w w' : World} {lo hi n lo' hi' n' : Nat} {v v' : Value} {xs ys : List Int} (h : AV w lo hi v n xs) (h' : AV w lo' hi' v' n' ys) (hg : w.grownBy w' v'.ownBlock) (hd : hi ≤ lo' ∨ v.ownBlock = none ∨ v.ownBlock ≠ v'.ownBlock) : AV w' lo hi v n xs := by
  refine ⟨own_keep h.1 fun g hv hl => hg.block g hl fun e => ?_, h.2.1, Nat.le_trans h.2.2 hg.size⟩
  have h1 := h'.1.lt g e.symm
  have h2 := h.2.1 g hv
  rcases hd with hd | hd | hd
  · omega
  · rw [hd] at hv; cases hv
  · exact hd (hv.trans e)
theorem AV.under {w w' : World} {lo hi n k : Nat} {v : Value} {xs : List Int} (h : AV w lo hi v n xs) (hg : w.grownBy w' v.ownBlock) (hk : k ≤ lo) (hs : k ≤ w.heap.size) : Below k w w' := grown_under hg h.1 hk hs
/-- What is held from k on, in a list that lies from lo on and below hi. -/
def HV (w : World) (v : Value) (n : Nat) (k : Int) : Prop := HeldV w v n k
theorem HV.below {w w' : World} {v : Value} {n : Nat} {k : Int} (h : HV w v n k) (hb : Below w.heap.size w w') : HV w' v n k := HeldV.below h hb
theorem HV.grown {w w' : World} {v v' : Value} {n : Nat} {k : Int} (h : HV w v n k) (hg : w.grownBy w' v'.ownBlock) (hd : v.ownBlock = none ∨ v.ownBlock ≠ v'.ownBlock) : HV w' v n k := by
  rcases h with h | ⟨g, cap, rfl, hl, hc⟩
  · exact Or.inl h
  · refine Or.inr ⟨g, cap, rfl, Nat.lt_of_lt_of_le hl hg.size, fun j hj => (World.cell?_of_block (w := w) (a := ⟨g, j, none⟩) (hg.block g hl fun e => ?_)).trans (hc j hj)⟩
    rcases hd with hd | hd
    · cases hd
    · exact hd e
theorem eq_av {w : World} {lo hi lo' hi' n : Nat} {v v' : Value} {xs : List Int} (hx : Hid (xs.length = n)) (hn : n ≤ 1048576) (h : AV w lo hi v n xs) (h' : AV w lo' hi' v' n xs) :
    Calls Try.prog 24 #[v, v'] w fun e w' => e = .returned (.bool true) ∧ Below w.heap.size w w' := eqV_any hx.out hn h.1 h'.1
theorem mark_av {w : World} {lo hi n : Nat} {v : Value} {xs : List Int} {k : Int} (hx : Hid (xs.length = n)) (hn : n ≤ 1048576) (k0 : 0 ≤ k) (k1 : k ≤ 1000000000) (h : AV w lo hi v n xs) :
    Calls Try.prog 25 #[v, .int .i64 k] w fun e w' => e = .returned (.int .i64 (k + n)) ∧ HV w' v n k ∧ w.grownBy w' v.ownBlock := markV_any hx.out hn k0 k1 h.1
theorem held_hv {w : World} {n : Nat} {v : Value} {k : Int} (hn : n ≤ 1048576) (k0 : 0 ≤ k) (k1 : k ≤ 1000000000) (h : HV w v n k) :
    Calls Try.prog 26 #[v, .int .i64 k] w fun e w' => e = .returned (.int .i64 (k + n)) ∧ w' = w := heldV_any hn k0 k1 h
end Go.Proofs.Ytdpjkblondoimaa
