/-
  What DoMove answers, the program's and the model's.
-/
import Derived.Test.YtdigcbjkobjdmaaMf10
namespace Go.Proofs.Ytdigcbjkobjdmaa
open Go.RowKit

theorem AV.low {w : World} {lo lo' hi n : Nat} {v : Value} {xs : List Int} (h : AV w lo hi v n xs) (hl : lo' ≤ lo) : AV w lo' hi v n xs := ⟨owns_low h.1 hl, h.2⟩
theorem PBox.grown10 {w w' : World} {B : Nat} {v0 v1 : Value} {q : Option Nat} (h : PBox w B v0 v1) (hg : w.grownBy w' q) (hq : ∀ b, q = some b → B < b) : PBox w' B v0 v1 := by
  have hb : w'.heap[B]? = w.heap[B]? := hg.block B h.2.2 (fun e => by have := hq B e.symm; omega)
  exact ⟨(World.cell?_of_block (w := w) (a := ⟨B, 0, none⟩) hb).trans h.1, (World.cell?_of_block (w := w) (a := ⟨B, 1, none⟩) hb).trans h.2.1, Nat.lt_of_lt_of_le h.2.2 hg.size⟩
theorem frow_one (w : World) (F T : Int) (t : TypeId) : FRow (w.alloc (.cells #[.int .i64 F, .int .i64 T] t)) (some ⟨w.heap.size, 0, none⟩) [(F, T)] := by
  refine Or.inr ⟨w.heap.size, 0, rfl, by simp, fun i hi => ?_⟩
  have : i = 0 := by simp at hi; omega
  subst this
  simp
set_option maxHeartbeats 2000000 in
theorem do_w {a : Option Addr} {n c : Nat} {xs : List Int} {F T : Int} {w : World} (hx : xs.length = n) (hc : n ≤ c) (ha : ARow w a xs) :
    Calls Try.prog 15 #[.slice a n c, .agg #[.int .i64 F, .int .i64 T]] w fun e w' => ∃ v, e = .returned (.tuple #[v, .bool (Mx.dmB xs [(F, T)])]) ∧ Below w.heap.size w w' ∧ AV w' w.heap.size w'.heap.size v (Mx.dmL xs [(F, T)]).length (Mx.dmL xs [(F, T)]) := by
  have bW1 := below_new w (.cells #[.int .i64 F, .int .i64 T] 30)
  have bW2 := below_new (w.alloc (.cells #[.int .i64 F, .int .i64 T] 30)) (.cells #[.int .i64 F, .int .i64 T] 30)
  have hb := bW1.trans (bW2.mono bW1.size)
  have hA2 := ha.below hb
  have hFR := frow_one (w.alloc (.cells #[.int .i64 F, .int .i64 T] 30)) F T 30
  rw [World.size_alloc] at hFR
  have HC := hide (dm_w (m := 1) (d := 1) hx hc hA2 rfl hFR)
  have HB := hide hb
  generalize Mx.dmB xs [(F, T)] = G at *
  generalize Mx.dmL xs [(F, T)] = R at *
  clear bW1 bW2 hb hA2 hFR ha hx
  go_enter Try.func15, Try.ntmps15
  go_wp2_with fail
  refine HC.out.mono ?_
  rintro e w2 ⟨v, rfl, hb2, o2⟩
  have HB2 := hide (HB.out.trans (hb2.mono HB.out.size))
  have HO2 := hide (o2.low HB.out.size)
  clear hb2 o2 HC
  go_wp2_with fail
  go_ret2
  exact ⟨_, rfl, HB2.out, HO2.out⟩
set_option maxHeartbeats 2000000 in
theorem sdo_w {a : Option Addr} {n c : Nat} {xs : List Int} {F T : Int} {w : World} (hx : xs.length = n) (hc : n ≤ c) (ha : ARow w a xs) :
    Calls Try.prog 13 #[.slice a n c, .agg #[.int .i64 F, .int .i64 T]] w fun e w' => ∃ v, e = .returned (.tuple #[v, .bool (Mx.dmB xs [(F, T)])]) ∧ Below w.heap.size w w' ∧ AV w' w.heap.size w'.heap.size v (Mx.dmL xs [(F, T)]).length (Mx.dmL xs [(F, T)]) := by
  have bW1 := below_new w (.cells #[.int .i64 F, .int .i64 T] 30)
  have bW2 := below_new (w.alloc (.cells #[.int .i64 F, .int .i64 T] 30)) (.cells #[.int .i64 F, .int .i64 T] 30)
  have hb := bW1.trans (bW2.mono bW1.size)
  have hA2 := ha.below hb
  have hFR := frow_one (w.alloc (.cells #[.int .i64 F, .int .i64 T] 30)) F T 30
  rw [World.size_alloc] at hFR
  have HC := hide (sdm_w (m := 1) (d := 1) hx hc hA2 rfl hFR)
  have HB := hide hb
  generalize Mx.dmB xs [(F, T)] = G at *
  generalize Mx.dmL xs [(F, T)] = R at *
  clear bW1 bW2 hb hA2 hFR ha hx
  go_enter Try.func13, Try.ntmps13
  go_wp2_with fail
  refine HC.out.mono ?_
  rintro e w2 ⟨v, rfl, hb2, o2⟩
  have HB2 := hide (HB.out.trans (hb2.mono HB.out.size))
  have HO2 := hide (o2.low HB.out.size)
  clear hb2 o2 HC
  go_wp2_with fail
  go_ret2
  exact ⟨_, rfl, HB2.out, HO2.out⟩
end Go.Proofs.Ytdigcbjkobjdmaa
