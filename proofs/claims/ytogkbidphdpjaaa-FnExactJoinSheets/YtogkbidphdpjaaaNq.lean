/-
  Profiles of the laws whose lists may be nil, in variables: what eqProfile, markProfile and heldProfile answer (as in LAp).
-/
import Derived.Test.YtogkbidphdpjaaaPn
namespace Go.Proofs.Ytogkbidphdpjaaa
open Go.RowKit

theorem own_sh {w : World} {base n : Nat} {v : Value} {xs : List Value} (h : w.ownsRow base 3 1 v n xs) : ∃ a cap, v = .slice a n cap := by
  rcases h.2 with ⟨rfl, hn⟩ | ⟨g, cap, cur, rfl, _⟩
  · exact ⟨none, 0, by rw [hn]⟩
  · exact ⟨_, _, rfl⟩
theorem own_baseA {w : World} {b b' n : Nat} {v : Value} {xs : List Value} (h : w.ownsRow b 3 1 v n xs) (hb : b' ≤ b) : w.ownsRow b' 3 1 v n xs := by
  obtain ⟨h1, h⟩ := h
  refine ⟨h1, ?_⟩
  rcases h with h | ⟨g, cap, cur, rfl, h2, h3⟩
  · exact Or.inl h
  · exact Or.inr ⟨g, cap, cur, rfl, Nat.le_trans hb h2, h3⟩
def Cs (W : World) : List (Nat × Value × Value) → Prop
  | [] => True
  | e :: l => PBox W e.1 e.2.1 e.2.2 ∧ Cs W l
theorem Cs.below {W W' : World} : ∀ {l : List (Nat × Value × Value)}, Cs W l → Below W.heap.size W W' → Cs W' l
  | [], _, _ => trivial
  | _ :: _, h, hb => ⟨h.1.below hb, Cs.below h.2 hb⟩
theorem eqPV_any {g1 g2 v1 v2 : Value} {r b1 b2 b3 b4 : Nat} {R1 R2 : List Int} {W : World} (h1 : R1.length = r) (h2 : R2.length = r) (hr : r ≤ 1048576) (o1 : W.ownsRow b1 3 1 g1 r (ints R1)) (o2 : W.ownsRow b2 3 1 g2 r (ints R2)) (o3 : W.ownsRow b3 3 1 v1 r (ints R1)) (o4 : W.ownsRow b4 3 1 v2 r (ints R2)) :
    Calls Try.prog 16 #[.agg #[g1, g2], .agg #[v1, v2]] W fun e w' => e = .returned (.bool true) ∧ Below W.heap.size W w' := by
  obtain ⟨_, _, rfl, r1⟩ := own_row h1 o1
  obtain ⟨_, _, rfl, r2⟩ := own_row h2 o2
  obtain ⟨_, _, rfl, r3⟩ := own_row h1 o3
  obtain ⟨_, _, rfl, r4⟩ := own_row h2 o4
  exact eqP_any h1 h2 hr hr r1 r2 r3 r4
theorem own_hi {w : World} {base n g : Nat} {v : Value} {xs : List Value} (h : w.ownsRow base 3 1 v n xs) (hg : v.ownBlock = some g) : g < w.heap.size := by
  rcases h.2 with ⟨rfl, _⟩ | ⟨g', cap, cur, rfl, _, h3, _⟩
  · cases hg
  · cases hg; exact (Array.getElem?_eq_some_iff.1 h3).1
theorem PBox.keep {W W' : World} {B : Nat} {v0 v1 : Value} (h : PBox W B v0 v1) (hs : W.heap.size ≤ W'.heap.size) (hb : W'.heap[B]? = W.heap[B]?) : PBox W' B v0 v1 :=
  ⟨(World.cell?_of_block (w := W) (a := ⟨B, 0, none⟩) hb).trans h.1, (World.cell?_of_block (w := W) (a := ⟨B, 1, none⟩) hb).trans h.2.1, Nat.lt_of_lt_of_le h.2.2 hs⟩
/-- Nothing has turned but what two values own; new blocks may be there. -/
structure OffV (w w' : World) (v1 v2 : Value) : Prop where
  os : w'.os = w.os
  tape : w'.tape = w.tape
  output : w'.output = w.output
  size : w.heap.size ≤ w'.heap.size
  block : ∀ b, b < w.heap.size → some b ≠ v1.ownBlock → some b ≠ v2.ownBlock → w'.heap[b]? = w.heap[b]?
set_option maxHeartbeats 2000000 in
theorem markPV_any {a1 a2 : Option Addr} {n c1 c2 base : Nat} {ps fs : List Int} {k : Int} {w : World} (hx : ps.length = n) (hy : fs.length = n) (hn : n ≤ 1048576) (k0 : 0 ≤ k) (k1 : k ≤ 900000000)
    (own1 : w.ownsRow base 3 1 (.slice a1 n c1) n (ints ps)) (own2 : w.ownsRow base 3 1 (.slice a2 n c2) n (ints fs)) (hne : ∀ g, (Value.slice a1 n c1).ownBlock = some g → (Value.slice a2 n c2).ownBlock ≠ some g) :
    Calls Try.prog 18 #[.agg #[.slice a1 n c1, .slice a2 n c2], .int .i64 k] w fun e w' => e = .returned (.int .i64 (k + n + n)) ∧ HeldV w' (.slice a1 n c1) n k ∧ HeldV w' (.slice a2 n c2) n (k + n) ∧ OffV w w' (.slice a1 n c1) (.slice a2 n c2) := by
  have bn := below_new w (.cells #[.slice a1 n c1, .slice a2 n c2] 40)
  have N1 : Hid (some w.heap.size ≠ (Value.slice a1 n c1).ownBlock) := hide fun he => by have := own_hi own1 he.symm; omega
  have O1 := hide (own_below own1 bn)
  have O2 := hide (own_below own2 bn)
  have HX := hide hx
  have HY := hide hy
  have HNE := hide hne
  clear own1 own2 hx hy hne
  go_enter Try.func18, Try.ntmps18
  go_wp2_with fail
  refine (markV_any HX.out (by omega) k0 (by omega) O1.out).mono ?_
  rintro e w1 ⟨rfl, C1, hg1⟩
  have O2' := hide (own_keep O2.out fun g hg hl => hg1.block g hl fun he => HNE.out g he.symm hg)
  have HC1 := hide C1
  have HG1 := hide hg1
  have p1 : w1.cell? ⟨w.heap.size, 1, none⟩ = some (.slice a2 n c2) := (World.cell?_of_block (w := w.alloc (.cells #[.slice a1 n c1, .slice a2 n c2] 40)) (a := ⟨w.heap.size, 1, none⟩) (hg1.block w.heap.size (by simp) N1.out)).trans (by simp [go_sem])
  clear C1 hg1
  go_wp2_with fail
  refine (markV_any HY.out (by omega) (by omega) (by omega) O2'.out).mono ?_
  rintro e w2 ⟨rfl, C2, hg2⟩
  have s1 : w.heap.size ≤ w1.heap.size := Nat.le_trans (by simp) HG1.out.size
  have C1' := hide (HC1.out.keep hg2.size fun g hg => by
    have hl := own_hi O1.out hg
    exact hg2.block g (Nat.lt_of_lt_of_le hl HG1.out.size) fun he => HNE.out g hg he.symm)
  have HC2 := hide C2
  have hoff : OffV w w2 (.slice a1 n c1) (.slice a2 n c2) := ⟨(hg2.os.trans HG1.out.os).trans bn.os, (hg2.tape.trans HG1.out.tape).trans bn.tape, (hg2.output.trans HG1.out.output).trans bn.output, Nat.le_trans s1 hg2.size, fun b hb h1 h2 => (hg2.block b (by omega) h2).trans ((HG1.out.block b (by simp; omega) h1).trans (bn.block b hb))⟩
  clear C2 hg2 HC1 O1 O2 O2' N1 HNE
  go_wp2_with fail
  go_ret
  exact ⟨rfl, C1'.out, HC2.out, hoff⟩
set_option maxHeartbeats 2000000 in
theorem heldPV_any {a1 a2 : Option Addr} {n c1 c2 : Nat} {k : Int} {w : World} (hn : n ≤ 1048576) (k0 : 0 ≤ k) (k1 : k ≤ 900000000) (C1 : HeldV w (.slice a1 n c1) n k) (C2 : HeldV w (.slice a2 n c2) n (k + n)) :
    Calls Try.prog 19 #[.agg #[.slice a1 n c1, .slice a2 n c2], .int .i64 k] w fun e w' => e = .returned (.int .i64 (k + n + n)) ∧ Below w.heap.size w w' := by
  have bn := below_new w (.cells #[.slice a1 n c1, .slice a2 n c2] 40)
  have D1 := hide (C1.below bn)
  have D2 := hide (C2.below bn)
  have h1 : ¬ k + (n : Int) < 0 := by omega
  have h2 : ¬ k + (n : Int) + (n : Int) < 0 := by omega
  clear C1 C2
  go_enter Try.func19, Try.ntmps19
  go_wp2_with fail
  refine (heldV_any (by omega) k0 (by omega) D1.out).mono ?_
  rintro e w1 ⟨rfl, rfl⟩
  go_wp2_with fail
  refine (heldV_any (by omega) (by omega) (by omega) D2.out).mono ?_
  rintro e w1 ⟨rfl, rfl⟩
  go_wp2_with fail
  go_ret
  exact ⟨rfl, bn⟩
end Go.Proofs.Ytogkbidphdpjaaa
