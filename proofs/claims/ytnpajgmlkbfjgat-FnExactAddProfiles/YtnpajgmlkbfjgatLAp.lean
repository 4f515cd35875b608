/-
  At any two profiles AddProfiles answers as the model does, in memory of its own: the law's own walk.
-/
import Derived.Test.YtnpajgmlkbfjgatLGoodP
import Derived.Test.YtnpajgmlkbfjgatPn
import Derived.Deep.DeepCutAuto
import Derived.Deep.RegionHeld3
namespace Go.Proofs.Ytnpajgmlkbfjgat
open Go.RowKit

theorem kP_call {w w1 w2 : World} {A B : Nat} {v0 v1 v2 v3 : Value} (lA : A < w.heap.size) (lB : B < w.heap.size)
    (s : w1.cell? ⟨A, 0, none⟩ = some v0 ∧ w1.cell? ⟨A, 1, none⟩ = some v1 ∧ w1.cell? ⟨B, 0, none⟩ = some v2 ∧ w1.cell? ⟨B, 1, none⟩ = some v3 ∧ Below w.heap.size w w1) (h : Below w1.heap.size w1 w2) :
    w2.cell? ⟨A, 0, none⟩ = some v0 ∧ w2.cell? ⟨A, 1, none⟩ = some v1 ∧ w2.cell? ⟨B, 0, none⟩ = some v2 ∧ w2.cell? ⟨B, 1, none⟩ = some v3 ∧ Below w.heap.size w w2 := by
  obtain ⟨s0, s1, s2, s3, s4⟩ := s
  have hs := s4.size
  obtain ⟨hc, _⟩ := bcell h
  exact ⟨(hc _ _ (by omega)).trans s0, (hc _ _ (by omega)).trans s1, (hc _ _ (by omega)).trans s2, (hc _ _ (by omega)).trans s3, s4.trans (h.mono hs)⟩
theorem kP_alloc {w w1 : World} {A B : Nat} {v0 v1 v2 v3 : Value} (o : Obj) (lA : A < w.heap.size) (lB : B < w.heap.size)
    (s : w1.cell? ⟨A, 0, none⟩ = some v0 ∧ w1.cell? ⟨A, 1, none⟩ = some v1 ∧ w1.cell? ⟨B, 0, none⟩ = some v2 ∧ w1.cell? ⟨B, 1, none⟩ = some v3 ∧ Below w.heap.size w w1) :
    (w1.alloc o).cell? ⟨A, 0, none⟩ = some v0 ∧ (w1.alloc o).cell? ⟨A, 1, none⟩ = some v1 ∧ (w1.alloc o).cell? ⟨B, 0, none⟩ = some v2 ∧ (w1.alloc o).cell? ⟨B, 1, none⟩ = some v3 ∧ Below w.heap.size w (w1.alloc o) := kP_call lA lB s ((Below.refl _ _).alloc (Nat.le_refl _) o)
theorem s_size {w w1 : World} {A B : Nat} {v0 v1 v2 v3 : Value} (s : w1.cell? ⟨A, 0, none⟩ = some v0 ∧ w1.cell? ⟨A, 1, none⟩ = some v1 ∧ w1.cell? ⟨B, 0, none⟩ = some v2 ∧ w1.cell? ⟨B, 1, none⟩ = some v3 ∧ Below w.heap.size w w1) : w.heap.size ≤ w1.heap.size := s.2.2.2.2.size
theorem kP_swap {w w1 : World} {A B : Nat} {v0 v1 v2 v3 : Value} {o o' : Obj} (lA : A < w.heap.size) (lB : B < w.heap.size) (hz : w.heap.size ≤ w1.heap.size)
    (s : (w1.alloc o).cell? ⟨A, 0, none⟩ = some v0 ∧ (w1.alloc o).cell? ⟨A, 1, none⟩ = some v1 ∧ (w1.alloc o).cell? ⟨B, 0, none⟩ = some v2 ∧ (w1.alloc o).cell? ⟨B, 1, none⟩ = some v3 ∧ Below w.heap.size w (w1.alloc o)) :
    (w1.alloc o').cell? ⟨A, 0, none⟩ = some v0 ∧ (w1.alloc o').cell? ⟨A, 1, none⟩ = some v1 ∧ (w1.alloc o').cell? ⟨B, 0, none⟩ = some v2 ∧ (w1.alloc o').cell? ⟨B, 1, none⟩ = some v3 ∧ Below w.heap.size w (w1.alloc o') := by
  obtain ⟨s0, s1, s2, s3, s4⟩ := s
  have b1 : Below w1.heap.size w1 (w1.alloc o) := (Below.refl _ _).alloc (Nat.le_refl _) o
  have b2 : Below w1.heap.size w1 (w1.alloc o') := (Below.refl _ _).alloc (Nat.le_refl _) o'
  have blk : ∀ k, k < w.heap.size → (w1.alloc o').heap[k]? = (w1.alloc o).heap[k]? := fun k hk => (b2.block k (by omega)).trans (b1.block k (by omega)).symm
  have hc : ∀ x i, x < w.heap.size → (w1.alloc o').cell? ⟨x, i, none⟩ = (w1.alloc o).cell? ⟨x, i, none⟩ := fun x i h => World.cell?_of_block (w := w1.alloc o) (a := ⟨x, i, none⟩) (blk x h)
  exact ⟨(hc _ _ lA).trans s0, (hc _ _ lA).trans s1, (hc _ _ lB).trans s2, (hc _ _ lB).trans s3, ⟨(b2.os.trans b1.os.symm).trans s4.os, (b2.tape.trans b1.tape.symm).trans s4.tape, (b2.output.trans b1.output.symm).trans s4.output, by simp; omega, fun k hk => (blk k hk).trans (s4.block k hk)⟩⟩
theorem kP_set {w w1 : World} {A B V i : Nat} {v v0 v1 v2 v3 : Value} (lA : A < w.heap.size) (lB : B < w.heap.size) (hV : w.heap.size ≤ V)
    (s : w1.cell? ⟨A, 0, none⟩ = some v0 ∧ w1.cell? ⟨A, 1, none⟩ = some v1 ∧ w1.cell? ⟨B, 0, none⟩ = some v2 ∧ w1.cell? ⟨B, 1, none⟩ = some v3 ∧ Below w.heap.size w w1) :
    (w1.setCell ⟨V, i, none⟩ v).cell? ⟨A, 0, none⟩ = some v0 ∧ (w1.setCell ⟨V, i, none⟩ v).cell? ⟨A, 1, none⟩ = some v1 ∧ (w1.setCell ⟨V, i, none⟩ v).cell? ⟨B, 0, none⟩ = some v2 ∧ (w1.setCell ⟨V, i, none⟩ v).cell? ⟨B, 1, none⟩ = some v3 ∧ Below w.heap.size w (w1.setCell ⟨V, i, none⟩ v) := by
  obtain ⟨s0, s1, s2, s3, s4⟩ := s
  have hc : ∀ x o, x < w.heap.size → (w1.setCell ⟨V, i, none⟩ v).cell? ⟨x, o, none⟩ = w1.cell? ⟨x, o, none⟩ := fun x o h => World.cell?_setCell_other _ _ _ _ (fun e => by injection e with e1; omega)
  exact ⟨(hc _ _ lA).trans s0, (hc _ _ lA).trans s1, (hc _ _ lB).trans s2, (hc _ _ lB).trans s3, s4.setCell hV v⟩
theorem own_sh {w : World} {base n : Nat} {v : Value} {xs : List Value} (h : w.ownsRow base 3 1 v n xs) : ∃ a cap, v = .slice a n cap := by
  rcases h.2 with ⟨rfl, hn⟩ | ⟨g, cap, cur, rfl, _⟩
  · exact ⟨none, 0, by rw [hn]⟩
  · exact ⟨_, _, rfl⟩
/-- A variable that holds no profile yet. -/
def Zv (W : World) (V : Nat) : Prop := W.cell? ⟨V, 0, none⟩ = some (.slice none 0 0) ∧ W.cell? ⟨V, 1, none⟩ = some (.slice none 0 0) ∧ W.frozen? ⟨V, 0, none⟩ = false ∧ W.frozen? ⟨V, 1, none⟩ = false ∧ V < W.heap.size
theorem vz {W w' : World} {k : Nat} {t : TypeId} (hk : k = (W.alloc (.cells #[.slice none 0 0, .slice none 0 0] t)).heap.size) (hb : Below k (W.alloc (.cells #[.slice none 0 0, .slice none 0 0] t)) w') : Zv w' W.heap.size := by
  subst hk
  obtain ⟨hc, hf⟩ := bcell hb
  have hl : W.heap.size < (W.alloc (.cells #[.slice none 0 0, .slice none 0 0] t)).heap.size := by simp
  exact ⟨(hc _ _ hl).trans (by simp [go_sem]), (hc _ _ hl).trans (by simp [go_sem]), (hf _ _ hl).trans (by simp [go_sem]), (hf _ _ hl).trans (by simp [go_sem]), Nat.lt_of_lt_of_le hl hb.size⟩
theorem vzd {W w' : World} {k : Nat} {t : TypeId} (hk : k = (W.alloc (.cells #[.slice none 0 0, .slice none 0 0] t)).heap.size) (hb : Below k (W.alloc (.cells #[.slice none 0 0, .slice none 0 0] t)).drew w') : Zv w' W.heap.size :=
  vz (t := t) hk ⟨hb.os, hb.tape, hb.output, hb.size, hb.block⟩
theorem Zv.step {W w' : World} {V : Nat} (h : Zv W V) (hb : Below W.heap.size W w') : Zv w' V := by
  obtain ⟨c0, c1, f0, f1, hl⟩ := h
  obtain ⟨hc, hf⟩ := bcell hb
  exact ⟨(hc _ _ hl).trans c0, (hc _ _ hl).trans c1, (hf _ _ hl).trans f0, (hf _ _ hl).trans f1, Nat.lt_of_lt_of_le hl hb.size⟩
/-- What stays behind the model's answer: the variable that holds it, and the lists that it owns. -/
def Kp (w2 : World) (V : Nat) (v1 v2 : Value) (r : Nat) (R1 R2 : List Int) (wd : World) : Prop := Below w2.heap.size w2 wd ∧ PBox wd V v1 v2 ∧ w2.heap.size ≤ V ∧ wd.ownsRow w2.heap.size 3 1 v1 r (ints R1) ∧ wd.ownsRow w2.heap.size 3 1 v2 r (ints R2)
theorem own_baseA {w : World} {b b' n : Nat} {v : Value} {xs : List Value} (h : w.ownsRow b 3 1 v n xs) (hb : b' ≤ b) : w.ownsRow b' 3 1 v n xs := by
  obtain ⟨h1, h⟩ := h
  refine ⟨h1, ?_⟩
  rcases h with h | ⟨g, cap, cur, rfl, h2, h3⟩
  · exact Or.inl h
  · exact Or.inr ⟨g, cap, cur, rfl, Nat.le_trans hb h2, h3⟩
theorem kp_new {w2 wb wc : World} {v1 v2 : Value} {t : TypeId} {r : Nat} {R1 R2 : List Int} (hB : Below w2.heap.size w2 (wc.alloc (.cells #[v1, v2] t))) (zc : w2.heap.size ≤ wc.heap.size) (zb : w2.heap.size ≤ wb.heap.size)
    (o1 : wc.ownsRow wb.heap.size 3 1 v1 r (ints R1)) (o2 : wc.ownsRow wb.heap.size 3 1 v2 r (ints R2)) (_ : 0 ≤ r) : Kp w2 wc.heap.size v1 v2 r R1 R2 (wc.alloc (.cells #[v1, v2] t)) :=
  ⟨hB, PBox.new _ _ _ _, zc, own_below (own_baseA o1 zb) (below_new _ _), own_below (own_baseA o2 zb) (below_new _ _)⟩
theorem kp_set {w2 wc : World} {V base : Nat} {v1 v2 u1 u2 : Value} {r : Nat} {R1 R2 : List Int} (hB : Below w2.heap.size w2 ((wc.setCell ⟨V, 0, none⟩ v1).setCell ⟨V, 1, none⟩ v2)) (hV : w2.heap.size ≤ V) (hb : w2.heap.size ≤ base)
    (m0 : wc.cell? ⟨V, 0, none⟩ = some u1) (m1 : wc.cell? ⟨V, 1, none⟩ = some u2) (m4 : V < wc.heap.size) (o1 : wc.ownsRow base 3 1 v1 r (ints R1)) (o2 : wc.ownsRow base 3 1 v2 r (ints R2)) (hn : V < base) (_ : True) : Kp w2 V v1 v2 r R1 R2 ((wc.setCell ⟨V, 0, none⟩ v1).setCell ⟨V, 1, none⟩ v2) := by
  have hs : (wc.setCell ⟨V, 0, none⟩ v1).heap.size = wc.heap.size := by simp
  have blk : ∀ g, V < g → ((wc.setCell ⟨V, 0, none⟩ v1).setCell ⟨V, 1, none⟩ v2).heap[g]? = wc.heap[g]? := fun g hg =>
    (Below.heap_setCell _ _ _ g (show g ≠ V by omega)).trans (Below.heap_setCell _ _ _ g (show g ≠ V by omega))
  have own : ∀ v xs, wc.ownsRow base 3 1 v r xs → ((wc.setCell ⟨V, 0, none⟩ v1).setCell ⟨V, 1, none⟩ v2).ownsRow w2.heap.size 3 1 v r xs := fun v xs o => by
    refine own_baseA (own_keep o fun g hg _ => blk g ?_) hb
    have := o.lt g hg
    omega
  refine ⟨hB, ⟨?_, ?_, by simpa using m4⟩, hV, own _ _ o1, own _ _ o2⟩
  · exact (World.cell?_setCell_other _ _ _ _ (fun e => by injection e with e1 e2; omega)).trans (World.cell?_setCell_same' _ _ _ (by rw [m0]; rfl))
  · exact World.cell?_setCell_same' _ _ _ (by rw [World.cell?_setCell_other _ _ _ _ (fun e => by injection e with e1 e2; omega), m1]; rfl)
def Cs (W : World) : List (Nat × Value × Value) → Prop
  | [] => True
  | e :: l => PBox W e.1 e.2.1 e.2.2 ∧ Cs W l
theorem Cs.below {W W' : World} : ∀ {l : List (Nat × Value × Value)}, Cs W l → Below W.heap.size W W' → Cs W' l
  | [], _, _ => trivial
  | _ :: _, h, hb => ⟨h.1.below hb, Cs.below h.2 hb⟩
theorem eqPV_any {g1 g2 v1 v2 : Value} {r b1 b2 b3 b4 : Nat} {R1 R2 : List Int} {W : World} (h1 : R1.length = r) (h2 : R2.length = r) (hr : r ≤ 1048576) (o1 : W.ownsRow b1 3 1 g1 r (ints R1)) (o2 : W.ownsRow b2 3 1 g2 r (ints R2)) (o3 : W.ownsRow b3 3 1 v1 r (ints R1)) (o4 : W.ownsRow b4 3 1 v2 r (ints R2)) :
    Calls Try.prog 12 #[.agg #[g1, g2], .agg #[v1, v2]] W fun e w' => e = .returned (.bool true) ∧ Below W.heap.size W w' := by
  obtain ⟨_, _, rfl, r1⟩ := own_row h1 o1
  obtain ⟨_, _, rfl, r2⟩ := own_row h2 o2
  obtain ⟨_, _, rfl, r3⟩ := own_row h1 o3
  obtain ⟨_, _, rfl, r4⟩ := own_row h2 o4
  exact eqP_any h1 h2 hr hr r1 r2 r3 r4
theorem toP_b {a b : Option Addr} {n m c d A B : Nat} {ps fs : List Int} {w w0 w1 : World} {v0 v1 v2 v3 : Value} (HN : Hid (ps.length = n)) (HM : Hid (fs.length = m)) (h : n + m ≤ 1048576) (HA : Hid (ARow w a ps)) (HB : Hid (ARow w b fs)) (hB0 : Hid (Below w.heap.size w w0))
    (s : w1.cell? ⟨A, 0, none⟩ = some v0 ∧ w1.cell? ⟨A, 1, none⟩ = some v1 ∧ w1.cell? ⟨B, 0, none⟩ = some v2 ∧ w1.cell? ⟨B, 1, none⟩ = some v3 ∧ Below w0.heap.size w0 w1) :
    Calls Try.prog 10 #[.agg #[.slice a n c, .slice b m d]] w1 fun e w' => ∃ x y, e = .returned (.agg #[.slice (some ⟨x, 0, none⟩) n n, .slice (some ⟨y, 0, none⟩) m m]) ∧ Below w1.heap.size w1 w' ∧ Hid (ARow w' (some ⟨x, 0, none⟩) ps) ∧ Hid (ARow w' (some ⟨y, 0, none⟩) fs) := by
  have hB : Below w.heap.size w w1 := hB0.out.trans (s.2.2.2.2.mono hB0.out.size)
  refine (toP_any HN.out HM.out (by omega) (by omega) (HA.out.below hB) (HB.out.below hB)).mono ?_
  rintro e w2 ⟨x1, y1, rfl, hb2, _, _, _, own1, own2⟩
  exact ⟨x1, y1, rfl, hb2, arow_owns HN.out.symm own1, arow_owns HM.out.symm own2⟩

theorem eqP_b {n m x y x3 y3 A B : Nat} {ps fs : List Int} {w0 w1 : World} {v0 v1 v2 v3 : Value} (HN : Hid (ps.length = n)) (HM : Hid (fs.length = m)) (h : n + m ≤ 1048576) (X1 : Hid (ARow w0 (some ⟨x, 0, none⟩) ps)) (X2 : Hid (ARow w0 (some ⟨y, 0, none⟩) fs))
    (s : w1.cell? ⟨A, 0, none⟩ = some v0 ∧ w1.cell? ⟨A, 1, none⟩ = some v1 ∧ w1.cell? ⟨B, 0, none⟩ = some v2 ∧ w1.cell? ⟨B, 1, none⟩ = some v3 ∧ Below w0.heap.size w0 w1) (R3 : Hid (ARow w1 (some ⟨x3, 0, none⟩) ps)) (R4 : Hid (ARow w1 (some ⟨y3, 0, none⟩) fs)) :
    Calls Try.prog 12 #[.agg #[.slice (some ⟨x, 0, none⟩) n n, .slice (some ⟨y, 0, none⟩) m m], .agg #[.slice (some ⟨x3, 0, none⟩) n n, .slice (some ⟨y3, 0, none⟩) m m]] w1 fun e w' => e = .returned (.bool true) ∧ Below w1.heap.size w1 w' :=
  eqP_any HN.out HM.out (by omega) (by omega) (X1.out.below s.2.2.2.2) (X2.out.below s.2.2.2.2) R3.out R4.out
theorem own_hi {w : World} {base n g : Nat} {v : Value} {xs : List Value} (h : w.ownsRow base 3 1 v n xs) (hg : v.ownBlock = some g) : g < w.heap.size := by
  rcases h.2 with ⟨rfl, _⟩ | ⟨g', cap, cur, rfl, _, h3, _⟩
  · cases hg
  · cases hg; exact (Array.getElem?_eq_some_iff.1 h3).1
theorem PBox.keep {W W' : World} {B : Nat} {v0 v1 : Value} (h : PBox W B v0 v1) (hs : W.heap.size ≤ W'.heap.size) (hb : W'.heap[B]? = W.heap[B]?) : PBox W' B v0 v1 :=
  ⟨(World.cell?_of_block (w := W) (a := ⟨B, 0, none⟩) hb).trans h.1, (World.cell?_of_block (w := W) (a := ⟨B, 1, none⟩) hb).trans h.2.1, Nat.lt_of_lt_of_le h.2.2 hs⟩
/-- Nothing has turned but what two values own; new blocks may be there. -/
structure OffV (w w' : World) (v1 v2 : Value) : Prop where
  os : w'.os = w.os
  tape : w'.tape = w.tape
  output : w'.output = w.output
  size : w.heap.size ≤ w'.heap.size
  block : ∀ b, b < w.heap.size → some b ≠ v1.ownBlock → some b ≠ v2.ownBlock → w'.heap[b]? = w.heap[b]?
set_option maxHeartbeats 2000000 in
theorem markPV_any {a1 a2 : Option Addr} {n c1 c2 base : Nat} {ps fs : List Int} {k : Int} {w : World} (hx : ps.length = n) (hy : fs.length = n) (hn : n ≤ 1048576) (k0 : 0 ≤ k) (k1 : k ≤ 900000000)
    (own1 : w.ownsRow base 3 1 (.slice a1 n c1) n (ints ps)) (own2 : w.ownsRow base 3 1 (.slice a2 n c2) n (ints fs)) (hne : ∀ g, (Value.slice a1 n c1).ownBlock = some g → (Value.slice a2 n c2).ownBlock ≠ some g) :
    Calls Try.prog 13 #[.agg #[.slice a1 n c1, .slice a2 n c2], .int .i64 k] w fun e w' => e = .returned (.int .i64 (k + n + n)) ∧ HeldV w' (.slice a1 n c1) n k ∧ HeldV w' (.slice a2 n c2) n (k + n) ∧ OffV w w' (.slice a1 n c1) (.slice a2 n c2) := by
  have bn := below_new w (.cells #[.slice a1 n c1, .slice a2 n c2] 26)
  have N1 : Hid (some w.heap.size ≠ (Value.slice a1 n c1).ownBlock) := hide fun he => by have := own_hi own1 he.symm; omega
  have O1 := hide (own_below own1 bn)
  have O2 := hide (own_below own2 bn)
  have HX := hide hx
  have HY := hide hy
  have HNE := hide hne
  clear own1 own2 hx hy hne
  go_enter Try.func13, Try.ntmps13
  go_wp2_with fail
  refine (markV_any HX.out (by omega) k0 (by omega) O1.out).mono ?_
  rintro e w1 ⟨rfl, C1, hg1⟩
  have O2' := hide (own_keep O2.out fun g hg hl => hg1.block g hl fun he => HNE.out g he.symm hg)
  have HC1 := hide C1
  have HG1 := hide hg1
  have p1 : w1.cell? ⟨w.heap.size, 1, none⟩ = some (.slice a2 n c2) := (World.cell?_of_block (w := w.alloc (.cells #[.slice a1 n c1, .slice a2 n c2] 26)) (a := ⟨w.heap.size, 1, none⟩) (hg1.block w.heap.size (by simp) N1.out)).trans (by simp [go_sem])
  clear C1 hg1
  go_wp2_with fail
  refine (markV_any HY.out (by omega) (by omega) (by omega) O2'.out).mono ?_
  rintro e w2 ⟨rfl, C2, hg2⟩
  have s1 : w.heap.size ≤ w1.heap.size := Nat.le_trans (by simp) HG1.out.size
  have C1' := hide (HC1.out.keep hg2.size fun g hg => by
    have hl := own_hi O1.out hg
    exact hg2.block g (Nat.lt_of_lt_of_le hl HG1.out.size) fun he => HNE.out g hg he.symm)
  have HC2 := hide C2
  have hoff : OffV w w2 (.slice a1 n c1) (.slice a2 n c2) := ⟨(hg2.os.trans HG1.out.os).trans bn.os, (hg2.tape.trans HG1.out.tape).trans bn.tape, (hg2.output.trans HG1.out.output).trans bn.output, Nat.le_trans s1 hg2.size, fun b hb h1 h2 => (hg2.block b (by omega) h2).trans ((HG1.out.block b (by simp; omega) h1).trans (bn.block b hb))⟩
  clear C2 hg2 HC1 O1 O2 O2' N1 HNE
  go_wp2_with fail
  go_ret
  exact ⟨rfl, C1'.out, HC2.out, hoff⟩
set_option maxHeartbeats 2000000 in
theorem heldPV_any {a1 a2 : Option Addr} {n c1 c2 : Nat} {k : Int} {w : World} (hn : n ≤ 1048576) (k0 : 0 ≤ k) (k1 : k ≤ 900000000) (C1 : HeldV w (.slice a1 n c1) n k) (C2 : HeldV w (.slice a2 n c2) n (k + n)) :
    Calls Try.prog 14 #[.agg #[.slice a1 n c1, .slice a2 n c2], .int .i64 k] w fun e w' => e = .returned (.int .i64 (k + n + n)) ∧ Below w.heap.size w w' := by
  have bn := below_new w (.cells #[.slice a1 n c1, .slice a2 n c2] 26)
  have D1 := hide (C1.below bn)
  have D2 := hide (C2.below bn)
  have h1 : ¬ k + (n : Int) < 0 := by omega
  have h2 : ¬ k + (n : Int) + (n : Int) < 0 := by omega
  clear C1 C2
  go_enter Try.func14, Try.ntmps14
  go_wp2_with fail
  refine (heldV_any (by omega) k0 (by omega) D1.out).mono ?_
  rintro e w1 ⟨rfl, rfl⟩
  go_wp2_with fail
  refine (heldV_any (by omega) (by omega) (by omega) D2.out).mono ?_
  rintro e w1 ⟨rfl, rfl⟩
  go_wp2_with fail
  go_ret
  exact ⟨rfl, bn⟩
set_option maxRecDepth 20000 in
set_option maxHeartbeats 8000000 in
theorem lAp_short {a b a' b' : Option Addr} {n m c d n' m' c' d' r : Nat} {ok : Bool} {ps fs ps' fs' R1 R2 : List Int} {w : World} (hn : ps.length = n) (hm : fs.length = m) (hn' : ps'.length = n') (hm' : fs'.length = m') (hr1 : R1.length = r) (hr2 : R2.length = r) (hr' : r ≤ 1000)
    (h : n + m + n' + m' ≤ 1048576) (ha : ARow w a ps) (hb : ARow w b fs) (ha' : ARow w a' ps') (hb' : ARow w b' fs')
    (Hs : Hid (∀ W x y x' y', ARow W (some ⟨x, 0, none⟩) ps → ARow W (some ⟨y, 0, none⟩) fs → ARow W (some ⟨x', 0, none⟩) ps' → ARow W (some ⟨y', 0, none⟩) fs' → Calls Try.prog 9 #[.agg #[.slice (some ⟨x, 0, none⟩) n n, .slice (some ⟨y, 0, none⟩) m m], .agg #[.slice (some ⟨x', 0, none⟩) n' n', .slice (some ⟨y', 0, none⟩) m' m']] W fun e w' => ∃ v1 v2, e = .returned (.tuple #[.agg #[v1, v2], .bool ok]) ∧ Below W.heap.size W w' ∧ w'.ownsRow W.heap.size 3 1 v1 r (ints R1) ∧ w'.ownsRow W.heap.size 3 1 v2 r (ints R2) ∧ ∀ g, v1.ownBlock = some g → v2.ownBlock ≠ some g))
    (Hi : Hid (∀ W x y x' y', ARow W (some ⟨x, 0, none⟩) ps → ARow W (some ⟨y, 0, none⟩) fs → ARow W (some ⟨x', 0, none⟩) ps' → ARow W (some ⟨y', 0, none⟩) fs' → Calls Try.prog 11 #[.agg #[.slice (some ⟨x, 0, none⟩) n n, .slice (some ⟨y, 0, none⟩) m m], .agg #[.slice (some ⟨x', 0, none⟩) n' n', .slice (some ⟨y', 0, none⟩) m' m']] W fun e w' => ∃ v1 v2, e = .returned (.tuple #[.agg #[v1, v2], .bool ok]) ∧ Below W.heap.size W w' ∧ w'.ownsRow W.heap.size 3 1 v1 r (ints R1) ∧ w'.ownsRow W.heap.size 3 1 v2 r (ints R2) ∧ ∀ g, v1.ownBlock = some g → v2.ownBlock ≠ some g)) :
    Calls Try.prog 3 #[.agg #[.slice a n c, .slice b m d], .agg #[.slice a' n' c', .slice b' m' d']] w fun e w' => e = .returned (.bool true) ∧ Below w.heap.size w w' := by
  have HA := hide ha
  have HB := hide hb
  have HA' := hide ha'
  have HB' := hide hb'
  have HN := hide hn
  have HM := hide hm
  have HN' := hide hn'
  have HM' := hide hm'
  have HR1 := hide hr1
  have HR2 := hide hr2
  have hne : (ok != ok) = false := by simp
  have hl1 : ¬ (1048576 : Int) - (n : Int) - (m : Int) < 0 := by omega
  have hl2 : ¬ (1048576 : Int) - (n : Int) - (m : Int) - (n' : Int) - (m' : Int) < 0 := by omega
  have hnm : n + m ≤ 1048576 := by omega
  have hnm' : n' + m' ≤ 1048576 := by omega
  clear ha hb ha' hb' hn hm hn' hm' hr1 hr2
  go_enter Try.func3, Try.ntmps3
  go_wp2_with fail
  refine (szP_yes (by omega) (by omega) (by omega)).mono ?_
  rintro e w1 ⟨rfl, hb1⟩
  have hB1 : Below w.heap.size w w1 := (((Below.refl _ _).alloc (Nat.le_refl _) _).alloc (by simp) _).trans (hb1.mono (by simp; omega))
  obtain ⟨p0, p1, z1⟩ := ((PBox.new w _ _ _).below (below_new _ _)).below hb1
  obtain ⟨p2, p3, z1'⟩ := (PBox.new (w.alloc _) _ _ _).below hb1
  simp only [World.size_alloc] at p2 p3 z1'
  go_wp2_with fail
  refine (szP_yes (by omega) (by omega) (by omega)).mono ?_
  rintro e w2 ⟨rfl, hb2⟩
  have hB2 := hB1.trans (hb2.mono hB1.size)
  obtain ⟨q0, q1, z2⟩ := PBox.below ⟨p0, p1, z1⟩ hb2
  obtain ⟨q2, q3, z2'⟩ := PBox.below ⟨p2, p3, z1'⟩ hb2
  have HB2 := hide hB2
  clear p0 p1 p2 p3 hb1 hb2 hB1 hB2
  go_upto_region 8 with fail
  go_cut [6, 7] (fun s6 s7 wd => ∃ V v1 v2, s6 = .pointer (some ⟨V, 0, none⟩) ∧ s7 = .bool ok ∧ Hid (Kp w2 V v1 v2 r R1 R2 wd))
  case first =>
    go_region_held3 (fun w' => w'.cell? ⟨w.heap.size, 0, none⟩ = some (.slice a n c) ∧ w'.cell? ⟨w.heap.size, 1, none⟩ = some (.slice b m d) ∧ w'.cell? ⟨w.heap.size + 1, 0, none⟩ = some (.slice a' n' c') ∧ w'.cell? ⟨w.heap.size + 1, 1, none⟩ = some (.slice b' m' d') ∧ Below w2.heap.size w2 w')
      (first | exact ⟨q0, q1, q2, q3, below_drewN (Below.refl _ _) 1⟩ | assumption | exact kP_call z2 z2' ‹_› (by assumption) | exact kP_alloc _ z2 z2' ‹_› | exact kP_swap z2 z2' (by assumption) ‹_› | exact kP_set z2 z2' (by omega) (kP_set z2 z2' (by omega) ‹_›) | fail)
      (first
      | (go_at_call_of 10 (Value.agg #[Value.slice a n c, Value.slice b m d]); refine (toP_b HN HM hnm HA HB HB2 (by assumption)).mono ?_; rintro e wa ⟨xa, ya, rfl, hba, Ra1, Ra2⟩; have za := Nat.le_trans (s_size (w := w2) (A := w.heap.size) (B := w.heap.size + 1) (by assumption)) hba.size; (try (have va := vzd (by simp) hba)))
      | (go_at_call 10; refine (toP_b HN' HM' hnm' HA' HB' HB2 (by assumption)).mono ?_; rintro e wb ⟨xb, yb, rfl, hbb, Rb1, Rb2⟩; have zb := Nat.le_trans (s_size (w := w2) (A := w.heap.size) (B := w.heap.size + 1) (by assumption)) hbb.size; (try (have vb := va.step hbb)); (try (have vb := vz (by simp) hbb)))
      | (go_at_call 9; refine (Hs.out _ xa ya xb yb (Ra1.out.below hbb) (Ra2.out.below hbb) Rb1.out Rb2.out).mono ?_; rintro e wc ⟨v1, v2, rfl, hbc, ow1, ow2, ne12⟩; have zc := Nat.le_trans (s_size (w := w2) (A := w.heap.size) (B := w.heap.size + 1) (by assumption)) hbc.size; obtain ⟨g1, k1, rfl⟩ := own_sh ow1; obtain ⟨g2, k2, rfl⟩ := own_sh ow2; (try (have vc := vb.step hbc; obtain ⟨m0, m1, m2, m3, m4⟩ := vc)); (try (have vc := vz (by simp) hbc; obtain ⟨m0, m1, m2, m3, m4⟩ := vc)))
      | (go_at_call 9; refine (Hs.out _ xa ya xb yb ((Ra1.out.alloc _).below hbb) ((Ra2.out.alloc _).below hbb) Rb1.out Rb2.out).mono ?_; rintro e wc ⟨v1, v2, rfl, hbc, ow1, ow2, ne12⟩; have zc := Nat.le_trans (s_size (w := w2) (A := w.heap.size) (B := w.heap.size + 1) (by assumption)) hbc.size; obtain ⟨g1, k1, rfl⟩ := own_sh ow1; obtain ⟨g2, k2, rfl⟩ := own_sh ow2; (try (have vc := vb.step hbc; obtain ⟨m0, m1, m2, m3, m4⟩ := vc)); (try (have vc := vz (by simp) hbc; obtain ⟨m0, m1, m2, m3, m4⟩ := vc)))
      | (go_at_call 9; refine (Hs.out _ xa ya xb yb ((Ra1.out.below hbb).alloc _) ((Ra2.out.below hbb).alloc _) (Rb1.out.alloc _) (Rb2.out.alloc _)).mono ?_; rintro e wc ⟨v1, v2, rfl, hbc, ow1, ow2, ne12⟩; have zc := Nat.le_trans (s_size (w := w2) (A := w.heap.size) (B := w.heap.size + 1) (by assumption)) hbc.size; obtain ⟨g1, k1, rfl⟩ := own_sh ow1; obtain ⟨g2, k2, rfl⟩ := own_sh ow2; (try (have vc := vb.step hbc; obtain ⟨m0, m1, m2, m3, m4⟩ := vc)); (try (have vc := vz (by simp) hbc; obtain ⟨m0, m1, m2, m3, m4⟩ := vc)))
      | fail)
    all_goals (obtain ⟨_, _, _, _, hBl⟩ := ‹_ ∧ _ ∧ _ ∧ _ ∧ _›)
    all_goals (go_wp2_with fail; go_meet)
    all_goals (first
      | exact ⟨_, _, _, rfl, rfl, hide (kp_new hBl zc zb ow1 ow2 (by omega))⟩
      | exact ⟨_, _, _, rfl, rfl, hide (kp_set hBl (by have h1 := hba.size; have h2 := hbb.size; have h0 : w2.drew.heap.size = w2.heap.size := rfl; (try simp only [World.size_alloc] at h1 h2 ⊢); omega) (by have h1 := hba.size; have h2 := hbb.size; have h0 : w2.drew.heap.size = w2.heap.size := rfl; (try simp only [World.size_alloc] at h1 h2 ⊢); omega) m0 m1 m4 ow1 ow2 (by have h1 := hba.size; have h2 := hbb.size; have h0 : w2.drew.heap.size = w2.heap.size := rfl; (try simp only [World.size_alloc] at h1 h2 ⊢); omega) trivial)⟩
      | exact ⟨_, _, _, rfl, rfl, hide (kp_set hBl (Nat.le_refl _) zb m0 m1 m4 ow1 ow2 (Nat.lt_of_lt_of_le va.2.2.2.2 hbb.size) trivial)⟩
      | fail)
  case rest =>
    obtain ⟨V, vv1, vv2, rfl, rfl, hK⟩ := hcut
    obtain ⟨v1, j1, rfl⟩ := own_sh hK.out.2.2.2.1
    obtain ⟨v2, j2, rfl⟩ := own_sh hK.out.2.2.2.2
    have hKB := hK.out.1
    have hBd : Below w.heap.size w wc := HB2.out.trans (hKB.mono HB2.out.size)
    obtain ⟨p0, p1, z3⟩ := PBox.below ⟨q0, q1, z2⟩ hKB
    obtain ⟨p2, p3, z3'⟩ := PBox.below ⟨q2, q3, z2'⟩ hKB
    clear q0 q1 q2 q3
    go_wp2_with fail
    refine (toP_any HN.out HM.out (by omega) (by omega) (HA.out.below hBd) (HB.out.below hBd)).mono ?_
    rintro e w4 ⟨x1, y1, rfl, hb4, hx1, hxy1, hy1, own1, own2⟩
    have hB4 : Below w.heap.size w w4 := hBd.trans (hb4.mono hBd.size)
    obtain ⟨q0, q1, z4⟩ := (PBox.below ⟨p0, p1, z3⟩ hb4)
    obtain ⟨q2, q3, z4'⟩ := (PBox.below ⟨p2, p3, z3'⟩ hb4)
    have O1 := hide own1
    have O2 := hide own2
    clear p0 p1 p2 p3 own1 own2
    have bn := below_new w4 (.cells #[.slice (some ⟨x1, 0, none⟩) n n, .slice (some ⟨y1, 0, none⟩) m m] 26)
    have hB5 := hB4.trans (bn.mono hB4.size)
    obtain ⟨p0, p1, z5⟩ := (PBox.below ⟨q0, q1, z4⟩ bn)
    obtain ⟨p2, p3, z5'⟩ := (PBox.below ⟨q2, q3, z4'⟩ bn)
    clear q0 q1 q2 q3
    go_wp2_with fail
    refine (toP_any HN'.out HM'.out (by omega) (by omega) (HA'.out.below hB5) (HB'.out.below hB5)).mono ?_
    rintro e w6 ⟨x2, y2, rfl, hb6, hx2, hxy2, hy2, own1, own2⟩
    obtain ⟨q0, q1, z6⟩ := (PBox.below ⟨p0, p1, z5⟩ hb6)
    obtain ⟨q2, q3, z6'⟩ := (PBox.below ⟨p2, p3, z5'⟩ hb6)
    obtain ⟨q4, q5, z6''⟩ := (PBox.new w4 _ _ _).below hb6
    have O3 := hide own1
    have O4 := hide own2
    clear p0 p1 p2 p3 own1 own2
    have bn6 := below_new w6 (.cells #[.slice (some ⟨x2, 0, none⟩) n' n', .slice (some ⟨y2, 0, none⟩) m' m'] 26)
    obtain ⟨p0, p1, z7⟩ := (PBox.below ⟨q0, q1, z6⟩ bn6)
    obtain ⟨p2, p3, z7'⟩ := (PBox.below ⟨q2, q3, z6'⟩ bn6)
    obtain ⟨p4, p5, z7''⟩ := (PBox.below ⟨q4, q5, z6''⟩ bn6)
    clear q0 q1 q2 q3 q4 q5
    have R1' := hide ((arow_owns HN.out.symm (own_below O1.out bn)).below hb6)
    have R2' := hide ((arow_owns HM.out.symm (own_below O2.out bn)).below hb6)
    have R3' := hide (arow_owns HN'.out.symm O3.out)
    have R4' := hide (arow_owns HM'.out.symm O4.out)
    go_wp2_with fail
    refine (Hi.out _ x1 y1 x2 y2 (R1'.out.alloc _) (R2'.out.alloc _) (R3'.out.alloc _) (R4'.out.alloc _)).mono ?_
    rintro e w8 ⟨vg1, vg2, rfl, hb8, og1, og2, gne⟩
    obtain ⟨g1, k1, rfl⟩ := own_sh og1
    obtain ⟨g2, k2, rfl⟩ := own_sh og2
    have C8 : Cs w8 [(w.heap.size, .slice a n c, .slice b m d), (w.heap.size + 1, .slice a' n' c', .slice b' m' d'), (w4.heap.size, .slice (some ⟨x1, 0, none⟩) n n, .slice (some ⟨y1, 0, none⟩) m m), (w6.heap.size, .slice (some ⟨x2, 0, none⟩) n' n', .slice (some ⟨y2, 0, none⟩) m' m'), (V, .slice v1 r j1, .slice v2 r j2)] :=
      Cs.below ⟨⟨p0, p1, z7⟩, ⟨p2, p3, z7'⟩, ⟨p4, p5, z7''⟩, PBox.new _ _ _ _, hK.out.2.1.below (hb4.trans ((bn.trans ((hb6.trans (bn6.mono hb6.size)).mono bn.size)).mono hb4.size)), trivial⟩ hb8
    have bw : Below wc.heap.size wc (w6.alloc (.cells #[.slice (some ⟨x2, 0, none⟩) n' n', .slice (some ⟨y2, 0, none⟩) m' m'] 26)) := hb4.trans ((bn.trans ((hb6.trans (bn6.mono hb6.size)).mono bn.size)).mono hb4.size)
    have bw8 : Below wc.heap.size wc w8 := bw.trans (hb8.mono bw.size)
    have bg := below_new w8 (.cells #[.slice g1 r k1, .slice g2 r k2] 26)
    have bw9 := bw8.trans (bg.mono bw8.size)
    obtain ⟨e0, e1, e2, e3, e4, _⟩ := C8.below bg
    have C9 : Cs (w8.alloc (.cells #[.slice g1 r k1, .slice g2 r k2] 26)) [(w.heap.size, .slice a n c, .slice b m d), (w.heap.size + 1, .slice a' n' c', .slice b' m' d'), (w4.heap.size, .slice (some ⟨x1, 0, none⟩) n n, .slice (some ⟨y1, 0, none⟩) m m), (w6.heap.size, .slice (some ⟨x2, 0, none⟩) n' n', .slice (some ⟨y2, 0, none⟩) m' m'), (V, .slice v1 r j1, .slice v2 r j2), (w8.heap.size, .slice g1 r k1, .slice g2 r k2)] := ⟨e0, e1, e2, e3, e4, PBox.new _ _ _ _, trivial⟩
    clear e0 e1 e2 e3 e4
    have HC := hide C9
    obtain ⟨⟨c0, c1, s0⟩, ⟨c2, c3, s1⟩, ⟨c4, c5, s2⟩, ⟨c6, c7, s3⟩, ⟨c8, c9, s4⟩, _⟩ := C9
    have OG := hide (And.intro og1 og2)
    have G0 := hide (own_below og1 bg)
    have G1 := hide (own_below og2 bg)
    have V0 := hide (own_below hK.out.2.2.2.1 bw9)
    have V1 := hide (own_below hK.out.2.2.2.2 bw9)
    clear p0 p1 p2 p3 p4 p5 og1 og2 C8
    go_wp2_with fail
    refine (eqPV_any HR1.out HR2.out (by omega) G0.out G1.out V0.out V1.out).mono ?_
    rintro e w9 ⟨rfl, hb9⟩
    have hB9 := bw9.trans (hb9.mono bw9.size)
    have HC9 := hide (HC.out.below hb9)
    obtain ⟨⟨d0, d1, t0⟩, ⟨d2, d3, t1⟩, ⟨d4, d5, t2⟩, ⟨d6, d7, t3⟩, ⟨d8, d9, t4⟩, ⟨d10, d11, t5⟩, _⟩ := HC9.out
    clear c0 c1 c2 c3 c4 c5 c6 c7 c8 c9 HC
    have HW9 := hide (hBd.trans (hB9.mono hBd.size))
    have X1 := hide ((R1'.out.alloc (.cells #[.slice (some ⟨x2, 0, none⟩) n' n', .slice (some ⟨y2, 0, none⟩) m' m'] 26)).below (hb8.trans ((bg.trans (hb9.mono bg.size)).mono hb8.size)))
    have X2 := hide ((R2'.out.alloc (.cells #[.slice (some ⟨x2, 0, none⟩) n' n', .slice (some ⟨y2, 0, none⟩) m' m'] 26)).below (hb8.trans ((bg.trans (hb9.mono bg.size)).mono hb8.size)))
    have X3 := hide ((R3'.out.alloc (.cells #[.slice (some ⟨x2, 0, none⟩) n' n', .slice (some ⟨y2, 0, none⟩) m' m'] 26)).below (hb8.trans ((bg.trans (hb9.mono bg.size)).mono hb8.size)))
    have X4 := hide ((R4'.out.alloc (.cells #[.slice (some ⟨x2, 0, none⟩) n' n', .slice (some ⟨y2, 0, none⟩) m' m'] 26)).below (hb8.trans ((bg.trans (hb9.mono bg.size)).mono hb8.size)))
    go_upto_region 14 with fail
    go_region_held3 (fun w' => w'.cell? ⟨w.heap.size, 0, none⟩ = some (.slice a n c) ∧ w'.cell? ⟨w.heap.size, 1, none⟩ = some (.slice b m d) ∧ w'.cell? ⟨w4.heap.size, 0, none⟩ = some (.slice (some ⟨x1, 0, none⟩) n n) ∧ w'.cell? ⟨w4.heap.size, 1, none⟩ = some (.slice (some ⟨y1, 0, none⟩) m m) ∧ Below w9.heap.size w9 w')
      (first | exact ⟨d0, d1, d4, d5, below_drewN (Below.refl _ _) 1⟩ | assumption | exact kP_call t0 t2 ‹_› (by assumption) | fail)
      (first
      | (go_at_call 10; refine (toP_b HN HM hnm HA HB HW9 (by assumption)).mono ?_; rintro e wa ⟨xa, ya, rfl, hba, Ra1, Ra2⟩)
      | (go_at_call 12; refine (eqP_b HN HM hnm X1 X2 (by assumption) Ra1 Ra2).mono ?_; rintro e wb ⟨rfl, hbb⟩)
      | fail)
    obtain ⟨_, _, _, _, hbX⟩ := ‹_ ∧ _ ∧ _ ∧ _ ∧ _›
    obtain ⟨⟨f0, f1, _⟩, ⟨f2, f3, t1'⟩, ⟨f4, f5, _⟩, ⟨f6, f7, t3'⟩, ⟨f8, f9, _⟩, ⟨f10, f11, _⟩, _⟩ := HC9.out.below hbX
    have HWb := hide (HW9.out.trans (hbX.mono HW9.out.size))
    have Y3 := hide (X3.out.below hbX)
    have Y4 := hide (X4.out.below hbX)
    clear d0 d1 d2 d3 d4 d5 d6 d7 d8 d9 d10 d11
    go_upto_region 16 with fail
    go_region_held3 (fun w' => w'.cell? ⟨w.heap.size + 1, 0, none⟩ = some (.slice a' n' c') ∧ w'.cell? ⟨w.heap.size + 1, 1, none⟩ = some (.slice b' m' d') ∧ w'.cell? ⟨w6.heap.size, 0, none⟩ = some (.slice (some ⟨x2, 0, none⟩) n' n') ∧ w'.cell? ⟨w6.heap.size, 1, none⟩ = some (.slice (some ⟨y2, 0, none⟩) m' m') ∧ Below wb.heap.size wb w')
      (first | exact ⟨f2, f3, f6, f7, below_drewN (Below.refl _ _) 1⟩ | assumption | exact kP_call t1' t3' ‹_› (by assumption) | fail)
      (first
      | (go_at_call 10; refine (toP_b HN' HM' hnm' HA' HB' HWb (by assumption)).mono ?_; rintro e wa' ⟨xa', ya', rfl, hba', Ra1', Ra2'⟩)
      | (go_at_call 12; refine (eqP_b HN' HM' hnm' Y3 Y4 (by assumption) Ra1' Ra2').mono ?_; rintro e we ⟨rfl, hbe⟩)
      | fail)
    obtain ⟨_, _, _, _, hbY⟩ := ‹_ ∧ _ ∧ _ ∧ _ ∧ _›
    have bXY := hbX.trans (hbY.mono hbX.size)
    obtain ⟨⟨d0, d1, _⟩, ⟨d2, d3, _⟩, ⟨d4, d5, _⟩, ⟨d6, d7, _⟩, ⟨d8, d9, _⟩, ⟨d10, d11, _⟩, _⟩ := HC9.out.below bXY
    clear f0 f1 f2 f3 f4 f5 f6 f7 f8 f9 f10 f11
    have b69 : Below w6.heap.size w6 w9 := bn6.trans ((hb8.trans ((bg.trans (hb9.mono bg.size)).mono hb8.size)).mono bn6.size)
    have b49 : Below w4.heap.size w4 w9 := bn.trans ((hb6.trans (b69.mono hb6.size)).mono bn.size)
    have U1 := hide (own_below O1.out (b49.trans (bXY.mono b49.size)))
    have U2 := hide (own_below O2.out (b49.trans (bXY.mono b49.size)))
    have U3 := hide (own_below O3.out (b69.trans (bXY.mono b69.size)))
    have U4 := hide (own_below O4.out (b69.trans (bXY.mono b69.size)))
    have l1 : w4.heap.size + 1 ≤ x2 := by simpa using hx2
    have l2 : w6.heap.size + 1 ≤ w8.heap.size := by simpa using hb8.size
    have l3 : w9.heap.size ≤ we.heap.size := bXY.size
    have l4 : V < wc.heap.size := hK.out.2.1.2.2
    have l5 : w2.heap.size ≤ wc.heap.size := hKB.size
    have l6 : w.heap.size + 1 < wc.heap.size := z3'
    have l7 : w4.heap.size + 1 ≤ w6.heap.size := by simpa using hb6.size
    have bw9e := hb9.trans (bXY.mono hb9.size)
    have ge : ∀ g, (Value.slice g1 r k1).ownBlock = some g ∨ (Value.slice g2 r k2).ownBlock = some g → w6.heap.size + 1 ≤ g ∧ g < w8.heap.size := fun g hg => by
      rcases hg with hg | hg
      · simpa using OG.out.1.lt g hg
      · simpa using OG.out.2.lt g hg
    have HGE := hide ge
    have ve : ∀ g, (Value.slice v1 r j1).ownBlock = some g ∨ (Value.slice v2 r j2).ownBlock = some g → g < wc.heap.size := fun g hg => by
      rcases hg with hg | hg
      · exact own_hi hK.out.2.2.2.1 hg
      · exact own_hi hK.out.2.2.2.2 hg
    have HVE := hide ve
    have HCe := hide (HC9.out.below bXY)
    clear ge ve
    go_wp2_with fail
    refine (markP_any HN.out HM.out (by omega) (by omega) (by omega) (by omega) (by omega) U1.out U2.out).mono ?_
    rintro e w10 ⟨rfl, _, _, of1⟩
    have m1 := of1.size
    obtain ⟨E0, E1, E2, E3, E4, E5, _⟩ := HCe.out
    have F3 := hide (E3.keep of1.size (of1.block _ (by omega) (by omega) (by omega)))
    have U3' := hide (owns_keep U3.out (of1.block x2 (own_near U3.out) (by omega) (by omega)))
    have U4' := hide (owns_keep U4.out (of1.block y2 (own_near U4.out) (by omega) (by omega)))
    obtain ⟨f6, f7, _⟩ := F3.out
    have HE := hide (And.intro E0 (And.intro E1 (And.intro E4 E5)))
    clear d0 d1 d2 d3 d4 d5 d6 d7 d8 d9 d10 d11 E0 E1 E2 E3 E4 E5
    go_wp2_with fail
    refine (markP_any HN'.out HM'.out (by omega) (by omega) (by omega) (by omega) (by omega) U3'.out U4'.out).mono ?_
    rintro e w11 ⟨rfl, _, _, of2⟩
    have m2 := of2.size
    have FR : ∀ b, b < we.heap.size → b ≠ x1 → b ≠ y1 → b ≠ x2 → b ≠ y2 → w11.heap[b]? = we.heap[b]? := fun b hb n1 n2 n3 n4 => (of2.block b (by omega) n3 n4).trans (of1.block b hb n1 n2)
    obtain ⟨E0, E1, E4, E5⟩ := HE.out
    have sz : we.heap.size ≤ w11.heap.size := by omega
    have D0 := E0.keep sz (FR _ (by omega) (by omega) (by omega) (by omega) (by omega))
    have D1 := E1.keep sz (FR _ (by omega) (by omega) (by omega) (by omega) (by omega))
    have D4 := E4.keep sz (FR _ (by omega) (by omega) (by omega) (by omega) (by omega))
    have D5 := E5.keep sz (FR _ (by omega) (by omega) (by omega) (by omega) (by omega))
    have G0' := hide (own_keep (own_below G0.out bw9e) fun g hg hl => FR g hl (by have := HGE.out g (Or.inl hg); omega) (by have := HGE.out g (Or.inl hg); omega) (by have := HGE.out g (Or.inl hg); omega) (by have := HGE.out g (Or.inl hg); omega))
    have G1' := hide (own_keep (own_below G1.out bw9e) fun g hg hl => FR g hl (by have := HGE.out g (Or.inr hg); omega) (by have := HGE.out g (Or.inr hg); omega) (by have := HGE.out g (Or.inr hg); omega) (by have := HGE.out g (Or.inr hg); omega))
    have V0' := hide (own_keep (own_below V0.out bw9e) fun g hg hl => FR g hl (by have := HVE.out g (Or.inl hg); omega) (by have := HVE.out g (Or.inl hg); omega) (by have := HVE.out g (Or.inl hg); omega) (by have := HVE.out g (Or.inl hg); omega))
    have V1' := hide (own_keep (own_below V1.out bw9e) fun g hg hl => FR g hl (by have := HVE.out g (Or.inr hg); omega) (by have := HVE.out g (Or.inr hg); omega) (by have := HVE.out g (Or.inr hg); omega) (by have := HVE.out g (Or.inr hg); omega))
    have hBe : Below w.heap.size w we := HW9.out.trans (bXY.mono HW9.out.size)
    have hB11 : Below w.heap.size w w11 := (hBe.trans (of1.below (by omega) (by omega) (by omega))).trans (of2.below (by omega) (by omega) (by omega))
    have HB11 := hide hB11
    have hk : ¬ (1 : Int) + (n : Int) + (m : Int) + (n' : Int) + (m' : Int) < 0 := by omega
    have HD := hide (And.intro D0 (And.intro D1 (And.intro D4 D5)))
    obtain ⟨d8, d9, _⟩ := D4
    obtain ⟨d10, d11, _⟩ := D5
    clear D0 D1 E0 E1 E4 E5 FR f6 f7 of1 of2 hBe hB11
    go_wp2_with fail
    refine (eqPV_any HR1.out HR2.out (by omega) G0'.out G1'.out V0'.out V1'.out).mono ?_
    rintro e w12 ⟨rfl, hb12⟩
    obtain ⟨D0, D1, D4, D5⟩ := HD.out
    have HD12 := hide (And.intro (D0.below hb12) (And.intro (D1.below hb12) (And.intro (D4.below hb12) (D5.below hb12))))
    obtain ⟨_, _, _, f10, f11, t12⟩ := HD12.out
    have m3 := hb12.size
    have HB12 := hide (HB11.out.trans (hb12.mono HB11.out.size))
    have G0 := hide (own_below G0'.out hb12)
    have G1 := hide (own_below G1'.out hb12)
    have V0 := hide (own_below V0'.out hb12)
    have V1 := hide (own_below V1'.out hb12)
    have GNE := hide gne
    clear D0 D1 D4 D5 d8 d9 d10 d11
    go_wp2_with fail
    refine (markPV_any HR1.out HR2.out (by omega) (by omega) (by omega) G0.out G1.out GNE.out).mono ?_
    rintro e w13 ⟨rfl, hv1, hv2, ofv⟩
    obtain ⟨D0, D1, D4, D5⟩ := HD12.out
    have m4 := ofv.size
    have FV : ∀ b, b < w12.heap.size → (b < wc.heap.size ∨ b = w8.heap.size) → w13.heap[b]? = w12.heap[b]? := fun b hb ho => ofv.block b hb (fun he => by have := HGE.out b (Or.inl he.symm); omega) (fun he => by have := HGE.out b (Or.inr he.symm); omega)
    have C0 := D0.keep m4 (FV _ (by omega) (Or.inl (by omega)))
    have C1 := D1.keep m4 (FV _ (by omega) (Or.inl (by omega)))
    have C4 := D4.keep m4 (FV _ (by omega) (Or.inl (by omega)))
    have C5 := D5.keep m4 (FV _ (by omega) (Or.inr rfl))
    have V0'' := hide (own_keep V0.out fun g hg hl => FV g hl (Or.inl (HVE.out g (Or.inl hg))))
    have V1'' := hide (own_keep V1.out fun g hg hl => FV g hl (Or.inl (HVE.out g (Or.inr hg))))
    have hB13 : Below w.heap.size w w13 := HB12.out.trans ⟨ofv.os, ofv.tape, ofv.output, ofv.size, fun b hb => FV b (by omega) (Or.inl (by omega))⟩
    have HB13 := hide hB13
    have HH := hide (And.intro hv1 hv2)
    have HD13 := hide (And.intro C0 (And.intro C1 (And.intro C4 C5)))
    have hq0 : ¬ (1 : Int) + (r : Int) + (r : Int) < 0 := by omega
    have hq1 : ((1 : Int) + (r : Int) + (r : Int) != 1 + (r : Int) + (r : Int)) = false := by simp
    obtain ⟨d10, d11, _⟩ := C5
    clear D0 D1 D4 D5 C0 C1 C4 FV f10 f11 hv1 hv2 hB13 ofv
    go_wp2_with fail
    refine (heldPV_any (by omega) (by omega) (by omega) HH.out.1 HH.out.2).mono ?_
    rintro e w14 ⟨rfl, hb14⟩
    obtain ⟨D0, D1, D4, D5⟩ := HD13.out
    have HB14 := hide (HB13.out.trans (hb14.mono HB13.out.size))
    have HH14 := hide (And.intro (HH.out.1.below hb14) (HH.out.2.below hb14))
    have HV14 := hide (And.intro (own_below V0''.out hb14) (own_below V1''.out hb14))
    have HD14 := hide (And.intro (D4.below hb14) (D5.below hb14))
    clear d10 d11
    obtain ⟨d0, d1, t14⟩ := D0.below hb14
    obtain ⟨d2, d3, t14'⟩ := D1.below hb14
    clear D0 D1 D4 D5
    clear O1 O2 O3 O4 U1 U2 U3 U4 U3' U4' R1' R2' R3' R4' X1 X2 X3 X4 Y3 Y4 HCe HC9 HE F3 HW9 HWb G0 G1 G0' G1' V0 V1 V0' V1' V0'' V1'' HD HD12 HD13 HGE HVE HB11 HB12 HB13 HH
    go_upto_region 31 with fail
    go_cut [15, 16] (fun s15 s16 wd => ∃ V' v1 v2, s15 = .pointer (some ⟨V', 0, none⟩) ∧ s16 = .bool ok ∧ Hid (Kp w14 V' v1 v2 r R1 R2 wd))
    case first =>
      go_region_held3 (fun w' => w'.cell? ⟨w.heap.size, 0, none⟩ = some (.slice a n c) ∧ w'.cell? ⟨w.heap.size, 1, none⟩ = some (.slice b m d) ∧ w'.cell? ⟨w.heap.size + 1, 0, none⟩ = some (.slice a' n' c') ∧ w'.cell? ⟨w.heap.size + 1, 1, none⟩ = some (.slice b' m' d') ∧ Below w14.heap.size w14 w')
        (first | exact ⟨d0, d1, d2, d3, below_drewN (Below.refl _ _) 1⟩ | assumption | exact kP_call t14 t14' ‹_› (by assumption) | exact kP_alloc _ t14 t14' ‹_› | exact kP_swap t14 t14' (by assumption) ‹_› | exact kP_set t14 t14' (by omega) (kP_set t14 t14' (by omega) ‹_›) | fail)
        (first
        | (go_at_call_of 10 (Value.agg #[Value.slice a n c, Value.slice b m d]); refine (toP_b HN HM hnm HA HB HB14 (by assumption)).mono ?_; rintro e wa ⟨xa, ya, rfl, hba, Ra1, Ra2⟩; have za := Nat.le_trans (s_size (w := w14) (A := w.heap.size) (B := w.heap.size + 1) (by assumption)) hba.size; (try (have va := vzd (by simp) hba)))
        | (go_at_call 10; refine (toP_b HN' HM' hnm' HA' HB' HB14 (by assumption)).mono ?_; rintro e wb ⟨xb, yb, rfl, hbb, Rb1, Rb2⟩; have zb := Nat.le_trans (s_size (w := w14) (A := w.heap.size) (B := w.heap.size + 1) (by assumption)) hbb.size; (try (have vb := va.step hbb)); (try (have vb := vz (by simp) hbb)))
        | (go_at_call 11; refine (Hi.out _ xa ya xb yb (Ra1.out.below hbb) (Ra2.out.below hbb) Rb1.out Rb2.out).mono ?_; rintro e wc ⟨v1, v2, rfl, hbc, ow1, ow14, ne12⟩; have zc := Nat.le_trans (s_size (w := w14) (A := w.heap.size) (B := w.heap.size + 1) (by assumption)) hbc.size; obtain ⟨g1, k1, rfl⟩ := own_sh ow1; obtain ⟨g2, k2, rfl⟩ := own_sh ow14; (try (have vc := vb.step hbc; obtain ⟨m0, m1, m2, m3, m4⟩ := vc)); (try (have vc := vz (by simp) hbc; obtain ⟨m0, m1, m2, m3, m4⟩ := vc)))
        | (go_at_call 11; refine (Hi.out _ xa ya xb yb ((Ra1.out.alloc _).below hbb) ((Ra2.out.alloc _).below hbb) Rb1.out Rb2.out).mono ?_; rintro e wc ⟨v1, v2, rfl, hbc, ow1, ow14, ne12⟩; have zc := Nat.le_trans (s_size (w := w14) (A := w.heap.size) (B := w.heap.size + 1) (by assumption)) hbc.size; obtain ⟨g1, k1, rfl⟩ := own_sh ow1; obtain ⟨g2, k2, rfl⟩ := own_sh ow14; (try (have vc := vb.step hbc; obtain ⟨m0, m1, m2, m3, m4⟩ := vc)); (try (have vc := vz (by simp) hbc; obtain ⟨m0, m1, m2, m3, m4⟩ := vc)))
        | (go_at_call 11; refine (Hi.out _ xa ya xb yb ((Ra1.out.below hbb).alloc _) ((Ra2.out.below hbb).alloc _) (Rb1.out.alloc _) (Rb2.out.alloc _)).mono ?_; rintro e wc ⟨v1, v2, rfl, hbc, ow1, ow14, ne12⟩; have zc := Nat.le_trans (s_size (w := w14) (A := w.heap.size) (B := w.heap.size + 1) (by assumption)) hbc.size; obtain ⟨g1, k1, rfl⟩ := own_sh ow1; obtain ⟨g2, k2, rfl⟩ := own_sh ow14; (try (have vc := vb.step hbc; obtain ⟨m0, m1, m2, m3, m4⟩ := vc)); (try (have vc := vz (by simp) hbc; obtain ⟨m0, m1, m2, m3, m4⟩ := vc)))
        | fail)
      all_goals (obtain ⟨_, _, _, _, hBl⟩ := ‹_ ∧ _ ∧ _ ∧ _ ∧ _›)
      all_goals (go_wp2_with fail; go_meet)
      all_goals (first
        | exact ⟨_, _, _, rfl, rfl, hide (kp_new hBl zc zb ow1 ow14 (by omega))⟩
        | exact ⟨_, _, _, rfl, rfl, hide (kp_set hBl (by have h1 := hba.size; have h2 := hbb.size; have h0 : w14.drew.heap.size = w14.heap.size := rfl; (try simp only [World.size_alloc] at h1 h2 ⊢); omega) (by have h1 := hba.size; have h2 := hbb.size; have h0 : w14.drew.heap.size = w14.heap.size := rfl; (try simp only [World.size_alloc] at h1 h2 ⊢); omega) m0 m1 m4 ow1 ow14 (by have h1 := hba.size; have h2 := hbb.size; have h0 : w14.drew.heap.size = w14.heap.size := rfl; (try simp only [World.size_alloc] at h1 h2 ⊢); omega) trivial)⟩
        | exact ⟨_, _, _, rfl, rfl, hide (kp_set hBl (Nat.le_refl _) zb m0 m1 m4 ow1 ow14 (Nat.lt_of_lt_of_le va.2.2.2.2 hbb.size) trivial)⟩
        | fail)
    case rest =>
      obtain ⟨V', vv1', vv2', rfl, rfl, hK'⟩ := hcut
      obtain ⟨v1', j1', rfl⟩ := own_sh hK'.out.2.2.2.1
      obtain ⟨v2', j2', rfl⟩ := own_sh hK'.out.2.2.2.2
      have bz := hK'.out.1
      obtain ⟨e0, e1, _⟩ := hK'.out.2.1
      obtain ⟨e2, e3, _⟩ := HD14.out.1.below bz
      obtain ⟨e4, e5, _⟩ := HD14.out.2.below bz
      have W0 := hide (own_below HV14.out.1 bz)
      have W1 := hide (own_below HV14.out.2 bz)
      have HBz := hide (HB14.out.trans (bz.mono HB14.out.size))
      clear d0 d1 d2 d3
      go_wp2_with fail
      refine (eqPV_any HR1.out HR2.out (by omega) hK'.out.2.2.2.1 hK'.out.2.2.2.2 W0.out W1.out).mono ?_
      rintro e w16 ⟨rfl, hb16⟩
      obtain ⟨f4, f5, _⟩ := (HD14.out.2.below bz).below hb16
      have HH16 := hide (And.intro ((HH14.out.1.below bz).below hb16) ((HH14.out.2.below bz).below hb16))
      have HB16 := hide (HBz.out.trans (hb16.mono HBz.out.size))
      clear e0 e1 e2 e3 e4 e5
      go_wp2_with fail
      refine (heldPV_any (by omega) (by omega) (by omega) HH16.out.1 HH16.out.2).mono ?_
      rintro e w17 ⟨rfl, hb17⟩
      have HB17 := HB16.out.trans (hb17.mono HB16.out.size)
      go_wp2_with fail
      go_ret
      exact ⟨rfl, HB17⟩
end Go.Proofs.Ytnpajgmlkbfjgat
