/-
  In one: Ms, Nd, Nf, LPoW, Tg15, Tj15, Se15, Hr17, Si, Ht17, Hi17, Hj17, Hv17, Hw17, Hx17, Hn17, Hy17, Og, Ol, Os15.
-/
import Derived.Test.YtlbagigghpiifaaGreatZ3
import Derived.Deep.DeepCutAuto
import Derived.Deep.RegionHeld3
import Derived.Test.YtlbagigghpiifaaGreatZ2
import Derived.Test.YtlbagigghpiifaaGreatZ1
import Derived.Deep.AppendLies
import Derived.ChangeSlices
import Derived.ProofKit
import Derived.OpenShut
import Derived.ChangeOld
import Derived.Below
import Derived.Deep.SlicePairs
namespace Go.Proofs.YtlbagigghpiifaaGreat
open Go.RowKit Go.Maps Go.Sort

/-- A list of n numbers: g of those in l, 0 of the others. -/
def rowOf (g : Nat → Int) (l : List Nat) (n : Nat) : List Int := (List.range n).map fun i => if i ∈ l then g i else 0
theorem rowOf_len (g : Nat → Int) (l : List Nat) (n : Nat) : (rowOf g l n).length = n := by simp [rowOf]
theorem rowOf_nil (g : Nat → Int) (n : Nat) : rowOf g [] n = List.replicate n 0 := by
  apply List.ext_getElem
  · simp [rowOf]
  · intro i h1 h2; simp [rowOf]
theorem rowOf_step (g : Nat → Int) (l : List Nat) (n q : Nat) : (rowOf g l n).set q (g q) = rowOf g (l ++ [q]) n := by
  apply List.ext_getElem
  · simp [rowOf]
  · intro i h1 h2
    rw [List.getElem_set]
    simp only [rowOf, List.getElem_map, List.getElem_range, List.mem_append, List.mem_singleton]
    by_cases e : q = i
    · subst e; simp
    · rw [if_neg e]
      by_cases hi : i ∈ l
      · simp [hi]
      · simp [hi, show ¬ i = q from fun h => e h.symm]
/-- How often, how much, good by good. -/
def Dem.picks (f : Dem) (n : Nat) : List Int := (List.range n).map fun i => (f.get i).1
def Dem.flow (f : Dem) (n : Nat) : List Int := (List.range n).map fun i => (f.get i).2
theorem picks_len (f : Dem) (n : Nat) : (f.picks n).length = n := by simp [Dem.picks]
theorem flow_len (f : Dem) (n : Nat) : (f.flow n).length = n := by simp [Dem.flow]
theorem rowOf_picks (f : Dem) (n : Nat) : rowOf (fun i => (f.get i).1) (f.keys n) n = f.picks n := by
  apply List.ext_getElem
  · simp [rowOf, Dem.picks]
  · intro i h1 h2
    have hi : i < n := by simpa [rowOf] using h1
    simp only [rowOf, Dem.picks, List.getElem_map, List.getElem_range, mem_keys]
    cases hf : f i with
    | none => simp [Dem.get, hf]
    | some x => simp [hi]
theorem rowOf_flow (f : Dem) (n : Nat) : rowOf (fun i => (f.get i).2) (f.keys n) n = f.flow n := by
  apply List.ext_getElem
  · simp [rowOf, Dem.flow]
  · intro i h1 h2
    have hi : i < n := by simpa [rowOf] using h1
    simp only [rowOf, Dem.flow, List.getElem_map, List.getElem_range, mem_keys]
    cases hf : f i with
    | none => simp [Dem.get, hf]
    | some x => simp [hi]

theorem own_made_at {w : World} {g n base : Nat} (h : w.heap[g]? = some (.cells (madeCells #[.int .i64 0] n) 3 (0, 0))) (hb : base ≤ g) (hn : n ≤ 1000000) : w.ownsRow base 3 1 (.slice (some ⟨g, 0, none⟩) n n) n (ints (List.replicate n 0)) := by
  refine ⟨by simp [ints], Or.inr ⟨g, n, _, rfl, hb, h, Nat.le_refl _, by unfold maxLen; omega, by simp [madeCells], ?_⟩⟩
  rw [toList_madeCells_one]
  simp [ints]
/-- A profile of no goods asked for, in blocks of its own. -/
structure Fresh (w wc : World) (X Y Z n : Nat) : Prop where
  c0 : wc.cell? ⟨Z, 0, none⟩ = some (.slice (some ⟨X, 0, none⟩) n n)
  c1 : wc.cell? ⟨Z, 1, none⟩ = some (.slice (some ⟨Y, 0, none⟩) n n)
  x : wc.heap[X]? = some (.cells (madeCells #[.int .i64 0] n) 3 (0, 0))
  y : wc.heap[Y]? = some (.cells (madeCells #[.int .i64 0] n) 3 (0, 0))
  below : Below w.heap.size w wc
  xy : X ≠ Y
  xz : X ≠ Z
  yz : Y ≠ Z
  lx : w.heap.size ≤ X
  ly : w.heap.size ≤ Y
  lz : w.heap.size ≤ Z

theorem prof_res {w w1 wc : World} {b : Nat} {t : TypeId} (hg : (w.alloc (.cells #[.slice none 0 0, .slice none 0 0] t)).grownBy w1 (some b)) (hb : b < w.heap.size) (hB : Below w1.heap.size w1 wc) (hs : w.heap.size < w1.heap.size) :
    wc.cell? ⟨w.heap.size, 0, none⟩ = some (.slice none 0 0) ∧ wc.cell? ⟨w.heap.size, 1, none⟩ = some (.slice none 0 0) ∧ wc.frozen? ⟨w.heap.size, 0, none⟩ = false ∧ wc.frozen? ⟨w.heap.size, 1, none⟩ = false := by
  have h1 := hg.block w.heap.size (by simp) (by simp; omega)
  have hc : ∀ i, wc.cell? ⟨w.heap.size, i, none⟩ = (w.alloc (.cells #[.slice none 0 0, .slice none 0 0] t)).cell? ⟨w.heap.size, i, none⟩ := fun i => (hB.cell (p := ⟨w.heap.size, i, none⟩) hs).trans (World.cell?_of_block (a := ⟨w.heap.size, i, none⟩) h1)
  have hf : ∀ i, wc.frozen? ⟨w.heap.size, i, none⟩ = (w.alloc (.cells #[.slice none 0 0, .slice none 0 0] t)).frozen? ⟨w.heap.size, i, none⟩ := fun i => (hB.frozen (p := ⟨w.heap.size, i, none⟩) hs).trans (World.frozen?_of_block (a := ⟨w.heap.size, i, none⟩) h1)
  exact ⟨(hc 0).trans (by simp [go_sem]), (hc 1).trans (by simp [go_sem]), (hf 0).trans (by simp [go_sem]), (hf 1).trans (by simp [go_sem])⟩
theorem prof_grown {w w1 wc : World} {b : Nat} {o : Obj} (hg : (w.alloc o).grownBy w1 (some b)) (hB : Below w1.heap.size w1 wc) : w.grownBy wc (some b) := by
  have bn := (Below.refl w.heap.size w).alloc (Nat.le_refl _) o
  have s1 : w.heap.size ≤ w1.heap.size := Nat.le_trans (by simp) hg.size
  exact ⟨hB.os.trans (hg.os.trans bn.os), hB.tape.trans (hg.tape.trans bn.tape), hB.output.trans (hg.output.trans bn.output), Nat.le_trans s1 hB.size, fun k hk hne => (hB.block k (by omega)).trans ((hg.block k (by simp; omega) hne).trans (bn.block k hk))⟩
theorem grown_more {w wc w2 : World} {b : Nat} (hg : w.grownBy wc (some b)) (hB : Below wc.heap.size wc w2) : w.grownBy w2 (some b) :=
  ⟨hB.os.trans hg.os, hB.tape.trans hg.tape, hB.output.trans hg.output, Nat.le_trans hg.size hB.size, fun k hk hne => (hB.block k (Nat.lt_of_lt_of_le hk hg.size)).trans (hg.block k hk hne)⟩
theorem off_set2 {w wr : World} {x y : Nat} (h : Off2 w wr x y) (i k : Nat) (v u : Value) : Off2 w ((wr.setCell ⟨x, i, none⟩ v).setCell ⟨y, k, none⟩ u) x y :=
  ⟨h.os, h.tape, h.output, by simpa using h.size, fun b hb h1 h2 => (Below.heap_setCell _ _ _ b h2).trans ((Below.heap_setCell _ _ _ b h1).trans (h.block b hb h1 h2))⟩
theorem prof_end {w w2 wr : World} {b X Y : Nat} (hg : w.grownBy w2 (some b)) (h : Off2 w2 wr X Y) (hx : w.heap.size ≤ X) (hy : w.heap.size ≤ Y) (v u : Value) : w.grownBy ((wr.setCell ⟨w.heap.size, 0, none⟩ v).setCell ⟨w.heap.size, 1, none⟩ u) (some b) := by
  have hs := hg.size
  exact ⟨h.os.trans hg.os, h.tape.trans hg.tape, h.output.trans hg.output, by simpa using Nat.le_trans hs h.size, fun k hk hne => (Below.heap_setCell _ _ _ k (by show k ≠ w.heap.size; omega)).trans ((Below.heap_setCell _ _ _ k (by show k ≠ w.heap.size; omega)).trans ((h.block k (by omega) (by omega) (by omega)).trans (hg.block k hk hne)))⟩
theorem own_two {wr : World} {base n c g B : Nat} {xs : List Value} (h : wr.ownsRow base 3 1 (.slice (some ⟨g, 0, none⟩) n c) n xs) (hne : g ≠ B) (v u : Value) : ((wr.setCell ⟨B, 0, none⟩ v).setCell ⟨B, 1, none⟩ u).ownsRow base 3 1 (.slice (some ⟨g, 0, none⟩) n c) n xs :=
  owns_keep (owns_keep h (Below.heap_setCell _ _ _ g hne)) (Below.heap_setCell _ _ _ g hne)
theorem off_refl (w : World) (x y : Nat) : Off2 w w x y := ⟨rfl, rfl, rfl, Nat.le_refl _, fun _ _ _ _ => rfl⟩
theorem bnew (w : World) (o : Obj) : Below w.heap.size w (w.alloc o) := (Below.refl _ _).alloc (Nat.le_refl _) o
theorem at0 (w : World) (a b c : Obj) : (((w.alloc a).alloc b).alloc c).drew.heap[w.heap.size]? = some a := by
  show (((w.alloc a).alloc b).alloc c).heap[w.heap.size]? = some a
  rw [(bnew ((w.alloc a).alloc b) c).block w.heap.size (by simp; omega), (bnew (w.alloc a) b).block w.heap.size (by simp), heap_alloc_new]
theorem at1 (w : World) (a b c : Obj) : (((w.alloc a).alloc b).alloc c).drew.heap[w.heap.size + 1]? = some b := by
  show (((w.alloc a).alloc b).alloc c).heap[w.heap.size + 1]? = some b
  rw [(bnew ((w.alloc a).alloc b) c).block (w.heap.size + 1) (by simp)]
  have := heap_alloc_new (w.alloc a) b
  rwa [World.size_alloc] at this
theorem at2 (w : World) (a b c : Obj) : (((w.alloc a).alloc b).alloc c).drew.heap[w.heap.size + 1 + 1]? = some c := by
  show (((w.alloc a).alloc b).alloc c).heap[w.heap.size + 1 + 1]? = some c
  have := heap_alloc_new ((w.alloc a).alloc b) c
  rwa [World.size_alloc, World.size_alloc] at this
theorem fresh012 (w : World) (n t : Nat) : Hid (Fresh w (((w.alloc (.cells (madeCells #[.int .i64 0] n) 3)).alloc (.cells (madeCells #[.int .i64 0] n) 3)).alloc (.cells #[.slice (some ⟨w.heap.size, 0, none⟩) n n, .slice (some ⟨(w.heap.size + 1), 0, none⟩) n n] t)).drew w.heap.size (w.heap.size + 1) (w.heap.size + 1 + 1) n) :=
  hide ⟨by simp [go_sem], by simp [go_sem], at0 _ _ _ _, at1 _ _ _ _, ((((Below.refl _ _).alloc (Nat.le_refl _) _).alloc (by simp) _).alloc (by simp; omega) _).drew, by omega, by omega, by omega, by omega, by omega, by omega⟩
theorem fresh021 (w : World) (n t : Nat) : Hid (Fresh w (((w.alloc (.cells (madeCells #[.int .i64 0] n) 3)).alloc (.cells #[.slice (some ⟨w.heap.size, 0, none⟩) n n, .slice (some ⟨(w.heap.size + 1 + 1), 0, none⟩) n n] t)).alloc (.cells (madeCells #[.int .i64 0] n) 3)).drew w.heap.size (w.heap.size + 1 + 1) (w.heap.size + 1) n) :=
  hide ⟨by simp [go_sem], by simp [go_sem], at0 _ _ _ _, at2 _ _ _ _, ((((Below.refl _ _).alloc (Nat.le_refl _) _).alloc (by simp) _).alloc (by simp; omega) _).drew, by omega, by omega, by omega, by omega, by omega, by omega⟩
theorem fresh102 (w : World) (n t : Nat) : Hid (Fresh w (((w.alloc (.cells (madeCells #[.int .i64 0] n) 3)).alloc (.cells (madeCells #[.int .i64 0] n) 3)).alloc (.cells #[.slice (some ⟨(w.heap.size + 1), 0, none⟩) n n, .slice (some ⟨w.heap.size, 0, none⟩) n n] t)).drew (w.heap.size + 1) w.heap.size (w.heap.size + 1 + 1) n) :=
  hide ⟨by simp [go_sem], by simp [go_sem], at1 _ _ _ _, at0 _ _ _ _, ((((Below.refl _ _).alloc (Nat.le_refl _) _).alloc (by simp) _).alloc (by simp; omega) _).drew, by omega, by omega, by omega, by omega, by omega, by omega⟩
theorem fresh120 (w : World) (n t : Nat) : Hid (Fresh w (((w.alloc (.cells #[.slice (some ⟨(w.heap.size + 1), 0, none⟩) n n, .slice (some ⟨(w.heap.size + 1 + 1), 0, none⟩) n n] t)).alloc (.cells (madeCells #[.int .i64 0] n) 3)).alloc (.cells (madeCells #[.int .i64 0] n) 3)).drew (w.heap.size + 1) (w.heap.size + 1 + 1) w.heap.size n) :=
  hide ⟨by simp [go_sem], by simp [go_sem], at1 _ _ _ _, at2 _ _ _ _, ((((Below.refl _ _).alloc (Nat.le_refl _) _).alloc (by simp) _).alloc (by simp; omega) _).drew, by omega, by omega, by omega, by omega, by omega, by omega⟩
theorem fresh201 (w : World) (n t : Nat) : Hid (Fresh w (((w.alloc (.cells (madeCells #[.int .i64 0] n) 3)).alloc (.cells #[.slice (some ⟨(w.heap.size + 1 + 1), 0, none⟩) n n, .slice (some ⟨w.heap.size, 0, none⟩) n n] t)).alloc (.cells (madeCells #[.int .i64 0] n) 3)).drew (w.heap.size + 1 + 1) w.heap.size (w.heap.size + 1) n) :=
  hide ⟨by simp [go_sem], by simp [go_sem], at2 _ _ _ _, at0 _ _ _ _, ((((Below.refl _ _).alloc (Nat.le_refl _) _).alloc (by simp) _).alloc (by simp; omega) _).drew, by omega, by omega, by omega, by omega, by omega, by omega⟩
theorem fresh210 (w : World) (n t : Nat) : Hid (Fresh w (((w.alloc (.cells #[.slice (some ⟨(w.heap.size + 1 + 1), 0, none⟩) n n, .slice (some ⟨(w.heap.size + 1), 0, none⟩) n n] t)).alloc (.cells (madeCells #[.int .i64 0] n) 3)).alloc (.cells (madeCells #[.int .i64 0] n) 3)).drew (w.heap.size + 1 + 1) (w.heap.size + 1) w.heap.size n) :=
  hide ⟨by simp [go_sem], by simp [go_sem], at2 _ _ _ _, at1 _ _ _ _, ((((Below.refl _ _).alloc (Nat.le_refl _) _).alloc (by simp) _).alloc (by simp; omega) _).drew, by omega, by omega, by omega, by omega, by omega, by omega⟩

set_option maxHeartbeats 4000000 in
set_option maxRecDepth 100000 in
theorem profile_any {w : World} {b n nn : Nat} {f : Dem} (h : MO w b n nn f) (hn : n ≤ 1000) (hnn : nn ≤ 1000000) :
    Calls Tryz.prog 58 #[.map (some b), .int .i64 (n : Int)] w fun e w' => ∃ x y, e = .returned (.agg #[.slice (some ⟨x, 0, none⟩) n n, .slice (some ⟨y, 0, none⟩) n n]) ∧ x ≠ y ∧ w.grownBy w' (some b) ∧
      w'.ownsRow w.heap.size 3 1 (.slice (some ⟨x, 0, none⟩) n n) n (ints (f.asked.picks n)) ∧ w'.ownsRow w.heap.size 3 1 (.slice (some ⟨y, 0, none⟩) n n) n (ints (f.asked.flow n)) := by
  have hmk := makeI_run n (by omega)
  have hbl := h.lt
  have t0 := tally0
  have t1 := tally1
  have HO := hide (drop_any (h.keep (w' := w.alloc (.cells #[.slice none 0 0, .slice none 0 0] 55)) (((Below.refl _ _).alloc (Nat.le_refl _) _).block b h.lt)) hn hnn)
  clear h
  go_enter Tryz.func58, Tryz.ntmps58
  go_upto_region 2 with (go_at_call 71; refine HO.out.mono ?_; rintro e w1 ⟨rfl, hm1, hg1⟩)
  go_cut [5] (fun s5 wc => ∃ X Y Z, s5 = .pointer (some ⟨Z, 0, none⟩) ∧ Hid (Fresh w1 wc X Y Z n))
  case first =>
    go_region
    all_goals
      go_wp2_with fail
      go_meet
      case rel =>
        first
        | exact ⟨_, _, _, rfl, fresh012 _ _ _⟩
        | exact ⟨_, _, _, rfl, fresh021 _ _ _⟩
        | exact ⟨_, _, _, rfl, fresh102 _ _ _⟩
        | exact ⟨_, _, _, rfl, fresh120 _ _ _⟩
        | exact ⟨_, _, _, rfl, fresh201 _ _ _⟩
        | exact ⟨_, _, _, rfl, fresh210 _ _ _⟩
  case rest =>
    obtain ⟨X, Y, Z, rfl, HF⟩ := hcut
    have hF := HF.out
    have sz1 : w.heap.size + 1 ≤ w1.heap.size := by simpa using hg1.size
    have hlX : X < wc.heap.size := (Array.getElem?_eq_some_iff.1 hF.x).1
    have hlY : Y < wc.heap.size := (Array.getElem?_eq_some_iff.1 hF.y).1
    have hlZ : Z < wc.heap.size := World.block_lt_of_cell? wc _ hF.c0
    have hmc := hm1.below hF.below
    have HO2 := hide (inOrder_any hmc hnn)
    have HMC := hide hmc
    obtain ⟨r0, r1, r2, r3⟩ := prof_res hg1 hbl hF.below (by omega)
    have HG0 := hide (prof_grown hg1 hF.below)
    have lx := hF.lx
    have lx' : w.heap.size ≤ X := by omega
    have ly' : w.heap.size ≤ Y := by have := hF.ly; omega
    have ly := hF.ly
    have lz := hF.lz
    have xy := hF.xy
    have xz := hF.xz
    have yz := hF.yz
    have q0 := hF.c0
    have q1 := hF.c1
    have hkl := keys_len f.asked n
    have HX := hide (own_made_at (base := w.heap.size) hF.x (by omega) (by omega))
    have HY := hide (own_made_at (base := w.heap.size) hF.y (by omega) (by omega))
    clear hm1 hg1 hmc hF HF HO hmk
    generalize hFF : f.asked = F at *
    have HFF := hide hFF
    clear hFF
    go_wp2_with (go_at_call 72; refine HO2.out.mono ?_; rintro e w2 ⟨v, rfl, hb2, own2⟩; obtain ⟨a, cap, rfl⟩ := own_rowM own2)
    have HOW := hide own2
    have HM2 := hide (HMC.out.below hb2)
    have HX2 := hide (owns_keep HX.out (hb2.block X hlX))
    have HY2 := hide (owns_keep HY.out (hb2.block Y hlY))
    have sz2 := hb2.size
    obtain ⟨hc2, hf2⟩ := bcell hb2
    have Q0 := (hc2 _ _ hlZ).trans q0
    have Q1 := (hc2 _ _ hlZ).trans q1
    have R0 := (hc2 _ _ (by omega)).trans r0
    have R1 := (hc2 _ _ (by omega)).trans r1
    have R2 := (hf2 _ _ (by omega)).trans r2
    have R3 := (hf2 _ _ (by omega)).trans r3
    have HG2 := hide (grown_more HG0.out hb2)
    generalize hK : (F.keys n).length = K at *
    have HK := hide hK
    clear own2 HO2 hK q0 q1 r0 r1 r2 r3 hc2 hf2 HX HY HMC HG0
    go_loopw [7, 18] (fun _ s wr => ∃ j : Nat, s = .int .i64 j ∧ j ≤ K ∧ wr.ownsRow w.heap.size 3 1 (.slice (some ⟨X, 0, none⟩) n n) n (ints (rowOf (fun i => (F.get i).1) ((F.keys n).take j) n)) ∧ wr.ownsRow w.heap.size 3 1 (.slice (some ⟨Y, 0, none⟩) n n) n (ints (rowOf (fun i => (F.get i).2) ((F.keys n).take j) n)) ∧ Off2 w2 wr X Y) (fun _ s _ => K - (intOf s).toNat)
    case atStart => exact ⟨0, rfl, Nat.zero_le _, by rw [List.take_zero, rowOf_nil]; exact HX2.out, by rw [List.take_zero, rowOf_nil]; exact HY2.out, off_refl _ _ _⟩
    case round =>
      obtain ⟨j, rfl, hj, hoX, hoY, hoff⟩ := hrel
      have cel : ∀ B i, B < w2.heap.size → B ≠ X → B ≠ Y → wr.cell? ⟨B, i, none⟩ = w2.cell? ⟨B, i, none⟩ := fun B i h1 h2 h3 => World.cell?_of_block (w := w2) (a := ⟨B, i, none⟩) (hoff.block B h1 h2 h3)
      have fro : ∀ B i, B < w2.heap.size → B ≠ X → B ≠ Y → wr.frozen? ⟨B, i, none⟩ = w2.frozen? ⟨B, i, none⟩ := fun B i h1 h2 h3 => World.frozen?_of_block (w := w2) (a := ⟨B, i, none⟩) (hoff.block B h1 h2 h3)
      by_cases hlt : j < K
      · obtain ⟨g, rfl, hg0, hg1, c1⟩ := own_cellM HOW.out HK.out hlt
        have hq := key_at (f := F) (n := n) (j := j) (by rw [HK.out]; exact hlt)
        have htk := take_key (f := F) (n := n) (j := j) (by rw [HK.out]; exact hlt)
        have c1' := (cel g j hg1 (by omega) (by omega)).trans c1
        generalize (F.keys n).getD j 0 = q at *
        have j0 : (0 : Int) ≤ (j : Int) := by omega
        have j1 : (j : Int) < (K : Int) := by omega
        have i0 : (0 : Int) ≤ (q : Int) := by omega
        have i1 : (q : Int) < (n : Int) := by omega
        have S0 := (cel Z 0 (by omega) (by omega) (by omega)).trans Q0
        have S1 := (cel Z 1 (by omega) (by omega) (by omega)).trans Q1
        have hmr := HM2.out.keep (hoff.block b (by omega) (by omega) (by omega))
        have hl1 := hmr.look (i := q) (by omega)
        have hl2 := (hmr.keep (w' := wr.setCell ⟨X, q, none⟩ (.int .i64 (F.get q).1)) (Below.heap_setCell wr _ _ b (by show b ≠ X; omega))).look (i := q) (by omega)
        have d0 : wr.cell? ⟨X, q, none⟩ = some (.int .i64 ((rowOf (fun i => (F.get i).1) ((F.keys n).take j) n).getD q 0)) := by rw [hoX.cellAt q (by omega), ints_get _ q (by rw [rowOf_len]; exact hq)]
        have d1 : wr.cell? ⟨Y, q, none⟩ = some (.int .i64 ((rowOf (fun i => (F.get i).2) ((F.keys n).take j) n).getD q 0)) := by rw [hoY.cellAt q (by omega), ints_get _ q (by rw [rowOf_len]; exact hq)]
        have g0 := hoX.frozenAt q
        have g1 := hoY.frozenAt q
        obtain ⟨st1, _⟩ := hoX.stored q (.int .i64 (F.get q).1)
        rw [ints_set, rowOf_step (fun i => (F.get i).1), ← htk] at st1
        have hoY' := owns_keep hoY (Below.heap_setCell wr ⟨X, q, none⟩ (.int .i64 (F.get q).1) Y (by show Y ≠ X; omega))
        obtain ⟨st2, _⟩ := hoY'.stored q (.int .i64 (F.get q).2)
        rw [ints_set, rowOf_step (fun i => (F.get i).2), ← htk] at st2
        have HST1 := hide (owns_keep st1 (Below.heap_setCell (wr.setCell ⟨X, q, none⟩ (.int .i64 (F.get q).1)) ⟨Y, q, none⟩ (.int .i64 (F.get q).2) X (by show X ≠ Y; omega)))
        have HST2 := hide st2
        have HOF := hide (off_set2 hoff q q (.int .i64 (F.get q).1) (.int .i64 (F.get q).2))
        have e1 : ¬ X = Z := by omega
        have e2 : ¬ X = Y := by omega
        have e3 : ¬ Y = Z := by omega
        generalize (rowOf (fun i => (F.get i).1) ((F.keys n).take j) n).getD q 0 = o1 at d0
        generalize (rowOf (fun i => (F.get i).2) ((F.keys n).take j) n).getD q 0 = o2 at d1
        clear st1 st2 hoX hoY hoY' hoff cel fro c1 hmr htk
        generalize (F.get q).1 = p at *
        generalize (F.get q).2 = y at *
        go_wp2_with fail
        go_roundw
        case rel => exact ⟨j + 1, by go_num, by omega, HST1.out, HST2.out, HOF.out⟩
        case measure => simp only [intOf]; omega
      · have hje : j = K := by omega
        subst hje
        rw [← HK.out, List.take_length, rowOf_picks] at hoX
        rw [← HK.out, List.take_length, rowOf_flow] at hoY
        have S0 := (cel Z 0 (by omega) (by omega) (by omega)).trans Q0
        have S1 := (cel Z 1 (by omega) (by omega) (by omega)).trans Q1
        have U0 := (cel w.heap.size 0 (by omega) (by omega) (by omega)).trans R0
        have U1 := (cel w.heap.size 1 (by omega) (by omega) (by omega)).trans R1
        have U2 := (fro w.heap.size 0 (by omega) (by omega) (by omega)).trans R2
        have U3 := (fro w.heap.size 1 (by omega) (by omega) (by omega)).trans R3
        have HOX := hide hoX
        have HOY := hide hoY
        have HOF := hide hoff
        clear hoX hoY hoff cel fro Q0 Q1 R0 R1 R2 R3
        go_wp2_with fail
        refine bodyPost_ret (v := .agg #[.slice (some ⟨X, 0, none⟩) n n, .slice (some ⟨Y, 0, none⟩) n n]) (by simp [results, Tryz.results58, go_sem, U0, U1]) rfl ⟨X, Y, rfl, xy, ?_, ?_, ?_⟩
        · exact prof_end HG2.out HOF.out lx' ly' _ _
        · rw [HFF.out]; exact own_two (B := w.heap.size) HOX.out (by omega) _ _
        · rw [HFF.out]; exact own_two (B := w.heap.size) HOY.out (by omega) _ _
end Go.Proofs.YtlbagigghpiifaaGreat
namespace Go.Proofs.YtlbagigghpiifaaGreat
open Go.RowKit Go.Maps Go.Sort

theorem RV.keep {w w1 w2 : World} (h : RV w w1) (hs : w1.heap.size ≤ w2.heap.size) (hB : Below w.heap.size w w2) (hb : w2.heap[w.heap.size]? = w1.heap[w.heap.size]?) : RV w w2 := by
  obtain ⟨c0, c1, f0, f1, _, hl⟩ := h
  have hc : ∀ o, w2.cell? ⟨w.heap.size, o, none⟩ = w1.cell? ⟨w.heap.size, o, none⟩ := fun o => World.cell?_of_block (w := w1) (a := ⟨w.heap.size, o, none⟩) hb
  have hf : ∀ o, w2.frozen? ⟨w.heap.size, o, none⟩ = w1.frozen? ⟨w.heap.size, o, none⟩ := fun o => World.frozen?_of_block (w := w1) (a := ⟨w.heap.size, o, none⟩) hb
  exact ⟨(hc 0).trans c0, (hc 1).trans c1, (hf 0).trans f0, (hf 1).trans f1, hB, Nat.lt_of_lt_of_le hl hs⟩
/-- What stays while a line is added. -/
theorem kL_call {w w1 w2 : World} {B b o M : Nat} {v0 v1 v2 : Value} (hB : B ≠ M) (hb : b ≠ M) (lB : B < w1.heap.size) (lb : b < w1.heap.size)
    (s : w1.cell? ⟨B, 0, none⟩ = some v0 ∧ w1.cell? ⟨B, 1, none⟩ = some v1 ∧ w1.cell? ⟨b, o, none⟩ = some v2 ∧ w.grownBy w1 (some M)) (h : w1.grownBy w2 (some M)) :
    w2.cell? ⟨B, 0, none⟩ = some v0 ∧ w2.cell? ⟨B, 1, none⟩ = some v1 ∧ w2.cell? ⟨b, o, none⟩ = some v2 ∧ w.grownBy w2 (some M) := by
  obtain ⟨s0, s1, s2, s4⟩ := s
  have hc : ∀ x o, x < w1.heap.size → x ≠ M → w2.cell? ⟨x, o, none⟩ = w1.cell? ⟨x, o, none⟩ := fun x o hx hne => h.cell_far ⟨x, o, none⟩ hx (by simp; omega)
  exact ⟨(hc _ _ lB hB).trans s0, (hc _ _ lB hB).trans s1, (hc _ _ lb hb).trans s2, grown_transM s4 h⟩
theorem add_line {w : World} {M n k : Nat} {f f' : Dem} {i : Nat} {z : Int} (h : Hid (MO w M n k f)) (hi : i < n) (hn : n ≤ 12) (hk : k ≤ 80) (hbd : Hid (0 ≤ (f.get i).1 ∧ (f.get i).1 ≤ k ∧ 0 ≤ (f.get i).2 ∧ (f.get i).2 ≤ 10000 * (k : Int))) (z0 : 0 ≤ z) (z1 : z ≤ 10000)
    (hf : Hid (f.set i ((f.get i).1 + 1, (f.get i).2 + z) = f')) :
    Calls Tryz.prog 57 #[.map (some M), .int .i64 (i : Int), .int .i64 1, .int .i64 z] w fun e w' => e = .returned (.tuple #[]) ∧ Hid (MO w' M n (k + 1) f') ∧ w.grownBy w' (some M) := by
  obtain ⟨b0, b1, b2, b3⟩ := hbd.out
  exact hf.out ▸ add_any (p := 1) (q := z) h.out hi (by omega) (by omega) b0 (by omega) b2 (by omega) (by decide) (by decide) z0 (by omega)

set_option maxRecDepth 20000 in
set_option maxHeartbeats 8000000 in
theorem po_good {a a' : Option Addr} {n c n' c' : Nat} {gs : List Gd} {ls : List (Int × Int)} {w : World} (hn : gs.length = n) (hc : n ≤ c) (hs : Short gs) (h : GRow w a gs) (hg : goodsB gs = true)
    (hn' : ls.length = n') (h' : LRow w a' ls) (hl : linesB n ls = true) :
    Calls Tryz.prog 42 #[.slice a n c, .slice a' n' c'] w fun e w' => Below w.heap.size w w' ∧ ∃ x y, e = .returned (.tuple #[.agg #[.slice (some ⟨x, 0, none⟩) n n, .slice (some ⟨y, 0, none⟩) n n], .bool true]) ∧ x ≠ y ∧ w'.ownsRow w.heap.size 3 1 (.slice (some ⟨x, 0, none⟩) n n) n (ints ((lineF gs ls n').asked.picks n)) ∧ w'.ownsRow w.heap.size 3 1 (.slice (some ⟨y, 0, none⟩) n n) n (ints ((lineF gs ls n').asked.flow n)) := by
  have h12 : n ≤ 12 := hn ▸ goodsB_len hg
  have h80 : n' ≤ 80 := hn' ▸ linesB_len hl
  have H := hide h
  have HG := hide hg
  have HN := hide hn
  have HS := hide hs
  have H' := hide h'
  have HN' := hide hn'
  have HL := hide hl
  have hmk := mkmapN
  clear h hg hn hs h' hn' hl
  go_enter Tryz.func42, Tryz.ntmps42
  go_wp2_with (first
    | (go_at_call 55; refine (gg_h HN hc HS H HG ((Below.refl _ _).alloc (Nat.le_refl _) _)).mono ?_; rintro e w1 ⟨rfl, hb1⟩; obtain ⟨p4, p5, f0, f1, hB1, z1⟩ := (RV.new w _).below hb1)
    | (go_at_call 56; refine (al_h HN' h12 H' HL hB1).mono ?_; rintro e w2 ⟨rfl, hb2⟩; have hRV := RV.below ⟨p4, p5, f0, f1, hB1, z1⟩ hb2))
  have HRV := hide (hRV.below ((Below.refl _ _).alloc (Nat.le_refl _) (.map #[] 0)))
  have hB3 := HRV.out.2.2.2.2.1
  have z3 : w.heap.size < w2.heap.size := hRV.2.2.2.2.2
  have HMO := hide (MO.made w2 n)
  have sz0 : (w2.alloc (.map #[] 0)).heap.size = w2.heap.size + 1 := by simp
  clear p4 p5 f0 f1 hb1 hB1 z1 hb2 hmk hRV
  generalize hM : w2.heap.size = M at *
  generalize w2.alloc (.map #[] 0) = W0 at *
  go_loopw [8, 23] (fun _ s wr => ∃ k : Nat, s = .int .i64 k ∧ k ≤ n' ∧ Hid (MO wr M n k (lineF gs ls k)) ∧ W0.grownBy wr (some M)) (fun _ s _ => n' - (intOf s).toNat)
  case atStart => exact ⟨0, rfl, Nat.zero_le _, HMO, World.grownBy.refl _ _⟩
  case round =>
    obtain ⟨k, rfl, hk, HMk, hgr⟩ := hrel
    have szr := hgr.size
    have hBr : Below w.heap.size w wr := hB3.trans ⟨hgr.os, hgr.tape, hgr.output, hgr.size, fun b hb => hgr.block b (by omega) (by simp; omega)⟩
    by_cases hlt : k < n'
    · obtain ⟨b, off, rfl, hb, r1, r2⟩ := H'.out.at (i := k) (by rw [HN'.out]; exact hlt)
      have bd := line_bd HG.out HN.out HL.out (k := k) (by rw [HN'.out]; exact hlt)
      have HST : Hid ((lineF gs ls k).set (ls.getD k (0, 0)).1.toNat (((lineF gs ls k).get (ls.getD k (0, 0)).1.toNat).1 + 1, ((lineF gs ls k).get (ls.getD k (0, 0)).1.toNat).2 + (gs.getD (ls.getD k (0, 0)).1.toNat gd0).2 * (ls.getD k (0, 0)).2) = lineF gs ls (k + 1)) := hide rfl
      have HBD := hide (lineF_bd HG.out HN.out HL.out k (by rw [HN'.out]; omega))
      generalize hgx : ls.getD k (0, 0) = x at *
      obtain ⟨x1, x2⟩ := x
      clear hgx
      dsimp only at r1 r2 bd HST
      obtain ⟨x10, x11, x20, x21, m0, m1⟩ := bd
      obtain ⟨i, rfl⟩ := Int.eq_ofNat_of_zero_le x10
      simp only [Int.toNat_natCast] at m0 m1 HST
      obtain ⟨b', off', rfl, hb', s1, s2⟩ := H.out.at (i := i) (by rw [HN.out]; omega)
      generalize (gs.getD i gd0).2 = z at *
      have wm : IntKind.i64.wrap (z * x2) = z * x2 := by rw [IntKind.wrap_i64]; omega
      have old : ∀ B o, B < w.heap.size → wr.cell? ⟨B, o, none⟩ = w.cell? ⟨B, o, none⟩ := fun B o h => hBr.cell (p := ⟨B, o, none⟩) h
      have y1 := (old b _ hb).trans r1
      have y2 := (old b _ hb).trans r2
      have y3 := (old b' _ hb').trans s2
      clear r1 r2 s1 s2 old
      have k0 : (0 : Int) ≤ (k : Int) := by omega
      have k1 : (k : Int) < (n' : Int) := by omega
      have hi : i < n := by omega
      have bl := (Below.refl wr.heap.size wr).alloc (Nat.le_refl _) (.cells #[.int .i64 (i : Int), .int .i64 x2] 74)
      have hMl := HMk.out.lt
      have HMl : Hid (MO (wr.alloc (.cells #[.int .i64 (i : Int), .int .i64 x2] 74)).drew M n k (lineF gs ls k)) := hide ((HMk.out.below bl).keep rfl)
      have e0 : (wr.alloc (.cells #[.int .i64 (i : Int), .int .i64 x2] 74)).drew.cell? ⟨wr.heap.size, 0, none⟩ = some (.int .i64 (i : Int)) := by show (wr.alloc _).cell? _ = _; simp [go_sem]
      have e1 : (wr.alloc (.cells #[.int .i64 (i : Int), .int .i64 x2] 74)).drew.cell? ⟨wr.heap.size, 1, none⟩ = some (.int .i64 x2) := by show (wr.alloc _).cell? _ = _; simp [go_sem]
      have e2 : (wr.alloc (.cells #[.int .i64 (i : Int), .int .i64 x2] 74)).drew.cell? ⟨b', off' + i * 2 + 1, none⟩ = some (.int .i64 z) := (bl.cell (p := ⟨b', off' + i * 2 + 1, none⟩) (by show b' < _; omega)).trans y3
      have hgl : W0.grownBy (wr.alloc (.cells #[.int .i64 (i : Int), .int .i64 x2] 74)).drew (some M) := ⟨bl.os.trans hgr.os, bl.tape.trans hgr.tape, bl.output.trans hgr.output, Nat.le_trans hgr.size bl.size, fun q hq hne => (bl.block q (by omega)).trans (hgr.block q hq hne)⟩
      have i0 : (0 : Int) ≤ (i : Int) := by omega
      have i1 : (i : Int) < (n : Int) := by omega
      have HBi := hide (HBD.out i)
      clear HMk HBD bl y3
      go_wp2_with fail
      go_region_held3 (fun w' => w'.cell? ⟨wr.heap.size, 0, none⟩ = some (.int .i64 (i : Int)) ∧ w'.cell? ⟨wr.heap.size, 1, none⟩ = some (.int .i64 x2) ∧ w'.cell? ⟨b', off' + i * 2 + 1, none⟩ = some (.int .i64 z) ∧ W0.grownBy w' (some M))
        (first | exact ⟨e0, e1, e2, hgl⟩ | assumption | exact kL_call (by omega) (by omega) (by show wr.heap.size < (wr.alloc _).heap.size; simp) (by show b' < (wr.alloc _).heap.size; simp; omega) ⟨e0, e1, e2, hgl⟩ hga | fail)
        (first
        | (go_at_call 57; refine (add_line HMl hi h12 (by omega) HBi m0 m1 HST).mono ?_; rintro e wa ⟨rfl, HMa, hga⟩)
        | fail)
      obtain ⟨_, _, _, hgA⟩ := ‹_ ∧ _ ∧ _ ∧ _›
      clear e0 e1 e2 hgl hga HMl
      go_wp2_with fail
      go_roundw
      case rel => exact ⟨k + 1, by go_num, by omega, HMa, hgA⟩
      case measure => simp only [intOf]; omega
    · have hke : k = n' := by omega
      subst hke
      have HPR := hide (profile_any HMk.out (by omega) (by omega))
      obtain ⟨c0, c1, f0, f1, _, _⟩ := HRV.out
      have HRr := hide (RV.keep HRV.out hgr.size hBr (hgr.block _ (by omega) (by simp; omega)))
      clear c0 c1 f0 f1
      go_wp2_with (go_at_call 58; refine HPR.out.mono ?_; rintro e w5 ⟨x, y, rfl, hxy, hg5, ox, oy⟩; have sz5 := hg5.size; have hB5 : Below w.heap.size w w5 := hBr.trans ⟨hg5.os, hg5.tape, hg5.output, hg5.size, fun b hb => hg5.block b (by omega) (by simp; omega)⟩; obtain ⟨c0, c1, f0, f1, _, _⟩ := RV.keep HRr.out hg5.size hB5 (hg5.block _ (by omega) (by simp; omega)))
      have bx := owns_low ox hBr.size
      have by' := owns_low oy hBr.size
      have lx := ox.lt x rfl
      have ly := oy.lt y rfl
      refine bodyPost_ret (v := .tuple #[.agg #[.slice (some ⟨x, 0, none⟩) n n, .slice (some ⟨y, 0, none⟩) n n], .bool true]) (by simp [results, Tryz.results42, go_sem, c0, c1]) rfl ⟨(hB5.setCell (Nat.le_refl _) _).setCell (Nat.le_refl _) _, x, y, rfl, hxy, ?_, ?_⟩
      · exact own_two (B := w.heap.size) bx (by omega) _ _
      · exact own_two (B := w.heap.size) by' (by omega) _ _
end Go.Proofs.YtlbagigghpiifaaGreat
namespace Go.Proofs.YtlbagigghpiifaaGreat
open Go.RowKit Go.Maps Go.Sort

theorem lineF_zero {g : Nat} {gs : List Gd} {ls : List (Int × Int)} (hg : goodsB gs = true) (hn : gs.length = g) (hl : linesB g ls = true) : ∀ k, k ≤ ls.length → ∀ i, ((lineF gs ls k).get i).1 = 0 → ((lineF gs ls k).get i).2 = 0 := by
  intro k
  induction k with
  | zero => intro _ i _; simp [lineF, Dem.get]
  | succ k ih =>
    intro hk i h0
    have hb := lineF_bd hg hn hl k (by omega) i
    by_cases e : i = (ls.getD k (0, 0)).1.toNat
    · have e1 : (lineF gs ls (k + 1)).get i = (((lineF gs ls k).get i).1 + 1, ((lineF gs ls k).get i).2 + (gs.getD i gd0).2 * (ls.getD k (0, 0)).2) := by
        rw [e]; simp only [lineF, Dem.get, Dem.set, if_true, Option.getD_some]
      rw [e1] at h0
      simp only at h0
      omega
    · have e1 : (lineF gs ls (k + 1)).get i = (lineF gs ls k).get i := by simp only [lineF, Dem.get, Dem.set, if_neg e]
      rw [e1] at h0 ⊢
      exact ih (by omega) i h0
theorem askedN (f : Dem) (i : Nat) : f.asked.get i = if (f.get i).1 = 0 then (0, 0) else f.get i := by
  by_cases h : ((f i).getD (0, 0)).1 = 0
  · simp [Dem.asked, Dem.get, h]
  · simp [Dem.asked, Dem.get, h]
theorem asked_same {f : Dem} (h : ∀ i, (f.get i).1 = 0 → (f.get i).2 = 0) (n : Nat) : f.asked.picks n = f.picks n ∧ f.asked.flow n = f.flow n := by
  have e : ∀ i, f.asked.get i = f.get i := fun i => by
    rw [askedN]
    split
    · rename_i h0
      exact Prod.ext h0.symm (h i h0).symm
    · rfl
  unfold Dem.picks Dem.flow
  exact ⟨List.map_congr_left fun i _ => by rw [e], List.map_congr_left fun i _ => by rw [e]⟩
theorem picks_at (f : Dem) {n i : Nat} (hi : i < n) : (f.picks n).getD i 0 = (f.get i).1 := by simp [Dem.picks, hi]
theorem flow_at (f : Dem) {n i : Nat} (hi : i < n) : (f.flow n).getD i 0 = (f.get i).2 := by simp [Dem.flow, hi]
theorem list_ext {xs ys : List Int} {n : Nat} (h1 : xs.length = n) (h2 : ys.length = n) (h : ∀ i, i < n → xs.getD i 0 = ys.getD i 0) : xs = ys := by
  refine List.ext_getElem (by omega) fun i hi hj => ?_
  have := h i (by omega)
  rwa [Pf.getD_lt _ _ hi, Pf.getD_lt _ _ hj] at this
theorem set_at (cs : List Int) (i j : Nat) (x : Int) (hi : i < cs.length) : (cs.set i x).getD j 0 = if j = i then x else cs.getD j 0 := by
  by_cases e : j = i
  · subst e; simp [hi]
  · rw [if_neg e]
    simp only [List.getD_eq_getElem?_getD]
    rw [List.getElem?_set_ne (by omega)]
theorem picks_set (f : Dem) {n i : Nat} (hi : i < n) (x : Int × Int) : (f.set i x).picks n = (f.picks n).set i x.1 :=
  list_ext (picks_len _ _) (by simp [picks_len]) fun j hj => by
    rw [picks_at _ hj, set_at _ _ _ _ (by rw [picks_len]; exact hi), picks_at _ hj]
    simp only [Dem.get, Dem.set]
    split <;> rfl
theorem flow_set (f : Dem) {n i : Nat} (hi : i < n) (x : Int × Int) : (f.set i x).flow n = (f.flow n).set i x.2 :=
  list_ext (flow_len _ _) (by simp [flow_len]) fun j hj => by
    rw [flow_at _ hj, set_at _ _ _ _ (by rw [flow_len]; exact hi), flow_at _ hj]
    simp only [Dem.get, Dem.set]
    split <;> rfl

/-- The profile that is being made: its variable, its two lists, the answer's variable. -/
def PI (w wr : World) (X Y Z n : Nat) (ps fl : List Int) : Prop :=
  RV w wr ∧ wr.cell? ⟨Z, 0, none⟩ = some (.slice (some ⟨X, 0, none⟩) n n) ∧ wr.cell? ⟨Z, 1, none⟩ = some (.slice (some ⟨Y, 0, none⟩) n n) ∧ wr.ownsRow w.heap.size 3 1 (.slice (some ⟨X, 0, none⟩) n n) n (ints ps) ∧ wr.ownsRow w.heap.size 3 1 (.slice (some ⟨Y, 0, none⟩) n n) n (ints fl) ∧ Z < wr.heap.size ∧
    (w.heap.size < X ∧ w.heap.size < Y ∧ w.heap.size < Z ∧ X ≠ Y ∧ X ≠ Z ∧ Y ≠ Z)
theorem PI.below {w wr w' : World} {X Y Z n : Nat} {ps fl : List Int} (h : PI w wr X Y Z n ps fl) (hb : Below wr.heap.size wr w') : PI w w' X Y Z n ps fl := by
  obtain ⟨h1, h2, h3, h4, h5, h6, h7⟩ := h
  exact ⟨h1.below hb, (hb.cell (p := ⟨Z, 0, none⟩) h6).trans h2, (hb.cell (p := ⟨Z, 1, none⟩) h6).trans h3, owns_keep h4 (hb.block X (h4.lt X rfl).2), owns_keep h5 (hb.block Y (h5.lt Y rfl).2), Nat.lt_of_lt_of_le h6 hb.size, h7⟩
theorem PI.setX {w wr : World} {X Y Z n i : Nat} {ps fl : List Int} (h : PI w wr X Y Z n ps fl) (x : Int) : PI w (wr.setCell ⟨X, i, none⟩ (.int .i64 x)) X Y Z n (ps.set i x) fl := by
  obtain ⟨h1, h2, h3, h4, h5, h6, k1, k2, k3, k4, k5, k6⟩ := h
  have hb : ∀ b, b ≠ X → (wr.setCell ⟨X, i, none⟩ (.int .i64 x)).heap[b]? = wr.heap[b]? := fun b hne => Below.heap_setCell _ _ _ b hne
  obtain ⟨st, _⟩ := h4.stored i (.int .i64 x)
  rw [ints_set] at st
  refine ⟨h1.keep (by simp) (h1.2.2.2.2.1.setCell (by show w.heap.size ≤ X; omega) _) (hb _ (by omega)), (World.cell?_of_block (w := wr) (a := ⟨Z, 0, none⟩) (hb Z (Ne.symm k5))).trans h2, (World.cell?_of_block (w := wr) (a := ⟨Z, 1, none⟩) (hb Z (Ne.symm k5))).trans h3, st, owns_keep h5 (hb Y (Ne.symm k4)), by simpa using h6, k1, k2, k3, k4, k5, k6⟩
theorem PI.setY {w wr : World} {X Y Z n i : Nat} {ps fl : List Int} (h : PI w wr X Y Z n ps fl) (x : Int) : PI w (wr.setCell ⟨Y, i, none⟩ (.int .i64 x)) X Y Z n ps (fl.set i x) := by
  obtain ⟨h1, h2, h3, h4, h5, h6, k1, k2, k3, k4, k5, k6⟩ := h
  have hb : ∀ b, b ≠ Y → (wr.setCell ⟨Y, i, none⟩ (.int .i64 x)).heap[b]? = wr.heap[b]? := fun b hne => Below.heap_setCell _ _ _ b hne
  obtain ⟨st, _⟩ := h5.stored i (.int .i64 x)
  rw [ints_set] at st
  refine ⟨h1.keep (by simp) (h1.2.2.2.2.1.setCell (by show w.heap.size ≤ Y; omega) _) (hb _ (by omega)), (World.cell?_of_block (w := wr) (a := ⟨Z, 0, none⟩) (hb Z (Ne.symm k6))).trans h2, (World.cell?_of_block (w := wr) (a := ⟨Z, 1, none⟩) (hb Z (Ne.symm k6))).trans h3, owns_keep h4 (hb X k4), st, by simpa using h6, k1, k2, k3, k4, k5, k6⟩
theorem PI.drew {w wr : World} {X Y Z n : Nat} {ps fl : List Int} (h : PI w wr X Y Z n ps fl) : PI w wr.drew X Y Z n ps fl := h.below (Below.refl _ _).drew
theorem fresh_own {wc : World} {base G n : Nat} (hG : base ≤ G) (hx : wc.heap[G]? = some (.cells (madeCells #[.int .i64 0] n) 3 (0, 0))) (hm : n ≤ maxLen) : wc.ownsRow base 3 1 (.slice (some ⟨G, 0, none⟩) n n) n (ints (List.replicate n 0)) :=
  ⟨by simp [ints], Or.inr ⟨G, n, madeCells #[.int .i64 0] n, rfl, hG, hx, Nat.le_refl _, hm, by simp [madeCells], by rw [toList_madeCells_one]; simp [ints]⟩⟩
theorem pi_new {w w1 wc : World} {X Y Z n : Nat} (r1 : RV w w1) (hF : Fresh w1 wc X Y Z n) (hn : n ≤ 1000) : PI w wc X Y Z n (List.replicate n 0) (List.replicate n 0) := by
  have r2 := r1.below hF.below
  have hs := r1.2.2.2.2.2
  have l1 := hF.lx
  have l2 := hF.ly
  have l3 := hF.lz
  exact ⟨r2, hF.c0, hF.c1, fresh_own (by omega) hF.x (by unfold maxLen; omega), fresh_own (by omega) hF.y (by unfold maxLen; omega), World.block_lt_of_cell? wc _ hF.c0, by omega, by omega, by omega, hF.xy, hF.xz, hF.yz⟩
theorem zero_lists (n : Nat) (gs : List Gd) (ls : List (Int × Int)) : (lineF gs ls 0).picks n = List.replicate n 0 ∧ (lineF gs ls 0).flow n = List.replicate n 0 := by
  refine ⟨list_ext (picks_len _ _) (by simp) fun i hi => ?_, list_ext (flow_len _ _) (by simp) fun i hi => ?_⟩
  · rw [picks_at _ hi]; simp [lineF, Dem.get, hi]
  · rw [flow_at _ hi]; simp [lineF, Dem.get, hi]
theorem lineF_take (gs : List Gd) (ls : List (Int × Int)) (k : Nat) : ∀ m, m ≤ k → lineF gs (ls.take k) m = lineF gs ls m
  | 0, _ => rfl
  | m + 1, h => by
    have e : (ls.take k).getD m (0, 0) = ls.getD m (0, 0) := by simp [show m < k by omega]
    rw [lineF, lineF, e, lineF_take gs ls k m (by omega)]
theorem pre_bd {n : Nat} {gs : List Gd} {ls : List (Int × Int)} {k : Nat} (hg : goodsB gs = true) (hn : gs.length = n) (hl : ls.length ≤ 80) (hk : k ≤ ls.length) (h : ∀ i, i < k → lineB n (ls.getD i (0, 0)) = true) (i : Nat) :
    0 ≤ ((lineF gs ls k).get i).1 ∧ ((lineF gs ls k).get i).1 ≤ 80 ∧ 0 ≤ ((lineF gs ls k).get i).2 ∧ ((lineF gs ls k).get i).2 ≤ 800000 := by
  have hlen : (ls.take k).length = k := by simp; omega
  have hb := lineF_bd (ls := ls.take k) hg hn (linesB_of (by omega) fun j hj => by
    have e : (ls.take k).getD j (0, 0) = ls.getD j (0, 0) := by simp [show j < k by omega]
    rw [e]; exact h j (by omega)) k (by omega) i
  rw [lineF_take gs ls k k (Nat.le_refl _)] at hb
  omega
theorem size_bd {gs : List Gd} (hg : goodsB gs = true) {i : Nat} (hi : i < gs.length) : 1 ≤ (gs.getD i gd0).2 ∧ (gs.getD i gd0).2 ≤ 100 := by
  have h2 := goodsB_at hg hi
  simp only [okG, Bool.and_eq_true] at h2
  exact Pf.inB_yes h2.2.1
theorem new_at0 (w : World) (x y : Value) (t : TypeId) {H : Nat} (h : w.heap.size = H) : (w.alloc (.cells #[x, y] t)).cell? ⟨H, 0, none⟩ = some x := by subst h; simp
theorem new_at1 (w : World) (x y : Value) (t : TypeId) {H : Nat} (h : w.heap.size = H) : (w.alloc (.cells #[x, y] t)).cell? ⟨H, 1, none⟩ = some y := by subst h; simp
theorem at_line {wr W : World} {b o k : Nat} {v : Option Value} (hb : W.heap[b]? = wr.heap[b]?) (h : wr.cell? ⟨b, o + k, none⟩ = v) : W.cell? ⟨b, o + k, none⟩ = v := (World.cell?_of_block (w := wr) (a := ⟨b, o + k, none⟩) hb).trans h

set_option maxRecDepth 100000 in
set_option maxHeartbeats 2000000 in
theorem spo_rest {a a' : Option Addr} {n c n' c' : Nat} {gs : List Gd} {ls : List (Int × Int)} {w : World} (hn : gs.length = n) (hn1 : n ≤ 1048576) (hc : n ≤ c) (hs : Short gs) (h : GRow w a gs) (hg : goodsB gs = true) (hl : ls.length = n') (hl80 : n' ≤ 80) (h' : LRow w a' ls) :
    Calls Tryz.prog 52 #[.slice a n c, .slice a' n' c'] w fun e w' => Below w.heap.size w w' ∧
      ((linesB n ls = false ∧ e = .returned (.tuple #[.agg #[.slice none 0 0, .slice none 0 0], .bool false])) ∨
       (linesB n ls = true ∧ ∃ x y, e = .returned (.tuple #[.agg #[.slice (some ⟨x, 0, none⟩) n n, .slice (some ⟨y, 0, none⟩) n n], .bool true]) ∧ x ≠ y ∧ w'.ownsRow w.heap.size 3 1 (.slice (some ⟨x, 0, none⟩) n n) n (ints ((lineF gs ls n').picks n)) ∧ w'.ownsRow w.heap.size 3 1 (.slice (some ⟨y, 0, none⟩) n n) n (ints ((lineF gs ls n').flow n)))) := by
  have h12 : n ≤ 12 := hn ▸ goodsB_len hg
  have hmk := makeI_run n (by omega)
  have h80 : ¬ (80 : Int) < (n' : Int) := by omega
  have H := hide h
  have HG := hide hg
  have HN := hide hn
  have HS := hide hs
  have HL := hide hl
  have H' := hide h'
  clear h hg hn hs hl h'
  go_enter Tryz.func52, Tryz.ntmps52
  go_upto_region 3 with ((go_at_call 67; refine (sgg_h HN hn1 hc HS H HG ((Below.refl _ _).alloc (Nat.le_refl _) _)).mono ?_; rintro e w1 ⟨rfl, hb1⟩; have R1 := hide ((RV.new w _).below hb1); clear hb1))
  go_cut [6] (fun s6 wc => ∃ X Y Z, s6 = .pointer (some ⟨Z, 0, none⟩) ∧ Hid (Fresh w1 wc X Y Z n))
  case first =>
    go_region
    all_goals
      go_wp2_with fail
      go_meet
      case rel =>
        first
        | exact ⟨_, _, _, rfl, fresh012 _ _ _⟩
        | exact ⟨_, _, _, rfl, fresh021 _ _ _⟩
        | exact ⟨_, _, _, rfl, fresh102 _ _ _⟩
        | exact ⟨_, _, _, rfl, fresh120 _ _ _⟩
        | exact ⟨_, _, _, rfl, fresh201 _ _ _⟩
        | exact ⟨_, _, _, rfl, fresh210 _ _ _⟩
  case rest =>
    obtain ⟨X, Y, Z, rfl, HF⟩ := hcut
    have P0 : Hid (PI w wc X Y Z n ((lineF gs ls 0).picks n) ((lineF gs ls 0).flow n)) := hide (by
      rw [(zero_lists n gs ls).1, (zero_lists n gs ls).2]; exact pi_new R1.out HF.out (by omega))
    clear HF R1 hmk
    go_wp2_with fail
    go_loopw [5, 8, 27] (fun s5 _ s wr => ∃ k : Nat, s5 = .bool false ∧ s = .int .i64 k ∧ k ≤ n' ∧ Hid (∀ i, i < k → lineB n (ls.getD i (0, 0)) = true) ∧ Hid (PI w wr X Y Z n ((lineF gs ls k).picks n) ((lineF gs ls k).flow n))) (fun _ _ s _ => n' - (intOf s).toNat)
    case atStart => exact ⟨0, rfl, rfl, Nat.zero_le _, hide fun i hi => absurd hi (Nat.not_lt_zero _), P0⟩
    case round =>
      obtain ⟨k, rfl, rfl, hk, HA, HP⟩ := hrel
      have hB := HP.out.1.2.2.2.2.1
      by_cases hlt : k < n'
      · obtain ⟨bl, ol, rfl, hbl, l0, l1⟩ := (H'.out.below hB).at (i := k) (by rw [HL.out]; exact hlt)
        have k0 : (0 : Int) ≤ (k : Int) := by omega
        have k1 : (k : Int) < (n' : Int) := by omega
        have HX := hide (rfl : ls.getD k (0, 0) = ls.getD k (0, 0))
        generalize hx : ls.getD k (0, 0) = x at *
        have HXX := hide hx
        obtain ⟨gi, q⟩ := x
        obtain ⟨rc0, rc1, rf0, rf1, _, rl⟩ := HP.out.1
        have bad : lineB n (gi, q) = false → linesB n ls = false := fun hb => linesB_not (i := k) (by rw [HL.out]; exact hlt) (by rw [HXX.out]; exact hb)
        have BAD := hide bad
        have BB := hide (((hB.setCell (p := ⟨w.heap.size, 0, none⟩) (Nat.le_refl _) (.slice none 0 0)).setCell (p := ⟨w.heap.size, 1, none⟩) (Nat.le_refl _) (.slice none 0 0)).alloc (by simp; omega) (.cells #[.int .i64 gi, .int .i64 q] 74))
        clear hx HX bad
        by_cases g0 : gi < 0
        · have HF := hide (BAD.out (by simp [lineB, Pf.inB, show ¬ 0 ≤ gi by omega]))
          go_wp2_with fail
          exact bodyPost_ret (v := .tuple #[.agg #[.slice none 0 0, .slice none 0 0], .bool false]) (by simp [results, Tryz.results52, go_sem, rc0, rc1, rl]) rfl ⟨BB.out, Or.inl ⟨HF.out, rfl⟩⟩
        · by_cases g1 : (n : Int) ≤ gi
          · have HF := hide (BAD.out (by simp [lineB, Pf.inB, show ¬ gi ≤ (n : Int) - 1 by omega]))
            go_wp2_with fail
            exact bodyPost_ret (v := .tuple #[.agg #[.slice none 0 0, .slice none 0 0], .bool false]) (by simp [results, Tryz.results52, go_sem, rc0, rc1, rl]) rfl ⟨BB.out, Or.inl ⟨HF.out, rfl⟩⟩
          · cases hq : Pf.inB q 1 99
            · have HF := hide (BAD.out (by simp [lineB, hq]))
              go_wp2_with (go_at_call 36; refine (in_eq hq).mono ?_; rintro e w2 ⟨rfl, rfl⟩)
              exact bodyPost_ret (v := .tuple #[.agg #[.slice none 0 0, .slice none 0 0], .bool false]) (by simp [results, Tryz.results52, go_sem, rc0, rc1, rl]) rfl ⟨BB.out, Or.inl ⟨HF.out, rfl⟩⟩
            · obtain ⟨i, rfl⟩ := Int.eq_ofNat_of_zero_le (show 0 ≤ gi by omega)
              have hin : i < n := by omega
              have HGood : Hid (lineB n ((i : Int), q) = true) := hide (by simp only [lineB, Bool.and_eq_true]; exact ⟨Pf.inB_of (by omega) (by omega), hq⟩)
              have HA' : Hid (∀ j, j < k + 1 → lineB n (ls.getD j (0, 0)) = true) := hide fun j hj => by
                by_cases e : j = k
                · subst e; rw [HXX.out]; exact HGood.out
                · exact HA.out j (by omega)
              have hbd := pre_bd HG.out HN.out (by rw [HL.out]; exact hl80) (by rw [HL.out]; exact hk) HA.out i
              obtain ⟨q0, q1⟩ := Pf.inB_yes hq
              have HSTEP : Hid (lineF gs ls (k + 1) = (lineF gs ls k).set i (((lineF gs ls k).get i).1 + 1, ((lineF gs ls k).get i).2 + (gs.getD i gd0).2 * q)) := hide (by rw [lineF, HXX.out]; rfl)
              have hz := size_bd HG.out (i := i) (by rw [HN.out]; exact hin)
              have hpr : 0 ≤ (gs.getD i gd0).2 * q ∧ (gs.getD i gd0).2 * q ≤ 10000 := ⟨Int.mul_nonneg (by omega) (by omega), Int.le_trans (Int.mul_le_mul hz.2 q1 (by omega) (by omega)) (by decide)⟩
              have P9 := (HP.out.setX (i := i) (((lineF gs ls k).get i).1 + 1)).below (bnew _ (.cells #[.int .i64 (i : Int), .int .i64 q] 74))
              obtain ⟨_, z0, _, ox, _, zl, ks1, ks2, ks3, ks4, ks5, ks6⟩ := HP.out
              have xl := (ox.lt X rfl).2
              have cX : wr.cell? ⟨X, i, none⟩ = some (.int .i64 ((lineF gs ls k).get i).1) := by rw [ox.cellAt i (by omega), ints_get _ i (by rw [picks_len]; exact hin), picks_at _ hin]
              have fX := ox.frozenAt i
              obtain ⟨bg, og, rfl, hbg, _, s1⟩ := (H.out.below P9.1.2.2.2.2.1).at (i := i) (by rw [HN.out]; exact hin)
              have cY : ((wr.setCell ⟨X, i, none⟩ (.int .i64 (((lineF gs ls k).get i).1 + 1))).alloc (.cells #[.int .i64 (i : Int), .int .i64 q] 74)).cell? ⟨Y, i, none⟩ = some (.int .i64 ((lineF gs ls k).get i).2) := by rw [P9.2.2.2.2.1.cellAt i (by omega), ints_get _ i (by rw [flow_len]; exact hin), flow_at _ hin]
              have fY := P9.2.2.2.2.1.frozenAt i
              have v0 : ((wr.setCell ⟨X, i, none⟩ (.int .i64 (((lineF gs ls k).get i).1 + 1))).alloc (.cells #[.int .i64 (i : Int), .int .i64 q] 74)).cell? ⟨wr.heap.size, 0, none⟩ = some (.int .i64 (i : Int)) := new_at0 _ _ _ _ (by simp)
              have v1 : ((wr.setCell ⟨X, i, none⟩ (.int .i64 (((lineF gs ls k).get i).1 + 1))).alloc (.cells #[.int .i64 (i : Int), .int .i64 q] 74)).cell? ⟨wr.heap.size, 1, none⟩ = some (.int .i64 q) := new_at1 _ _ _ _ (by simp)
              have z1 := P9.2.2.1
              have HP9 := hide P9
              have hHQ := hide hq
              have i0 : (0 : Int) ≤ (i : Int) := by omega
              have i1 : (i : Int) < (n : Int) := by omega
              generalize ((lineF gs ls k).get i).1 = pi at *
              generalize ((lineF gs ls k).get i).2 = fi at *
              generalize (gs.getD i gd0).2 = sz at *
              obtain ⟨b0, b1, b2, b3⟩ := hbd
              obtain ⟨sz0, sz1⟩ := hz
              obtain ⟨pr0, pr1⟩ := hpr
              clear P9 ox g0 g1 hq BAD
              go_upto_region 10 with (go_at_call 36; refine (in_eq hHQ.out).mono ?_; rintro e w2 ⟨rfl, rfl⟩)
              generalize (wr.setCell ⟨X, i, none⟩ (.int .i64 (pi + 1))).alloc (.cells #[.int .i64 (i : Int), .int .i64 q] 74) = W9 at *
              clear cX fX z0
              go_region
              go_wp2_with fail
              go_roundw
              case rel =>
                refine ⟨k + 1, rfl, by go_num, by omega, HA', hide ?_⟩
                rw [HSTEP.out, picks_set _ hin, flow_set _ hin]
                first | exact (HP9.out.setY _).drew | exact HP9.out.drew.setY _
              case measure => simp only [intOf]; omega
      · have hke : k = n' := by omega
        subst hke
        have HLB : Hid (linesB n ls = true) := hide (linesB_of (by rw [HL.out]; exact hl80) fun i hi => HA.out i (by rw [← HL.out]; exact hi))
        obtain ⟨⟨rc0, rc1, rf0, rf1, hBw, rl⟩, z0, z1, ox, oy, zl, ks1, ks2, ks3, ks4, ks5, ks6⟩ := HP.out
        have HX := hide (own_two ox (B := w.heap.size) (by omega) (.slice (some ⟨X, 0, none⟩) n n) (.slice (some ⟨Y, 0, none⟩) n n))
        have HY := hide (own_two oy (B := w.heap.size) (by omega) (.slice (some ⟨X, 0, none⟩) n n) (.slice (some ⟨Y, 0, none⟩) n n))
        have HBE := hide ((hBw.setCell (p := ⟨w.heap.size, 0, none⟩) (Nat.le_refl _) (.slice (some ⟨X, 0, none⟩) n n)).setCell (p := ⟨w.heap.size, 1, none⟩) (Nat.le_refl _) (.slice (some ⟨Y, 0, none⟩) n n))
        clear ox oy HP hBw
        go_wp2_with fail
        exact bodyPost_ret (v := .tuple #[.agg #[.slice (some ⟨X, 0, none⟩) n n, .slice (some ⟨Y, 0, none⟩) n n], .bool true]) (by simp [results, Tryz.results52, go_sem, rc0, rc1]) rfl ⟨HBE.out, Or.inr ⟨HLB.out, X, Y, rfl, ks4, HX.out, HY.out⟩⟩
theorem spo_good {a a' : Option Addr} {n c n' c' : Nat} {gs : List Gd} {ls : List (Int × Int)} {w : World} (hn : gs.length = n) (hn1 : n ≤ 1048576) (hc : n ≤ c) (hs : Short gs) (h : GRow w a gs) (hg : goodsB gs = true) (hl : ls.length = n') (h' : LRow w a' ls) (hlb : linesB n ls = true) :
    Calls Tryz.prog 52 #[.slice a n c, .slice a' n' c'] w fun e w' => Below w.heap.size w w' ∧ ∃ x y, e = .returned (.tuple #[.agg #[.slice (some ⟨x, 0, none⟩) n n, .slice (some ⟨y, 0, none⟩) n n], .bool true]) ∧ x ≠ y ∧ w'.ownsRow w.heap.size 3 1 (.slice (some ⟨x, 0, none⟩) n n) n (ints ((lineF gs ls n').asked.picks n)) ∧ w'.ownsRow w.heap.size 3 1 (.slice (some ⟨y, 0, none⟩) n n) n (ints ((lineF gs ls n').asked.flow n)) := by
  have e := asked_same (lineF_zero hg hn hlb n' (by omega)) n
  rw [e.1, e.2]
  refine (spo_rest hn hn1 hc hs h hg hl (hl ▸ linesB_len hlb) h').mono fun e w' ⟨hb, hr⟩ => ?_
  rcases hr with ⟨h1, _⟩ | ⟨_, hr⟩
  · rw [hlb] at h1; cases h1
  · exact ⟨hb, hr⟩
theorem spo_bad2 {a a' : Option Addr} {n c n' c' : Nat} {gs : List Gd} {ls : List (Int × Int)} {w : World} (hn : gs.length = n) (hn1 : n ≤ 1048576) (hc : n ≤ c) (hs : Short gs) (h : GRow w a gs) (hg : goodsB gs = true) (hl : ls.length = n') (h' : LRow w a' ls) (hlb : linesB n ls = false) :
    Calls Tryz.prog 52 #[.slice a n c, .slice a' n' c'] w fun e w' => e = .returned (.tuple #[.agg #[.slice none 0 0, .slice none 0 0], .bool false]) ∧ Below w.heap.size w w' := by
  by_cases h80 : n' ≤ 80
  · refine (spo_rest hn hn1 hc hs h hg hl h80 h').mono fun e w' ⟨hb, hr⟩ => ?_
    rcases hr with ⟨_, h1⟩ | ⟨h1, _⟩
    · exact ⟨h1, hb⟩
    · rw [hlb] at h1; cases h1
  · exact spo_many hn hn1 hc hs h hg (by omega)
end Go.Proofs.YtlbagigghpiifaaGreat
namespace Go.Proofs.YtlbagigghpiifaaGreat
open Go.RowKit

theorem poans_none {f n n' : Nat} {gs : List Gd} {ls : List (Int × Int)} (h : ∀ (W : World) (b b' : Nat), Short gs → GRow W (some ⟨b, 0, none⟩) gs → LRow W (some ⟨b', 0, none⟩) ls →
    Calls Tryz.prog f #[.slice (some ⟨b, 0, none⟩) n n, .slice (some ⟨b', 0, none⟩) n' n'] W fun e w' => e = .returned (.tuple #[.agg #[.slice none 0 0, .slice none 0 0], .bool false]) ∧ Below W.heap.size W w') : PoAns f n n' 0 false gs ls [] [] := fun W b b' h1 h2 h3 =>
  (h W b b' h1 h2 h3).mono fun _ _ ⟨he, hb⟩ => ⟨_, _, he, hb, ⟨rfl, Or.inl ⟨rfl, rfl⟩⟩, ⟨rfl, Or.inl ⟨rfl, rfl⟩⟩, fun g hg => by cases hg⟩
theorem poans_some {f n n' : Nat} {gs : List Gd} {ls : List (Int × Int)} {R1 R2 : List Int} (h : ∀ (W : World) (b b' : Nat), Short gs → GRow W (some ⟨b, 0, none⟩) gs → LRow W (some ⟨b', 0, none⟩) ls →
    Calls Tryz.prog f #[.slice (some ⟨b, 0, none⟩) n n, .slice (some ⟨b', 0, none⟩) n' n'] W fun e w' => Below W.heap.size W w' ∧ ∃ x y, e = .returned (.tuple #[.agg #[.slice (some ⟨x, 0, none⟩) n n, .slice (some ⟨y, 0, none⟩) n n], .bool true]) ∧ x ≠ y ∧ w'.ownsRow W.heap.size 3 1 (.slice (some ⟨x, 0, none⟩) n n) n (ints R1) ∧ w'.ownsRow W.heap.size 3 1 (.slice (some ⟨y, 0, none⟩) n n) n (ints R2)) : PoAns f n n' n true gs ls R1 R2 := fun W b b' h1 h2 h3 =>
  (h W b b' h1 h2 h3).mono fun _ _ ⟨hb, x, y, he, hne, o1, o2⟩ => ⟨_, _, he, hb, o1, o2, fun g hg hg' => by
    simp [Value.ownBlock] at hg hg'
    omega⟩
end Go.Proofs.YtlbagigghpiifaaGreat
namespace Go.Proofs.YtlbagigghpiifaaGreat
open Go.RowKit

end Go.Proofs.YtlbagigghpiifaaGreat
namespace Go.Proofs.YtlbagigghpiifaaGreat
open Go.RowKit

def fgB (gs : List Gd) (ls : List (Int × Int)) (x : ByteArray) : Bool := sheetB gs ls && decide (0 ≤ fndI gs x)
def fgI (gs : List Gd) (ls : List (Int × Int)) (x : ByteArray) : Int := if fgB gs ls x then fndI gs x else 0
theorem sgsh_hid {a a' : Option Addr} {n c n' c' : Nat} {gs : List Gd} {ls : List (Int × Int)} {w : World} {r : Bool} (hr : Hid (sheetB gs ls = r)) (hn : Hid (gs.length = n)) (hn1 : n ≤ 1048576) (hc : n ≤ c) (hs : Hid (Short gs)) (h : Hid (GRow w a gs))
    (hl : Hid (ls.length = n')) (hl1 : n' ≤ 1048576) (hc' : n' ≤ c') (h' : Hid (LRow w a' ls)) :
    Calls Tryz.prog 51 #[.agg #[.slice a n c, .slice a' n' c']] w fun e w' => e = .returned (.bool r) ∧ Below w.heap.size w w' := hr.out ▸ sgsh_any hn.out hn1 hc hs.out h.out hl.out hl1 hc' h'.out
end Go.Proofs.YtlbagigghpiifaaGreat
namespace Go.Proofs.YtlbagigghpiifaaGreat
open Go.RowKit

/-- What both SheetProfiles answer. -/
def SpAns (f n n' r : Nat) (ok : Bool) (gs : List Gd) (ls : List (Int × Int)) (R1 R2 : List Int) : Prop :=
  ∀ (W : World) (X Y : Nat), Short gs → TS W X Y n n' gs ls →
    Calls Tryz.prog f #[.agg #[.slice (some ⟨X, 0, none⟩) n n, .slice (some ⟨Y, 0, none⟩) n' n']] W fun e w' => ∃ v1 v2, e = .returned (.tuple #[.agg #[v1, v2], .bool ok]) ∧ Below W.heap.size W w' ∧ w'.ownsRow W.heap.size 3 1 v1 r (ints R1) ∧ w'.ownsRow W.heap.size 3 1 v2 r (ints R2) ∧ ∀ g, v1.ownBlock = some g → v2.ownBlock ≠ some g
theorem own_two15 {w : World} {base B n : Nat} {v u0 u1 : Value} {xs : List Value} (h : w.ownsRow base 3 1 v n xs) (hB : B < base) : ((w.setCell ⟨B, 0, none⟩ u0).setCell ⟨B, 1, none⟩ u1).ownsRow base 3 1 v n xs :=
  ownsRow_setCell_below (ownsRow_setCell_below h (a := ⟨B, 0, none⟩) hB u0) (a := ⟨B, 1, none⟩) hB u1
set_option maxHeartbeats 2000000 in
theorem isp_any {n n' r : Nat} {ok : Bool} {gs : List Gd} {ls : List (Int × Int)} {R1 R2 : List Int} (Hi : Hid (PoAns 42 n n' r ok gs ls R1 R2)) : SpAns 24 n n' r ok gs ls R1 R2 := by
  intro W X Y hs t
  have HT := hide t
  have HSh := hide hs
  have b1 := below_new W (.cells #[.slice (some ⟨X, 0, none⟩) n n, .slice (some ⟨Y, 0, none⟩) n' n'] 35)
  have b2 := below_new (W.alloc (.cells #[.slice (some ⟨X, 0, none⟩) n n, .slice (some ⟨Y, 0, none⟩) n' n'] 35)) (.cells #[.slice none 0 0, .slice none 0 0] 55)
  have HB := hide (b1.trans (b2.mono b1.size))
  have PR := hide (PBox.new (W.alloc (.cells #[.slice (some ⟨X, 0, none⟩) n n, .slice (some ⟨Y, 0, none⟩) n' n'] 35)) (.slice none 0 0) (.slice none 0 0) 55)
  rw [World.size_alloc] at PR
  have FR : Hid (∀ i, ((W.alloc (.cells #[.slice (some ⟨X, 0, none⟩) n n, .slice (some ⟨Y, 0, none⟩) n' n'] 35)).alloc (.cells #[.slice none 0 0, .slice none 0 0] 55)).frozen? ⟨W.heap.size + 1, i, none⟩ = false) := hide fun i => by simp [go_sem]
  clear t hs b1 b2
  go_enter Tryz.func24, Tryz.ntmps24
  go_wp2_with fail
  refine (Hi.out _ _ _ HSh.out (HT.out.below HB.out).g (HT.out.below HB.out).l).mono ?_
  rintro e w1 ⟨vv1, vv2, rfl, hb1, o1, o2, hne⟩
  obtain ⟨a1, c1, rfl⟩ := own_sh o1
  obtain ⟨a2, c2, rfl⟩ := own_sh o2
  have e0 : ((W.alloc (.cells #[.slice (some ⟨X, 0, none⟩) n n, .slice (some ⟨Y, 0, none⟩) n' n'] 35)).alloc (.cells #[.slice none 0 0, .slice none 0 0] 55)).heap.size = W.heap.size + 1 + 1 := by simp
  rw [e0] at o1 o2
  obtain ⟨p0, p1, pl⟩ := PR.out.below hb1
  have f0 := (hb1.frozen (p := ⟨W.heap.size + 1, 0, none⟩) (by show W.heap.size + 1 < _; rw [e0]; omega)).trans (FR.out 0)
  have f1 := (hb1.frozen (p := ⟨W.heap.size + 1, 1, none⟩) (by show W.heap.size + 1 < _; rw [e0]; omega)).trans (FR.out 1)
  have HB1 := hide (HB.out.trans (hb1.mono HB.out.size))
  have O1 := hide (owns_low (own_two15 (B := W.heap.size + 1) (u0 := .slice a1 r c1) (u1 := .slice a2 r c2) o1 (by omega)) (base' := W.heap.size) (by omega))
  have O2 := hide (owns_low (own_two15 (B := W.heap.size + 1) (u0 := .slice a1 r c1) (u1 := .slice a2 r c2) o2 (by omega)) (base' := W.heap.size) (by omega))
  have HNE := hide hne
  have HBf := hide ((HB1.out.setCell (p := ⟨W.heap.size + 1, 0, none⟩) (by show W.heap.size ≤ W.heap.size + 1; omega) (.slice a1 r c1)).setCell (p := ⟨W.heap.size + 1, 1, none⟩) (by show W.heap.size ≤ W.heap.size + 1; omega) (.slice a2 r c2))
  clear o1 o2 hne hb1 e0
  go_wp2_with fail
  exact bodyPost_ret (v := .tuple #[.agg #[.slice a1 r c1, .slice a2 r c2], .bool ok]) (by simp [results, Tryz.results24, go_sem, p0, p1]) rfl ⟨_, _, rfl, HBf.out, O1.out, O2.out, HNE.out⟩
set_option maxHeartbeats 2000000 in
theorem ssp_no {n n' : Nat} {gs : List Gd} {ls : List (Int × Int)} (HN : Hid (gs.length = n)) (hn : n ≤ 1048576) (HL : Hid (ls.length = n')) (hn' : n' ≤ 1048576) (hg : sheetB gs ls = false) : SpAns 34 n n' 0 false gs ls [] [] := by
  intro W X Y hs t
  have HT := hide t
  have HSh := hide hs
  have HG := hide hg
  have b1 := below_new W (.cells #[.slice (some ⟨X, 0, none⟩) n n, .slice (some ⟨Y, 0, none⟩) n' n'] 35)
  have b2 := below_new (W.alloc (.cells #[.slice (some ⟨X, 0, none⟩) n n, .slice (some ⟨Y, 0, none⟩) n' n'] 35)) (.cells #[.slice none 0 0, .slice none 0 0] 55)
  have HB := hide (b1.trans (b2.mono b1.size))
  have PR := hide (PBox.new (W.alloc (.cells #[.slice (some ⟨X, 0, none⟩) n n, .slice (some ⟨Y, 0, none⟩) n' n'] 35)) (.slice none 0 0) (.slice none 0 0) 55)
  rw [World.size_alloc] at PR
  have FR : Hid (∀ i, ((W.alloc (.cells #[.slice (some ⟨X, 0, none⟩) n n, .slice (some ⟨Y, 0, none⟩) n' n'] 35)).alloc (.cells #[.slice none 0 0, .slice none 0 0] 55)).frozen? ⟨W.heap.size + 1, i, none⟩ = false) := hide fun i => by simp [go_sem]
  clear t hs b1 b2 hg
  go_enter Tryz.func34, Tryz.ntmps34
  go_wp2_with fail
  refine (sgsh_hid HG HN hn (Nat.le_refl _) HSh (hide (HT.out.below HB.out).g) HL hn' (Nat.le_refl _) (hide (HT.out.below HB.out).l)).mono ?_
  rintro e w1 ⟨rfl, hb1⟩
  have e0 : ((W.alloc (.cells #[.slice (some ⟨X, 0, none⟩) n n, .slice (some ⟨Y, 0, none⟩) n' n'] 35)).alloc (.cells #[.slice none 0 0, .slice none 0 0] 55)).heap.size = W.heap.size + 1 + 1 := by simp
  obtain ⟨p0, p1, pl⟩ := PR.out.below hb1
  have f0 := (hb1.frozen (p := ⟨W.heap.size + 1, 0, none⟩) (by show W.heap.size + 1 < _; rw [e0]; omega)).trans (FR.out 0)
  have f1 := (hb1.frozen (p := ⟨W.heap.size + 1, 1, none⟩) (by show W.heap.size + 1 < _; rw [e0]; omega)).trans (FR.out 1)
  have HB1 := hide (HB.out.trans (hb1.mono HB.out.size))
  have HBf := hide ((HB1.out.setCell (p := ⟨W.heap.size + 1, 0, none⟩) (by show W.heap.size ≤ W.heap.size + 1; omega) (.slice none 0 0)).setCell (p := ⟨W.heap.size + 1, 1, none⟩) (by show W.heap.size ≤ W.heap.size + 1; omega) (.slice none 0 0))
  clear hb1 e0
  go_wp2_with fail
  exact bodyPost_ret (v := .tuple #[.agg #[.slice none 0 0, .slice none 0 0], .bool false]) (by simp [results, Tryz.results34, go_sem, p0, p1]) rfl ⟨_, _, rfl, HBf.out, World.ownsRow_nil _ _ _ _, World.ownsRow_nil _ _ _ _, fun g hg => by cases hg⟩
set_option maxHeartbeats 2000000 in
theorem ssp_yes {n n' r : Nat} {ok : Bool} {gs : List Gd} {ls : List (Int × Int)} {R1 R2 : List Int} (HN : Hid (gs.length = n)) (hn : n ≤ 1048576) (HL : Hid (ls.length = n')) (hn' : n' ≤ 1048576) (hg : sheetB gs ls = true) (Hi : Hid (PoAns 52 n n' r ok gs ls R1 R2)) : SpAns 34 n n' r ok gs ls R1 R2 := by
  intro W X Y hs t
  have HT := hide t
  have HSh := hide hs
  have HG := hide hg
  have b1 := below_new W (.cells #[.slice (some ⟨X, 0, none⟩) n n, .slice (some ⟨Y, 0, none⟩) n' n'] 35)
  have PS1 := PBox.new W (.slice (some ⟨X, 0, none⟩) n n) (.slice (some ⟨Y, 0, none⟩) n' n') 35
  have b2 := below_new (W.alloc (.cells #[.slice (some ⟨X, 0, none⟩) n n, .slice (some ⟨Y, 0, none⟩) n' n'] 35)) (.cells #[.slice none 0 0, .slice none 0 0] 55)
  have PS := hide (PS1.below b2)
  have HB := hide (b1.trans (b2.mono b1.size))
  have PR := hide (PBox.new (W.alloc (.cells #[.slice (some ⟨X, 0, none⟩) n n, .slice (some ⟨Y, 0, none⟩) n' n'] 35)) (.slice none 0 0) (.slice none 0 0) 55)
  rw [World.size_alloc] at PR
  have FR : Hid (∀ i, ((W.alloc (.cells #[.slice (some ⟨X, 0, none⟩) n n, .slice (some ⟨Y, 0, none⟩) n' n'] 35)).alloc (.cells #[.slice none 0 0, .slice none 0 0] 55)).frozen? ⟨W.heap.size + 1, i, none⟩ = false) := hide fun i => by simp [go_sem]
  clear t hs b1 b2 hg PS1
  go_enter Tryz.func34, Tryz.ntmps34
  go_wp2_with fail
  refine (sgsh_hid HG HN hn (Nat.le_refl _) HSh (hide (HT.out.below HB.out).g) HL hn' (Nat.le_refl _) (hide (HT.out.below HB.out).l)).mono ?_
  rintro e w1 ⟨rfl, hb1⟩
  have e0 : ((W.alloc (.cells #[.slice (some ⟨X, 0, none⟩) n n, .slice (some ⟨Y, 0, none⟩) n' n'] 35)).alloc (.cells #[.slice none 0 0, .slice none 0 0] 55)).heap.size = W.heap.size + 1 + 1 := by simp
  have z1 := hb1.size
  rw [e0] at z1
  have PS2 := hide (PS.out.below hb1)
  have PR2 := hide (PR.out.below hb1)
  have FR2 : Hid (∀ i, w1.frozen? ⟨W.heap.size + 1, i, none⟩ = false) := hide fun i => (hb1.frozen (p := ⟨W.heap.size + 1, i, none⟩) (by show W.heap.size + 1 < _; rw [e0]; omega)).trans (FR.out i)
  have HB1 := hide (HB.out.trans (hb1.mono HB.out.size))
  clear hb1 e0 PS PR FR
  obtain ⟨s0, s1, sl⟩ := PS2.out
  go_wp2_with fail
  refine (Hi.out _ _ _ HSh.out (HT.out.below HB1.out).g (HT.out.below HB1.out).l).mono ?_
  rintro e w2 ⟨vv1, vv2, rfl, hb2, o1, o2, hne⟩
  obtain ⟨a1, c1, rfl⟩ := own_sh o1
  obtain ⟨a2, c2, rfl⟩ := own_sh o2
  obtain ⟨p0, p1, pl⟩ := PR2.out.below hb2
  have f0 := (hb2.frozen (p := ⟨W.heap.size + 1, 0, none⟩) (by show W.heap.size + 1 < _; omega)).trans (FR2.out 0)
  have f1 := (hb2.frozen (p := ⟨W.heap.size + 1, 1, none⟩) (by show W.heap.size + 1 < _; omega)).trans (FR2.out 1)
  have HB2 := hide (HB1.out.trans (hb2.mono HB1.out.size))
  have O1 := hide (owns_low (own_two15 (B := W.heap.size + 1) (u0 := .slice a1 r c1) (u1 := .slice a2 r c2) o1 (by omega)) (base' := W.heap.size) (by omega))
  have O2 := hide (owns_low (own_two15 (B := W.heap.size + 1) (u0 := .slice a1 r c1) (u1 := .slice a2 r c2) o2 (by omega)) (base' := W.heap.size) (by omega))
  have HNE := hide hne
  have HBf := hide ((HB2.out.setCell (p := ⟨W.heap.size + 1, 0, none⟩) (by show W.heap.size ≤ W.heap.size + 1; omega) (.slice a1 r c1)).setCell (p := ⟨W.heap.size + 1, 1, none⟩) (by show W.heap.size ≤ W.heap.size + 1; omega) (.slice a2 r c2))
  clear o1 o2 hne hb2 s0 s1 sl z1
  go_wp2_with fail
  exact bodyPost_ret (v := .tuple #[.agg #[.slice a1 r c1, .slice a2 r c2], .bool ok]) (by simp [results, Tryz.results34, go_sem, p0, p1]) rfl ⟨_, _, rfl, HBf.out, O1.out, O2.out, HNE.out⟩
theorem sp_both {gs : List Gd} {ls : List (Int × Int)} (h : gs.length ≤ 1048576) (h' : ls.length ≤ 1048576) : ∃ (r : Nat) (ok : Bool) (R1 R2 : List Int), R1.length = r ∧ R2.length = r ∧ r ≤ 1000 ∧ SpAns 34 gs.length ls.length r ok gs ls R1 R2 ∧ SpAns 24 gs.length ls.length r ok gs ls R1 R2 := by
  cases hg : goodsB gs with
  | false =>
    exact ⟨0, false, [], [], rfl, rfl, by omega, ssp_no (hide rfl) h (hide rfl) h' (by rw [sheetB, hg]; rfl), isp_any (hide (poans_none fun W b b' h1 h2 h3 => po_bad1 rfl (Nat.le_refl _) h1 h2 hg))⟩
  | true =>
    cases hlb : linesB gs.length ls with
    | false =>
      exact ⟨0, false, [], [], rfl, rfl, by omega, ssp_no (hide rfl) h (hide rfl) h' (by rw [sheetB, hg, hlb]; rfl), isp_any (hide (poans_none fun W b b' h1 h2 h3 => po_bad2 rfl (Nat.le_refl _) h1 h2 hg rfl h3 hlb))⟩
    | true =>
      have h12 := goodsB_len hg
      exact ⟨gs.length, true, _, _, picks_len _ _, flow_len _ _, by omega, ssp_yes (hide rfl) h (hide rfl) h' (by rw [sheetB, hg, hlb]; rfl) (hide (poans_some fun W b b' h1 h2 h3 => spo_good rfl h (Nat.le_refl _) h1 h2 hg rfl h3 hlb)), isp_any (hide (poans_some fun W b b' h1 h2 h3 => po_good rfl (Nat.le_refl _) h1 h2 hg rfl h3 hlb))⟩
end Go.Proofs.YtlbagigghpiifaaGreat
namespace Go.Proofs.YtlbagigghpiifaaGreat
open Go.RowKit

/-- What both SheetProfiles answer; where they refuse there are no picks. -/
theorem sp_both17 {gs : List Gd} {ls : List (Int × Int)} (h : gs.length ≤ 1048576) (h' : ls.length ≤ 1048576) : ∃ (r : Nat) (ok : Bool) (R1 R2 : List Int), (ok = false → R1 = []) ∧ (ok = true → r = gs.length) ∧ R1.length = r ∧ R2.length = r ∧ r ≤ 1000 ∧ SpAns 34 gs.length ls.length r ok gs ls R1 R2 ∧ SpAns 24 gs.length ls.length r ok gs ls R1 R2 := by
  cases hg : goodsB gs with
  | false =>
    exact ⟨0, false, [], [], fun _ => rfl, fun h => (by cases h), rfl, rfl, by omega, ssp_no (hide rfl) h (hide rfl) h' (by rw [sheetB, hg]; rfl), isp_any (hide (poans_none fun W b b' h1 h2 h3 => po_bad1 rfl (Nat.le_refl _) h1 h2 hg))⟩
  | true =>
    cases hlb : linesB gs.length ls with
    | false =>
      exact ⟨0, false, [], [], fun _ => rfl, fun h => (by cases h), rfl, rfl, by omega, ssp_no (hide rfl) h (hide rfl) h' (by rw [sheetB, hg, hlb]; rfl), isp_any (hide (poans_none fun W b b' h1 h2 h3 => po_bad2 rfl (Nat.le_refl _) h1 h2 hg rfl h3 hlb))⟩
    | true =>
      have h12 := goodsB_len hg
      exact ⟨gs.length, true, _, _, fun h => (by cases h), fun _ => rfl, picks_len _ _, flow_len _ _, by omega, ssp_yes (hide rfl) h (hide rfl) h' (by rw [sheetB, hg, hlb]; rfl) (hide (poans_some fun W b b' h1 h2 h3 => spo_good rfl h (Nat.le_refl _) h1 h2 hg rfl h3 hlb)), isp_any (hide (poans_some fun W b b' h1 h2 h3 => po_good rfl (Nat.le_refl _) h1 h2 hg rfl h3 hlb))⟩
/-- What lies as DayCost begins: the sheet, the house, the answer's variable. -/
structure DC (w : World) (va vb vc : Value) (W : World) : Prop where
  h : HBox W (w.heap.size + 1) va vb vc
  c0 : W.cell? ⟨w.heap.size + 2, 0, none⟩ = some (.int .i64 0)
  c1 : W.cell? ⟨w.heap.size + 2, 1, none⟩ = some (.int .i64 0)
  f0 : W.frozen? ⟨w.heap.size + 2, 0, none⟩ = false
  f1 : W.frozen? ⟨w.heap.size + 2, 1, none⟩ = false
  lt : w.heap.size + 2 < W.heap.size
  b : Below w.heap.size w W
theorem DC.below {w W W' : World} {va vb vc : Value} (h : DC w va vb vc W) (hb : Below W.heap.size W W') : DC w va vb vc W' :=
  ⟨h.h.below hb, (hb.cell (p := ⟨w.heap.size + 2, 0, none⟩) h.lt).trans h.c0, (hb.cell (p := ⟨w.heap.size + 2, 1, none⟩) h.lt).trans h.c1, (hb.frozen (p := ⟨w.heap.size + 2, 0, none⟩) h.lt).trans h.f0, (hb.frozen (p := ⟨w.heap.size + 2, 1, none⟩) h.lt).trans h.f1, Nat.lt_of_lt_of_le h.lt hb.size, h.b.trans (hb.mono h.b.size)⟩
theorem DC.new (w : World) (o : Obj) (va vb vc : Value) (t u : TypeId) : DC w va vb vc (((w.alloc o).alloc (.cells #[va, vb, vc] t)).alloc (.cells #[.int .i64 0, .int .i64 0] u)) := by
  have b0 := below_new w o
  have b1 := below_new (w.alloc o) (.cells #[va, vb, vc] t)
  have b2 := below_new ((w.alloc o).alloc (.cells #[va, vb, vc] t)) (.cells #[.int .i64 0, .int .i64 0] u)
  have h0 := (HBox.new (w.alloc o) va vb vc t).below b2
  rw [World.size_alloc] at h0
  have hz : ((w.alloc o).alloc (.cells #[va, vb, vc] t)).heap.size = w.heap.size + 2 := by simp
  have hc : ∀ (i : Nat), (((w.alloc o).alloc (.cells #[va, vb, vc] t)).alloc (.cells #[.int .i64 0, .int .i64 0] u)).cell? ⟨w.heap.size + 2, i, none⟩ = (((w.alloc o).alloc (.cells #[va, vb, vc] t)).alloc (.cells #[.int .i64 0, .int .i64 0] u)).cell? ⟨((w.alloc o).alloc (.cells #[va, vb, vc] t)).heap.size, i, none⟩ := fun i => by rw [hz]
  have hf : ∀ (i : Nat), (((w.alloc o).alloc (.cells #[va, vb, vc] t)).alloc (.cells #[.int .i64 0, .int .i64 0] u)).frozen? ⟨w.heap.size + 2, i, none⟩ = (((w.alloc o).alloc (.cells #[va, vb, vc] t)).alloc (.cells #[.int .i64 0, .int .i64 0] u)).frozen? ⟨((w.alloc o).alloc (.cells #[va, vb, vc] t)).heap.size, i, none⟩ := fun i => by rw [hz]
  exact ⟨h0, (hc 0).trans (by simp [go_sem]), (hc 1).trans (by simp [go_sem]), (hf 0).trans (by simp [go_sem]), (hf 1).trans (by simp [go_sem]), by simp, b0.trans ((b1.trans (b2.mono (by simp))).mono (by simp))⟩
theorem DC.res {w W : World} {va vb vc : Value} (h : DC w va vb vc W) (u v : Value) : Below w.heap.size w ((W.setCell ⟨w.heap.size + 2, 0, none⟩ u).setCell ⟨w.heap.size + 2, 1, none⟩ v) :=
  (h.b.setCell (p := ⟨w.heap.size + 2, 0, none⟩) (by show w.heap.size ≤ w.heap.size + 2; omega) u).setCell (p := ⟨w.heap.size + 2, 1, none⟩) (by show w.heap.size ≤ w.heap.size + 2; omega) v
set_option maxHeartbeats 2000000 in
theorem lp_no {n' n'' r : Nat} {ok : Bool} {gs : List Gd} {ls : List (Int × Int)} {R1 R2 : List Int} {X Y : Nat} {w : World} (HSP : Hid (SpAns 34 n' n'' r ok gs ls R1 R2)) (HSH : Hid (Short gs)) (HT : Hid (TS w X Y n' n'' gs ls)) (HR : Hid (R1.length = r)) (HG : Hid ((ok && Sh.flowB R1) = false)) :
    Calls Tryz.prog 18 #[.agg #[.slice (some ⟨X, 0, none⟩) n' n', .slice (some ⟨Y, 0, none⟩) n'' n'']] w fun e w' => e = .returned (.tuple #[.slice none 0 0, .bool false]) ∧ Below w.heap.size w w' := by
  have HB0 := hide (below_new w (.cells #[.slice (some ⟨X, 0, none⟩) n' n', .slice (some ⟨Y, 0, none⟩) n'' n''] 35))
  go_enter Tryz.func18, Tryz.ntmps18
  go_wp2_with fail
  refine (HSP.out _ _ _ HSH.out (HT.out.below HB0.out)).mono ?_
  rintro _ w1 ⟨vv1, vv2, rfl, hb1, o1, o2, _⟩
  obtain ⟨a1, c1, rfl⟩ := own_sh o1
  obtain ⟨a2, c2, rfl⟩ := own_sh o2
  have bn := below_new w1 (.cells #[.slice a1 r c1, .slice a2 r c2] 55)
  obtain ⟨a1', c1', e1, hr1⟩ := own_any7 HR.out (own_below o1 bn)
  cases e1
  have HR1 := hide hr1
  have PB := hide (PBox.new w1 (.slice a1 r c1) (.slice a2 r c2) 55)
  have HB1 := hide ((HB0.out.trans (hb1.mono HB0.out.size)).trans (bn.mono (HB0.out.trans (hb1.mono HB0.out.size)).size))
  obtain ⟨p0, p1, _⟩ := PB.out
  clear hb1 o1 o2 bn hr1
  cases ok
  · go_wp2_with fail
    go_ret2
    exact ⟨rfl, HB1.out⟩
  · have HF : Hid (Sh.flowB R1 = false) := hide (by have := HG.out; rwa [Bool.true_and] at this)
    go_wp2_with fail
    refine (sflows_eq HR1 HR HF).mono ?_
    rintro _ w2 ⟨rfl, rfl⟩
    go_wp2_with fail
    go_ret2
    exact ⟨rfl, HB1.out⟩
set_option maxHeartbeats 2000000 in
theorem lp_yes {n' n'' r : Nat} {gs : List Gd} {ls : List (Int × Int)} {R1 R2 : List Int} {X Y : Nat} {w : World} (HSP : Hid (SpAns 34 n' n'' r true gs ls R1 R2)) (HSH : Hid (Short gs)) (HT : Hid (TS w X Y n' n'' gs ls)) (HR : Hid (R1.length = r)) (HF : Hid (Sh.flowB R1 = true)) :
    Calls Tryz.prog 18 #[.agg #[.slice (some ⟨X, 0, none⟩) n' n', .slice (some ⟨Y, 0, none⟩) n'' n'']] w fun e w' => ∃ p f, e = .returned (.tuple #[.slice p r f, .bool true]) ∧ Below w.heap.size w w' ∧ ARow w' p R1 := by
  have HB0 := hide (below_new w (.cells #[.slice (some ⟨X, 0, none⟩) n' n', .slice (some ⟨Y, 0, none⟩) n'' n''] 35))
  go_enter Tryz.func18, Tryz.ntmps18
  go_wp2_with fail
  refine (HSP.out _ _ _ HSH.out (HT.out.below HB0.out)).mono ?_
  rintro _ w1 ⟨vv1, vv2, rfl, hb1, o1, o2, _⟩
  obtain ⟨a1, c1, rfl⟩ := own_sh o1
  obtain ⟨a2, c2, rfl⟩ := own_sh o2
  have bn := below_new w1 (.cells #[.slice a1 r c1, .slice a2 r c2] 55)
  obtain ⟨a1', c1', e1, hr1⟩ := own_any7 HR.out (own_below o1 bn)
  cases e1
  have HR1 := hide hr1
  have PB := hide (PBox.new w1 (.slice a1 r c1) (.slice a2 r c2) 55)
  have HB1 := hide ((HB0.out.trans (hb1.mono HB0.out.size)).trans (bn.mono (HB0.out.trans (hb1.mono HB0.out.size)).size))
  obtain ⟨p0, p1, _⟩ := PB.out
  clear hb1 o1 o2 bn hr1
  go_wp2_with fail
  refine (sflows_eq HR1 HR HF).mono ?_
  rintro _ w2 ⟨rfl, rfl⟩
  go_wp2_with fail
  go_ret2
  exact ⟨_, _, rfl, HB1.out, HR1.out⟩
namespace Hs
theorem tr_split (ps cs ws os : List Int) : trB ps cs ws os = (Sh.flowB ps && (houseB ws cs os && decide (ps.length = cs.length))) := by
  unfold trB dayB houseB
  cases Sh.flowB ps <;> cases slotsB cs ws <;> cases fitB cs os <;> cases decide (ps.length = cs.length) <;> rfl
theorem tr_none {ps cs ws os : List Int} (h : trB ps cs ws os = false) : trF ps cs ws os = (0, 0) ∧ trG ps cs ws os = false := by
  unfold trF trG
  rw [h]
  exact ⟨by simp, rfl⟩
end Hs
end Go.Proofs.YtlbagigghpiifaaGreat
namespace Go.Proofs.YtlbagigghpiifaaGreat
open Go.RowKit

theorem infI : (Tryz.prog.info? 3).map (fun i => (i.zero, i.size, i.bytes)) = some (some (.int .i64 0), 1, 8) := by kernel_rfl
theorem intI_cells (xs : List Int) : ∀ u ∈ ints xs, u.oneCell' = true := by
  intro u hu
  simp only [ints, List.mem_map] at hu
  obtain ⟨x, _, rfl⟩ := hu; rfl
theorem newI_one (w : World) (x : Int) {H : Nat} (hH : w.heap.size = H) : ∀ (j : Nat) (u : Value), (ints [x])[j]? = some u → (w.alloc (.cells #[.int .i64 x] 3)).cell? ((⟨H, 0, none⟩ : Addr).add j) = some u := by
  intro j u hj
  subst hH
  match j, hj with
  | 0, hj => simp [ints] at hj; subst hj; simp [Addr.add]
theorem own_some {w : World} {base e s n : Nat} {v : Value} {xs : List Value} (h : w.ownsRow base e s v n xs) (hn : n ≠ 0) : ∃ g cap, v = .slice (some ⟨g, 0, none⟩) n cap ∧ base ≤ g ∧ g < w.heap.size := by
  rcases h.2 with ⟨_, h0⟩ | ⟨g, cap, cur, hv, hb, hg, _⟩
  · exact absurd h0 hn
  · exact ⟨g, cap, hv, hb, (Array.getElem?_eq_some_iff.1 hg).1⟩
theorem ones_snoc (k : Nat) : ints (List.replicate (k + 1) 1) = ints (List.replicate k 1) ++ ints [1] := by
  rw [List.replicate_succ']; simp [ints]
theorem ones_set (ys : List Int) (k n : Nat) (hy : ys.length = n) (hk : k < n) (h : ys.take k = List.replicate k 1) : (ys.set k 1).take (k + 1) = List.replicate (k + 1) 1 := by
  rw [List.take_add_one, List.take_set_of_le (Nat.le_refl _), h, List.replicate_succ']
  congr 1
  simp [hk, hy]
/-- One more for the kind with the greatest gain, in an owned list. -/
theorem more_own {w : World} {base g n cap : Nat} {fs : List Int} {K : Nat} (hn : fs.length = n) (h0 : 0 < n) (own : w.ownsRow base 3 1 (.slice (some ⟨g, 0, none⟩) n cap) n (ints (Sh.share fs K))) :
    ∃ j x, Sh.next fs (Sh.share fs K) = j ∧ j < n ∧ w.cell? ⟨g, j, none⟩ = some (.int .i64 x) ∧ w.frozen? ⟨g, j, none⟩ = false ∧ x = (Sh.share fs K).getD j 0 ∧
      (w.setCell ⟨g, j, none⟩ (.int .i64 (x + 1))).ownsRow base 3 1 (.slice (some ⟨g, 0, none⟩) n cap) n (ints (Sh.share fs (K + 1))) := by
  have hl := Sh.next_lt (Sh.share fs K) (show 0 < fs.length by omega)
  have hsl := Sh.share_len fs K
  refine ⟨_, _, rfl, by omega, ?_, own.frozenAt _, rfl, ?_⟩
  · rw [own.cellAt _ (by omega), ints_get _ _ (by omega)]
  · obtain ⟨st1, st2⟩ := own.stored (Sh.next fs (Sh.share fs K)) (.int .i64 ((Sh.share fs K).getD (Sh.next fs (Sh.share fs K)) 0 + 1))
    rw [ints_set] at st1
    exact st1

set_option maxRecDepth 100000 in
set_option maxHeartbeats 2000000 in
theorem cf_any {a : Option Addr} {n c K : Nat} {p : Int} {fs : List Int} {w : World} (h : Hid (ARow w a fs)) (hn : Hid (fs.length = n)) (hk : Hid (Sh.kindsB fs p = true)) (hK : (K : Int) = p - n) :
    Calls Tryz.prog 44 #[.slice a n c, .int .i64 p] w fun e w' => e = .returned (.slice (some ⟨w.heap.size, 0, none⟩) n n) ∧ Below w.heap.size w w' ∧ w.heap.size < w'.heap.size ∧ w'.ownsRow w.heap.size 3 1 (.slice (some ⟨w.heap.size, 0, none⟩) n n) n (ints (Sh.share fs K)) := by
  have hkb := Sh.kindsB_yes hk.out
  have hfl := Sh.flowB_yes hkb.1
  have hnl := hn.out
  have n0 : 0 < n := by omega
  have n8 : n ≤ 8 := by omega
  have p0 : (n : Int) ≤ p := by omega
  have p1 : p ≤ 40 := hkb.2.2
  have HF := hide hkb.1
  have hmk := makeI_run n (by omega)
  have HM := hide (made_own w n (by omega))
  have hpn : wrap64 (p - n) = K := by rw [wrap_id _ (by omega) (by omega)]; omega
  clear hkb hfl hnl
  go_enter Tryz.func44, Tryz.ntmps44
  go_wp2_with fail
  go_loopw [6, 12] (fun _ s wr => ∃ (k : Nat) (ys : List Int), s = .int .i64 k ∧ k ≤ n ∧ ys.length = n ∧ Hid (ys.take k = List.replicate k 1) ∧ wr.ownsRow w.heap.size 3 1 (.slice (some ⟨w.heap.size, 0, none⟩) n n) n (ints ys) ∧ Below w.heap.size w wr ∧ w.heap.size < wr.heap.size) (fun _ s _ => n - (intOf s).toNat)
  case atStart => exact ⟨0, List.replicate n 0, rfl, Nat.zero_le _, by simp, hide (by simp), HM.out, (Below.refl _ _).alloc (Nat.le_refl _) _, by simp⟩
  case round =>
    obtain ⟨k, ys, rfl, hk', hy, HT, hown, hB, hz⟩ := hrel
    by_cases hlt : k < n
    · have HSET := hide (ones_set ys k n hy hlt HT.out)
      have i0 : (0 : Int) ≤ (k : Int) := by omega
      have i1 : (k : Int) < (n : Int) := by omega
      have c0 : wr.cell? ⟨w.heap.size, k, none⟩ = some (.int .i64 (ys.getD k 0)) := by rw [hown.cellAt k (by omega), ints_get ys k (by omega)]
      have f0 := hown.frozenAt k
      obtain ⟨st1, st2⟩ := hown.stored k (.int .i64 1)
      rw [ints_set] at st1
      have HST := hide st1
      generalize ys.getD k 0 = y at *
      clear hmk st1 hown st2
      go_wp2_with fail
      go_roundw
      case rel => exact ⟨k + 1, ys.set k 1, by go_num, by omega, by simpa using hy, HSET, HST.out, hB.setCell (Nat.le_refl _) _, by simpa using hz⟩
      case measure => simp only [intOf]; omega
    · have hke : k = n := by omega
      subst hke
      have HS : Hid (ys = Sh.share fs 0) := hide (by have := HT.out; rw [← hy, List.take_length] at this; unfold Sh.share; rw [hn.out]; rw [this, hy])
      have HO := hide hown
      clear hown hmk
      go_wp2_with fail
      go_loopw [23] (fun s wr => ∃ t : Nat, s = .int .i64 t ∧ t ≤ K ∧ Hid (wr.ownsRow w.heap.size 3 1 (.slice (some ⟨w.heap.size, 0, none⟩) k k) k (ints (Sh.share fs t))) ∧ Below w.heap.size w wr ∧ w.heap.size < wr.heap.size) (fun s _ => K - (intOf s).toNat)
      case atStart => exact ⟨0, rfl, Nat.zero_le _, hide (by rw [← HS.out]; exact HO.out), hB, hz⟩
      case round =>
        obtain ⟨t, rfl, ht, HOW, hB, hz⟩ := hrel
        by_cases hlt : t < K
        · have HSS := hide (Sh.share_shared HF.out t (by rw [hn.out]; omega))
          have HCL : Hid ((Sh.share fs t).length = k) := hide (by rw [Sh.share_len]; exact hn.out)
          have hgg := hide (gtg_any (c := c) (d := k) (hide (h.out.below hB)) hn (hide (arow_owns HCL.out.symm HOW.out)) HSS)
          have ho1 := fun (w1 : World) (hb : Below wr.heap.size wr w1) => more_own hn.out n0 (own_below4 HOW.out hb)
          have HO1 := hide ho1
          have hxb : Hid (∀ j, j < k → 1 ≤ (Sh.share fs t).getD j 0 ∧ (Sh.share fs t).getD j 0 ≤ 40) := hide fun j hj => Sh.sharedB_at HSS.out (by rw [hn.out]; exact hj)
          clear ho1
          generalize hj : Sh.next fs (Sh.share fs t) = j0 at hgg
          have HJ := hide hj
          clear hj
          go_wp2_with (go_at_call 61; refine hgg.out.mono ?_; rintro e w1 ⟨rfl, hb1⟩; obtain ⟨j, x, hj, hjn, hcx, hfx, hxx, hst⟩ := HO1.out w1 hb1; rw [HJ.out] at hj; subst hj; have hx1 := hxb.out j0 hjn; rw [← hxx] at hx1; obtain ⟨x0, x1⟩ := hx1; have HST := hide hst; have hjj : (j0 : Int) < (k : Int) := (by omega); have hjz : (0 : Int) ≤ (j0 : Int) := (by omega); clear hxx hst)
          go_roundw
          case rel => exact ⟨t + 1, by go_num, by omega, HST, (hB.trans (hb1.mono hB.size)).setCell (Nat.le_refl _) _, by simp; exact Nat.lt_of_lt_of_le hz hb1.size⟩
          case measure => simp only [intOf]; omega
        · have hte : t = K := by omega
          subst hte
          go_wp2_with fail
          go_ret
          exact ⟨rfl, hB, hz, HOW.out⟩
set_option maxRecDepth 100000 in
set_option maxHeartbeats 2000000 in
theorem scf_any {a : Option Addr} {n c K : Nat} {p : Int} {fs : List Int} {w : World} (h : Hid (ARow w a fs)) (hn : Hid (fs.length = n)) (hk : Hid (Sh.kindsB fs p = true)) (hK : (K : Int) = p - n) :
    Calls Tryz.prog 20 #[.slice a n c, .int .i64 p] w fun e w' => ∃ v, e = .returned v ∧ Below w.heap.size w w' ∧ w'.ownsRow w.heap.size 3 1 v n (ints (Sh.share fs K)) := by
  obtain ⟨i0, hi, hz0, hz1, hz2⟩ := info_parts infI
  have hkb := Sh.kindsB_yes hk.out
  have hfl := Sh.flowB_yes hkb.1
  have hnl := hn.out
  have n0 : 0 < n := by omega
  have n8 : n ≤ 8 := by omega
  have p0 : (n : Int) ≤ p := by omega
  have p1 : p ≤ 40 := hkb.2.2
  have HF := hide hkb.1
  clear hkb hfl hnl
  go_enter Tryz.func20, Tryz.ntmps20
  go_wp2_with fail
  go_loopw [5, 9] (fun v s wr => ∃ k : Nat, s = .int .i64 k ∧ k ≤ n ∧ wr.ownsRow w.heap.size 3 1 v k (ints (List.replicate k 1)) ∧ Below w.heap.size w wr) (fun _ s _ => n - (intOf s).toNat)
  case atStart => exact ⟨0, rfl, Nat.zero_le _, World.ownsRow_nil _ _ _ _, Below.refl _ _⟩
  case round =>
    obtain ⟨k, rfl, hk', hown, hB⟩ := hrel
    have hs2 := hB.size
    by_cases hlt : k < n
    · go_wp2_with (first
        | (at_builtin; refine wpList_append_own _ rfl _ _ 26 rfl w.heap.size 3 i0 (.int .i64 0) 1 8 Tryz.underlying26 hi hz0 hz1 hz2 rfl (by decide) _ _ _ rfl (hown.alloc _) ⟨wr.heap.size, 0, none⟩ 1 1 (ints [1]) rfl rfl (newI_one _ _ rfl) (intI_cells _) (by unfold maxLen; omega) (by omega) (by simp; omega) ?_))
      intro v' w4 hown' hgrow _
      have hfin := own_grow hown hgrow (Nat.le_refl _) hs2
      rw [← ones_snoc] at hown'
      go_wp2_with fail
      go_roundw
      case rel => exact ⟨k + 1, by go_num, by omega, hown', hB.trans hfin⟩
      case measure => simp only [intOf]; omega
    · have hke : k = n := by omega
      subst hke
      obtain ⟨g, cap, rfl, hg0, hgl⟩ := own_some hown (by omega)
      have HO := hide hown
      clear hown
      go_wp2_with fail
      go_loopw [6] (fun s wr => ∃ t : Nat, s = .int .i64 ((k : Int) + t) ∧ t ≤ K ∧ Hid (wr.ownsRow w.heap.size 3 1 (.slice (some ⟨g, 0, none⟩) k cap) k (ints (Sh.share fs t))) ∧ Below w.heap.size w wr ∧ g < wr.heap.size) (fun s _ => (p - intOf s).toNat)
      case atStart => exact ⟨0, by simp, Nat.zero_le _, hide (by unfold Sh.share; rw [hn.out]; exact HO.out), hB, hgl⟩
      case round =>
        obtain ⟨t, rfl, ht, HOW, hB, hz⟩ := hrel
        by_cases hlt : (k : Int) + t < p
        · have HSS := hide (Sh.share_shared HF.out t (by rw [hn.out]; omega))
          have HCL : Hid ((Sh.share fs t).length = k) := hide (by rw [Sh.share_len]; exact hn.out)
          have hgg := hide (snext_any (c := c) (d := cap) (hide (h.out.below hB)) hn (hide (arow_owns HCL.out.symm HOW.out)) HSS)
          have ho1 := fun (w1 : World) (hb : Below wr.heap.size wr w1) => more_own hn.out n0 (own_below4 HOW.out hb)
          have HO1 := hide ho1
          have hxb : Hid (∀ j, j < k → 1 ≤ (Sh.share fs t).getD j 0 ∧ (Sh.share fs t).getD j 0 ≤ 40) := hide fun j hj => Sh.sharedB_at HSS.out (by rw [hn.out]; exact hj)
          clear ho1
          generalize hj : Sh.next fs (Sh.share fs t) = j0 at hgg
          have HJ := hide hj
          clear hj
          go_wp2_with (go_at_call 37; refine hgg.out.mono ?_; rintro e w1 ⟨rfl, hb1⟩; obtain ⟨j, x, hj, hjn, hcx, hfx, hxx, hst⟩ := HO1.out w1 hb1; rw [HJ.out] at hj; subst hj; have hx1 := hxb.out j0 hjn; rw [← hxx] at hx1; obtain ⟨x0, x1⟩ := hx1; have HST := hide hst; have hjj : (j0 : Int) < (k : Int) := (by omega); have hjz : (0 : Int) ≤ (j0 : Int) := (by omega); clear hxx hst)
          go_roundw
          case rel => exact ⟨t + 1, by go_num, by omega, HST, (hB.trans (hb1.mono hB.size)).setCell hg0 _, by simp; exact Nat.lt_of_lt_of_le hz hb1.size⟩
          case measure => simp only [intOf]; omega
        · have hte : t = K := by omega
          subst hte
          go_wp2_with fail
          go_ret
          exact ⟨_, rfl, hB, HOW.out⟩
def shareL (fs : List Int) (p : Int) : List Int := Sh.share fs (p - fs.length).toNat
theorem shareL_of {fs : List Int} {n K : Nat} {p : Int} (hn : Hid (fs.length = n)) (hK : (K : Int) = p - n) : Sh.share fs K = shareL fs p := by
  unfold shareL; rw [hn.out, ← hK]; rfl
theorem shareL_len (fs : List Int) (p : Int) : (shareL fs p).length = fs.length := Sh.share_len _ _
set_option maxRecDepth 100000 in
set_option maxHeartbeats 1000000 in
theorem so_no {a : Option Addr} {n c : Nat} {p : Int} {fs : List Int} {w : World} (h : Hid (ARow w a fs)) (hn : Hid (fs.length = n)) (hk : Hid (Sh.kindsB fs p = false)) :
    Calls Tryz.prog 25 #[.slice a n c, .int .i64 p] w fun e w' => e = .returned (.tuple #[.slice none 0 0, .bool false]) ∧ Below w.heap.size w w' := by
  go_enter Tryz.func25, Tryz.ntmps25
  go_wp2_with (go_at_call 43; refine (kinds_eq h hn hk).mono ?_; rintro e w1 ⟨rfl, rfl⟩)
  go_ret2
  exact ⟨rfl, Below.refl _ _⟩
set_option maxRecDepth 100000 in
set_option maxHeartbeats 1000000 in
theorem so_yes {a : Option Addr} {n c : Nat} {p : Int} {fs : List Int} {w : World} (h : Hid (ARow w a fs)) (hn : Hid (fs.length = n)) (hk : Hid (Sh.kindsB fs p = true)) :
    Calls Tryz.prog 25 #[.slice a n c, .int .i64 p] w fun e w' => ∃ g, e = .returned (.tuple #[.slice (some ⟨g, 0, none⟩) n n, .bool true]) ∧ Below w.heap.size w w' ∧ w'.ownsRow w.heap.size 3 1 (.slice (some ⟨g, 0, none⟩) n n) n (ints (shareL fs p)) := by
  obtain ⟨K, hK⟩ : ∃ K : Nat, (K : Int) = p - n := ⟨(p - n).toNat, by have := Sh.kindsB_yes hk.out; have := hn.out; omega⟩
  have HE := hide (shareL_of hn hK)
  go_enter Tryz.func25, Tryz.ntmps25
  go_wp2_with (first
    | (go_at_call 43; refine (kinds_eq h hn hk).mono ?_; rintro e w1 ⟨rfl, rfl⟩)
    | (go_at_call 44; refine (cf_any h hn hk hK).mono ?_; rintro e w1 ⟨rfl, hb1, hz1, own1⟩; rw [HE.out] at own1))
  go_ret2
  exact ⟨_, rfl, hb1, own1⟩
end Go.Proofs.YtlbagigghpiifaaGreat
namespace Go.Proofs.YtlbagigghpiifaaGreat.Hs
open Go.Proofs.YtlbagigghpiifaaGreat

def hfB (ok : Bool) (ps ws : List Int) : Bool := (ok && Sh.flowB ps) && (decide (ps.length ≤ ws.length) && (decide (ws.length ≤ 10) && Pf.allB ws 0 1000))
def hfC (ps ws : List Int) : List Int := shareL ps (ws.length : Int)
theorem hf_yes {ok : Bool} {ps ws : List Int} (h : hfB ok ps ws = true) : ok = true ∧ Sh.flowB ps = true ∧ ps.length ≤ ws.length ∧ ws.length ≤ 10 ∧ Pf.allB ws 0 1000 = true := by
  simp only [hfB, Bool.and_eq_true, decide_eq_true_eq] at h
  exact ⟨h.1.1, h.1.2, h.2.1, h.2.2.1, h.2.2.2⟩
theorem hf_kinds {ok : Bool} {ps ws : List Int} (h : hfB ok ps ws = true) : Sh.kindsB ps (ws.length : Int) = true := by
  obtain ⟨_, h1, h2, h3, _⟩ := hf_yes h
  unfold Sh.kindsB
  rw [h1, Bool.true_and]
  exact Pf.inB_of (by omega) (by omega)
theorem el_le_sum : ∀ {xs : List Int}, (∀ i, i < xs.length → 0 ≤ xs.getD i 0) → ∀ i, i < xs.length → xs.getD i 0 ≤ xs.sum ∧ 0 ≤ xs.sum
  | [], _, i, hi => absurd hi (Nat.not_lt_zero _)
  | x :: r, h, i, hi => by
    have hx : 0 ≤ x := by simpa using h 0 (by simp)
    have hr : ∀ j, j < r.length → 0 ≤ r.getD j 0 := fun j hj => by simpa using h (j + 1) (by simpa using hj)
    have hs : 0 ≤ r.sum := by
      cases r with
      | nil => simp
      | cons y t => exact (el_le_sum hr 0 (by simp)).2
    cases i with
    | zero => simp; omega
    | succ i =>
      have := el_le_sum hr i (by simpa using hi)
      simp only [List.getD_cons_succ, List.sum_cons]
      omega
theorem hfC_len (ps ws : List Int) : (hfC ps ws).length = ps.length := shareL_len _ _
theorem hfC_sum {ps ws : List Int} (h0 : 0 < ps.length) (h : ps.length ≤ ws.length) : (hfC ps ws).sum = (ws.length : Int) := by
  unfold hfC shareL
  rw [Sh.share_sum h0]
  omega
theorem hfC_cnt {ps ws : List Int} (h0 : 1 ≤ ps.length) (h8 : ps.length ≤ 8) (h : ps.length ≤ ws.length) (hw : ws.length ≤ 10) : cntB (hfC ps ws) = true := by
  have hs := hfC_sum (ws := ws) (by omega) h
  have hl := hfC_len ps ws
  have hge : ∀ i, i < (hfC ps ws).length → 1 ≤ (hfC ps ws).getD i 0 := fun i hi => Sh.share_ge (by omega) _ i (by omega)
  simp only [cntB, Bool.and_eq_true, decide_eq_true_eq]
  refine ⟨Pf.inB_of (by omega) (by omega), Pf.allB_of fun i hi => Pf.inB_of (hge i hi) ?_, by omega⟩
  have := (el_le_sum (fun j hj => by have := hge j hj; omega) i hi).1
  omega
theorem hf_day {ok : Bool} {ps ws : List Int} (h : hfB ok ps ws = true) : dayB ps (hfC ps ws) ws = true := by
  obtain ⟨_, h1, h2, h3, h4⟩ := hf_yes h
  obtain ⟨f1, f2, _⟩ := Sh.flowB_yes h1
  simp only [dayB, slotsB, Bool.and_eq_true, decide_eq_true_eq]
  exact ⟨⟨h1, (hfC_len ps ws).symm⟩, ⟨hfC_cnt f1 f2 h2 h3, hfC_sum (by omega) h2⟩, h4⟩
/-- What is refused on the way is refused in the end, too. -/
theorem day_hf {ok : Bool} {ps ws C : List Int} (hok : ok = false → ps = []) (hC : C = if Sh.kindsB ps (ws.length : Int) = true then hfC ps ws else []) (h : hfB ok ps ws = false) : dayB ps C ws = false := by
  cases hd : dayB ps C ws
  · rfl
  · obtain ⟨h1, h2, h3⟩ := day_yes hd
    obtain ⟨f1, f2, _⟩ := Sh.flowB_yes h1
    obtain ⟨s1, s2, s3, s4⟩ := slotsB_yes h3
    cases hk : Sh.kindsB ps (ws.length : Int)
    · rw [hC, hk] at h2
      simp at h2
      rw [h2] at f1
      simp at f1
    · obtain ⟨_, k1, _⟩ := Sh.kindsB_yes hk
      have hkt : ok = true := by
        cases ok
        · rw [hok rfl] at f1; simp at f1
        · rfl
      have : hfB ok ps ws = true := by
        simp only [hfB, Bool.and_eq_true, decide_eq_true_eq]
        exact ⟨⟨hkt, h1⟩, by omega, s4, s3⟩
      rw [this] at h; cases h
end Go.Proofs.YtlbagigghpiifaaGreat.Hs
namespace Go.Proofs.YtlbagigghpiifaaGreat
open Go.RowKit Go.Sort

set_option maxHeartbeats 8000000 in
theorem ss_any {p b a : Option Addr} {n m c d f : Nat} {ps cs ws : List Int} {w : World} (HN : Hid (ws.length = n)) (HM_ : Hid (cs.length = m)) (HR : Hid (ps.length = m)) (HF : Hid (Sh.flowB ps = true)) (HC : Hid (Hs.slotsB cs ws = true)) (HA : Hid (ARow w a ws)) (HB : Hid (ARow w b cs)) (HP : Hid (ARow w p ps)) :
    Calls Tryz.prog 21 #[.slice p m f, .slice b m d, .slice a n c] w fun e w' => ∃ g, e = .returned (.slice (some ⟨g, 0, none⟩) n n) ∧ Below w.heap.size w w' ∧ w.heap.size ≤ g ∧ Ow w' g n (Hs.ownL ps cs ws) := by
  have hn10 : n ≤ 10 := by have := (Hs.slotsB_yes HC.out).2.2.2; have := HN.out; omega
  have hm8 : m ≤ 8 := by have := (Hs.cntB_yes (Hs.slotsB_yes HC.out).1).2.1; have := HM_.out; omega
  have hmk := makeI_run n (by omega)
  have HGW := hide (Hs.slotsB_yes HC.out).2.2.1
  have HGL := hide (Hs.goodsL_len ps cs)
  have HGA : Hid ((Hs.exp cs (Hs.goodsL ps cs)).length = n) := hide ((Hs.goodsL_all (by rw [HM_.out, HR.out]) HC.out).trans HN.out)
  have HSG := hide fun (W : World) (hp : ARow W p ps) (hb : ARow W b cs) => sgoods_any (c := f) (d := d) HR HM_ (by omega) (hide fun i hi => Sh.flowB_at HF.out (by rw [HR.out]; exact hi)) (hide fun i hi => Hs.cntB_at (Hs.slotsB_yes HC.out).1 (by rw [HM_.out]; exact hi)) (hide hp) (hide hb)
  go_enter Tryz.func21, Tryz.ntmps21
  go_wp2_with fail
  go_loopw [7, 9, 18] (fun s7 _ s wr => ∃ (k : Nat), s = .int .i64 k ∧ k ≤ n ∧ wr.ownsRow w.heap.size 3 1 s7 k (ints ((negs ws).take k)) ∧ Below w.heap.size w wr) (fun _ _ s _ => n - (intOf s).toNat)
  case atStart => exact ⟨0, rfl, Nat.zero_le _, World.ownsRow_nil _ _ _ _, Below.refl _ _⟩
  case round =>
    obtain ⟨k, rfl, hk, hown, hB⟩ := hrel
    by_cases hlt : k < n
    · obtain ⟨ba, oa, rfl, r1⟩ := (HA.out.below hB).at (i := k) (by rw [HN.out]; exact hlt)
      have i0 : (0 : Int) ≤ (k : Int) := by omega
      have i1 : (k : Int) < (n : Int) := by omega
      have hx := Pf.inB_yes (Pf.allB_get HGW.out (show k < ws.length by rw [HN.out]; exact hlt))
      obtain ⟨v', w3, hr3, own3, hg3⟩ := push_int (x := - ws.getD k 0) hown (by omega) hB.size
      rw [← negs_step ws (by rw [HN.out]; exact hlt)] at own3
      have HO3 := hide own3
      have HB3 := hide (hB.trans (grown_under' hg3 hown (Nat.le_refl _) hB.size))
      generalize ws.getD k 0 = x at *
      have nx : wrap64 (-x) = -x := by unfold wrap64; omega
      clear hmk own3 hg3 hown hx
      go_wp2_with (first | (at_builtin; refine Lib.wpList_append_run _ rfl _ _ _ _ rfl _ _ rfl rfl _ _ (hr3 _) ?_))
      go_roundw
      case rel => exact ⟨k + 1, by go_num, by omega, HO3.out, HB3.out⟩
      case measure => simp only [intOf]; omega
    · have hke : k = n := by omega
      subst hke
      rw [show (negs ws).take k = negs ws by rw [← HN.out, ← negs_len ws, List.take_length]] at hown
      obtain ⟨an, cn, rfl, hrn⟩ := own_any7 (by rw [negs_len, HN.out]) hown
      have HRN := hide hrn
      have HBw := hide hB
      clear hown hrn hB
      go_wp2_with fail
      refine (srank_any (by rw [negs_len, HN.out]) (by omega) HRN.out).mono ?_
      rintro _ w2 ⟨v2, rfl, hb2, own2⟩
      obtain ⟨at2, ca, rfl, _⟩ := own_any7 (by rw [nats_len, Rk.rank_len, negs_len, HN.out]) own2
      have HBw2 := hide (HBw.out.trans (hb2.mono HBw.out.size))
      have HM := hide (made_own w2 k (by omega))
      have HBm := hide ((Below.refl w2.heap.size w2).alloc (Nat.le_refl _) (.cells (madeCells #[.int .i64 0] k) 3))
      have HO2 := hide (own_below4 own2 HBm.out)
      have HL2 : Hid (∀ g, (Value.slice at2 k ca).ownBlock = some g → g < w2.heap.size) := hide fun g e => (own2.lt g e).2
      have HZ : Hid (w2.heap.size < (w2.alloc (.cells (madeCells #[.int .i64 0] k) 3)).heap.size) := hide (by simp)
      have HBw3 := hide (HBw2.out.trans (HBm.out.mono HBw2.out.size))
      have hzw := HBw2.out.size
      clear own2 hb2 HRN
      go_wp2_with fail
      generalize hW : w2.alloc (.cells (madeCells #[.int .i64 0] k) 3) = W at *
      clear hW hmk
      refine (HSG.out _ (HP.out.below HBw3.out) (HB.out.below HBw3.out)).mono ?_
      rintro _ w3 ⟨v3, rfl, hb3, own3⟩
      obtain ⟨ag, cg, rfl, hrg⟩ := own_any7 (by rw [nats_len]; exact HGL.out.trans HR.out) own3
      have HM3 := hide (owns_keep HM.out (hb3.block _ HZ.out))
      have HBw4 := hide (HBw3.out.trans (hb3.mono HBw3.out.size))
      have HRS3 : Hid (∀ w', w3.grownBy w' (some w2.heap.size) → ARow w' at2 (nats (Rk.rank (negs ws)))) := hide fun w' hg => by
        have h := (own_below4 HO2.out hb3).kept hg (by
          right
          intro e
          have := HL2.out _ e
          omega)
        obtain ⟨a', c', e, hr⟩ := own_any7 (by rw [nats_len, Rk.rank_len, negs_len, HN.out]) h
        cases e
        exact hr
      have HRG3 : Hid (∀ w', w3.grownBy w' (some w2.heap.size) → ARow w' ag (nats (Hs.goodsL ps cs))) := hide fun w' hg => by
        have h := own3.kept hg (by
          right
          intro e
          have h1 := (own3.lt w2.heap.size e).1
          have h2 := HZ.out
          omega)
        obtain ⟨a', c', e, hr⟩ := own_any7 (by rw [nats_len]; exact HGL.out.trans HR.out) h
        cases e
        exact hr
      have hz4 := HBw3.out.size
      have hz5 := hb3.size
      have hz6 := HZ.out
      clear own3 hrg hb3 HM HBm HO2 HL2
      go_wp2_with fail
      go_loopw [12, 14, 15, 37] (fun s12 _ _ s wr => ∃ (q t : Nat) (ys : List Int), s12 = .int .i64 t ∧ s = .int .i64 q ∧ q ≤ m ∧ t ≤ k ∧ Hid (t = Hs.upto cs (Hs.goodsL ps cs) q) ∧ Hid (ys = putTo (Hs.exp cs (Hs.goodsL ps cs)) (Rk.rank (negs ws)) k t) ∧ Hid (wr.ownsRow w2.heap.size 3 1 (.slice (some ⟨w2.heap.size, 0, none⟩) k k) k (ints ys)) ∧ Hid (w3.grownBy wr (some w2.heap.size))) (fun _ _ _ s _ => m - (intOf s).toNat)
      case atStart => exact ⟨0, 0, List.replicate k 0, rfl, rfl, Nat.zero_le _, Nat.zero_le _, hide rfl, hide rfl, HM3, hide (World.grownBy.refl _ _)⟩
      case round =>
        obtain ⟨q, t, ys, rfl, rfl, hq, ht, HTU, HY, HO, HG⟩ := hrel
        have HWr := hide (HBw4.out.trans (grown_below' HG.out (by omega) HBw4.out.size))
        by_cases hqm : q < m
        · have i0 : (0 : Int) ≤ (q : Int) := by omega
          have i1 : (q : Int) < (m : Int) := by omega
          have hkg : q < (Hs.goodsL ps cs).length := by rw [HGL.out, HR.out]; exact hqm
          obtain ⟨bg, og, rfl, r1⟩ := (HRG3.out _ HG.out).at (i := q) (by rw [nats_len]; exact hkg)
          rw [nats_get] at r1
          have hxm : (Hs.goodsL ps cs).getD q 0 < m := by rw [← HR.out]; exact Hs.goodsL_lt (by rw [HR.out]; exact hqm)
          have hc1 := Hs.cntB_at (Hs.slotsB_yes HC.out).1 (i := (Hs.goodsL ps cs).getD q 0) (by rw [HM_.out]; exact hxm)
          have HUS := hide (Hs.upto_succ cs (Hs.goodsL ps cs) hkg)
          have hul := Hs.upto_le cs (Hs.goodsL ps cs) (q + 1)
          rw [HUS.out, HGA.out, ← HTU.out] at hul
          have HEA := hide fun (j : Nat) (hj : j < (cs.getD ((Hs.goodsL ps cs).getD q 0) 0).toNat) => Hs.exp_at cs (Hs.goodsL ps cs) hkg hj
          rw [← HTU.out] at HEA HUS
          obtain ⟨bb, ob, rfl, r2⟩ := (HB.out.below HWr.out).at (i := (Hs.goodsL ps cs).getD q 0) (by rw [HM_.out]; exact hxm)
          generalize hxx : (Hs.goodsL ps cs).getD q 0 = x at *
          generalize hcc : cs.getD x 0 = cI at *
          obtain ⟨cn, rfl⟩ := Int.eq_ofNat_of_zero_le (show 0 ≤ cI by omega)
          rw [Int.toNat_natCast] at HUS hul HEA
          have j0 : (0 : Int) ≤ (x : Int) := by omega
          have j1 : (x : Int) < (m : Int) := by omega
          clear hxx hcc
          go_wp2_with fail
          go_loopw [12, 15] (fun s12 s15 wr => ∃ (j u r : Nat) (zs : List Int), s12 = .int .i64 (u : Int) ∧ s15 = .int .i64 (r : Int) ∧ Hid (u = t + j ∧ r + j = cn) ∧ Hid (zs = putTo (Hs.exp cs (Hs.goodsL ps cs)) (Rk.rank (negs ws)) k u) ∧ Hid (wr.ownsRow w2.heap.size 3 1 (.slice (some ⟨w2.heap.size, 0, none⟩) k k) k (ints zs)) ∧ Hid (w3.grownBy wr (some w2.heap.size))) (fun _ s _ => (intOf s).toNat)
          case atStart => exact ⟨0, t, cn, ys, rfl, rfl, hide ⟨rfl, rfl⟩, HY, HO, HG⟩
          case round =>
            obtain ⟨j, u, r, zs, rfl, rfl, HJ, HZ2, HOI, HGI⟩ := hrel
            obtain ⟨hu, hr⟩ := HJ.out
            clear r1 r2
            by_cases hjc : 0 < r
            · have p0 : (0 : Int) < (r : Int) := by omega
              have p1 : (0 : Int) ≤ (u : Int) := by omega
              have p2 : (u : Int) < (k : Int) := by omega
              obtain ⟨bs, os, rfl, r3⟩ := (HRS3.out _ HGI.out).at (i := u) (by rw [nats_len, Rk.rank_len, negs_len, HN.out]; omega)
              rw [nats_get] at r3
              have hp : (Rk.rank (negs ws)).getD u 0 < k := by have := rk_nth_lt (vs := negs ws) (k := u) (by rw [negs_len, HN.out]; omega); rwa [negs_len, HN.out] at this
              have HST0 : Hid (zs.set ((Rk.rank (negs ws)).getD u 0) (x : Int) = putTo (Hs.exp cs (Hs.goodsL ps cs)) (Rk.rank (negs ws)) k (u + 1)) := hide (by
                rw [HZ2.out]
                show _ = List.set _ _ _
                rw [show (Hs.exp cs (Hs.goodsL ps cs)).getD u 0 = x by rw [hu]; exact HEA.out j (by omega)])
              generalize (Rk.rank (negs ws)).getD u 0 = y at *
              have y0 : (0 : Int) ≤ (y : Int) := by omega
              have y1 : (y : Int) < (k : Int) := by omega
              have hzl : zs.length = k := by rw [HZ2.out, putTo_len]
              have c0 : wr.cell? ⟨w2.heap.size, y, none⟩ = some (.int .i64 (zs.getD y 0)) := by rw [HOI.out.cellAt y (by omega), ints_get zs y (by omega)]
              have f0 := HOI.out.frozenAt y
              obtain ⟨st1, st2⟩ := HOI.out.stored y (.int .i64 (x : Int))
              rw [ints_set] at st1
              have HST := hide st1
              have HG4 := hide (grow_set17 HGI.out st2 rfl)
              have HJ2 : Hid (u + 1 = t + (j + 1) ∧ (r - 1) + (j + 1) = cn) := hide ⟨by omega, by omega⟩
              have es : wrap64 ((r : Int) - 1) = ((r - 1 : Nat) : Int) := by rw [wrap_id _ (by omega) (by omega)]; omega
              clear st1 st2 hu hr HJ
              go_wp2_with fail
              go_roundw
              case rel => exact ⟨j + 1, u + 1, r - 1, zs.set y (x : Int), by go_num, by first | rfl | go_num | (congr 1; omega), HJ2, HST0, HST, HG4⟩
              case measure => simp only [intOf]; omega
            · have hr0 : r = 0 := by omega
              subst hr0
              have hjc2 : j = cn := by omega
              subst hjc2
              subst hu
              go_wp2_with fail
              go_roundw
              case rel => exact ⟨q + 1, t + j, zs, rfl, by go_num, by omega, by omega, hide HUS.out.symm, HZ2, HOI, HGI⟩
              case measure => simp only [intOf]; omega
        · have hke : q = m := by omega
          subst hke
          have htn : t = k := by rw [HTU.out, ← HGA.out, ← Hs.upto_all, HGL.out, HR.out]
          have hys : ys = Hs.ownL ps cs ws := by rw [HY.out, Hs.ownL, HN.out, htn]; rfl
          have ho := HO.out
          rw [hys] at ho
          obtain ⟨O5, _⟩ := Ow.mk' ho
          have HO5 := hide O5
          clear O5 ho hys
          go_wp2_with fail
          go_ret
          exact ⟨_, rfl, HWr.out, by omega, HO5.out⟩
end Go.Proofs.YtlbagigghpiifaaGreat
namespace Go.Proofs.YtlbagigghpiifaaGreat
open Go.RowKit Go.Sort

end Go.Proofs.YtlbagigghpiifaaGreat
namespace Go.Proofs.YtlbagigghpiifaaGreat
open Go.RowKit

/-- A house of one's own: three lists that share nothing. -/
structure HV (base : Nat) (ws cs os : List Int) (v0 v1 v2 : Value) (W : World) : Prop where
  o0 : W.ownsRow base 3 1 v0 ws.length (ints ws)
  o1 : W.ownsRow base 3 1 v1 cs.length (ints cs)
  o2 : W.ownsRow base 3 1 v2 os.length (ints os)
  d01 : ∀ g, v0.ownBlock = some g → v1.ownBlock ≠ some g
  d02 : ∀ g, v0.ownBlock = some g → v2.ownBlock ≠ some g
  d12 : ∀ g, v1.ownBlock = some g → v2.ownBlock ≠ some g
theorem HV.low {base base' : Nat} {ws cs os : List Int} {v0 v1 v2 : Value} {W : World} (h : HV base ws cs os v0 v1 v2 W) (hb : base' ≤ base) : HV base' ws cs os v0 v1 v2 W :=
  ⟨owns_low h.o0 hb, owns_low h.o1 hb, owns_low h.o2 hb, h.d01, h.d02, h.d12⟩
theorem HV.below {base : Nat} {ws cs os : List Int} {v0 v1 v2 : Value} {W W' : World} (h : HV base ws cs os v0 v1 v2 W) (hb : Below W.heap.size W W') : HV base ws cs os v0 v1 v2 W' :=
  ⟨own_below h.o0 hb, own_below h.o1 hb, own_below h.o2 hb, h.d01, h.d02, h.d12⟩
theorem HV.set {base B i : Nat} {ws cs os : List Int} {v0 v1 v2 u : Value} {W : World} (h : HV base ws cs os v0 v1 v2 W) (hB : B < base) : HV base ws cs os v0 v1 v2 (W.setCell ⟨B, i, none⟩ u) :=
  ⟨ownsRow_setCell_below h.o0 (a := ⟨B, i, none⟩) hB u, ownsRow_setCell_below h.o1 (a := ⟨B, i, none⟩) hB u, ownsRow_setCell_below h.o2 (a := ⟨B, i, none⟩) hB u, h.d01, h.d02, h.d12⟩
theorem HV.nil3 (base : Nat) (W : World) : HV base [] [] [] (.slice none 0 0) (.slice none 0 0) (.slice none 0 0) W :=
  ⟨World.ownsRow_nil _ _ _ _, World.ownsRow_nil _ _ _ _, World.ownsRow_nil _ _ _ _, (fun g e => by cases e), (fun g e => by cases e), (fun g e => by cases e)⟩
/-- What lies as HouseFor begins: the sheet, the answer's variable. -/
structure HC (w : World) (W : World) : Prop where
  r : HBox W (w.heap.size + 1) (.slice none 0 0) (.slice none 0 0) (.slice none 0 0)
  f : ∀ i, W.frozen? ⟨w.heap.size + 1, i, none⟩ = false
  b : Below w.heap.size w W
theorem HC.below {w W W' : World} (h : HC w W) (hb : Below W.heap.size W W') : HC w W' :=
  ⟨h.r.below hb, fun i => (hb.frozen (p := ⟨w.heap.size + 1, i, none⟩) h.r.2.2.2).trans (h.f i), h.b.trans (hb.mono h.b.size)⟩
theorem HC.new (w : World) (o : Obj) (t : TypeId) : HC w ((w.alloc o).alloc (.cells #[.slice none 0 0, .slice none 0 0, .slice none 0 0] t)) := by
  have b0 := below_new w o
  have b1 := below_new (w.alloc o) (.cells #[.slice none 0 0, .slice none 0 0, .slice none 0 0] t)
  have h := HBox.new (w.alloc o) (.slice none 0 0) (.slice none 0 0) (.slice none 0 0) t
  rw [World.size_alloc] at h
  have hz : (w.alloc o).heap.size = w.heap.size + 1 := by simp
  refine ⟨h, fun i => ?_, b0.trans (b1.mono (by simp))⟩
  rw [← hz]; simp [go_sem]
theorem HC.res {w W : World} (h : HC w W) (u v x : Value) : Below w.heap.size w (((W.setCell ⟨w.heap.size + 1, 0, none⟩ u).setCell ⟨w.heap.size + 1, 1, none⟩ v).setCell ⟨w.heap.size + 1, 2, none⟩ x) :=
  ((h.b.setCell (p := ⟨w.heap.size + 1, 0, none⟩) (by show w.heap.size ≤ w.heap.size + 1; omega) u).setCell (p := ⟨w.heap.size + 1, 1, none⟩) (by show w.heap.size ≤ w.heap.size + 1; omega) v).setCell (p := ⟨w.heap.size + 1, 2, none⟩) (by show w.heap.size ≤ w.heap.size + 1; omega) x
theorem clone17 {a : Option Addr} {n c : Nat} {xs : List Int} {w : World} (hx : xs.length = n) (h0 : 1 ≤ n) (hn : n ≤ 1000) (ha : ARow w a xs) :
    Calls Tryz.prog 27 #[.slice a n c] w fun e w' => ∃ v, e = .returned v ∧ Below w.heap.size w w' ∧ w'.ownsRow w.heap.size 3 1 v n (ints xs) := by
  obtain ⟨b, o, rfl, hb, ha⟩ := ha.resolve_left (fun e => by rw [e] at hx; simp at hx; omega)
  refine (Tryz.slices_Clone_int b o n c xs w (by rw [hx]; exact Nat.le_refl _) (by omega) ha).mono ?_
  rintro e w3 ⟨v, rfl, own3, _, hb3⟩
  rw [show (xs.take n).map (Value.int .i64) = ints xs by rw [← hx, List.take_length]; rfl] at own3
  exact ⟨v, rfl, hb3, own3⟩
end Go.Proofs.YtlbagigghpiifaaGreat
namespace Go.Proofs.YtlbagigghpiifaaGreat
open Go.RowKit

theorem own_up17 {w : World} {base base' g n c : Nat} {xs : List Value} (h : w.ownsRow base 3 1 (.slice (some ⟨g, 0, none⟩) n c) n xs) (hb : base' ≤ g) : w.ownsRow base' 3 1 (.slice (some ⟨g, 0, none⟩) n c) n xs := by
  obtain ⟨h0, ⟨h1, _⟩ | ⟨g', c', cur, e, _, h2⟩⟩ := h
  · cases h1
  · cases e
    exact ⟨h0, Or.inr ⟨_, _, cur, rfl, hb, h2⟩⟩
theorem Ow.own17 {w : World} {base g n : Nat} {xs : List Int} (h : Ow w g n xs) (hb : base ≤ g) : w.ownsRow base 3 1 (.slice (some ⟨g, 0, none⟩) n n) n (ints xs) := by
  obtain ⟨_, b, _, h⟩ := h
  exact own_up17 h hb
theorem own_lt17 {w : World} {base n g : Nat} {v : Value} {xs : List Value} (h : w.ownsRow base 3 1 v n xs) (hg : v.ownBlock = some g) : base ≤ g := by
  obtain ⟨_, ⟨rfl, _⟩ | ⟨g', c', cur, rfl, h1, _⟩⟩ := h
  · cases hg
  · cases hg; exact h1
set_option maxHeartbeats 4000000 in
theorem hf_no {n' n'' r : Nat} {ok : Bool} {gs : List Gd} {ls : List (Int × Int)} {R1 R2 : List Int} {a : Option Addr} {n c X Y : Nat} {ws : List Int} {w : World} (HSP : Hid (SpAns 24 n' n'' r ok gs ls R1 R2)) (HOK : Hid (ok = false → R1 = [])) (HSH : Hid (Short gs)) (HT : Hid (TS w X Y n' n'' gs ls)) (HR : Hid (R1.length = r))
    (HN : Hid (ws.length = n)) (HA : Hid (ARow w a ws)) (HG : Hid (Hs.hfB ok R1 ws = false)) :
    Calls Tryz.prog 8 #[.agg #[.slice (some ⟨X, 0, none⟩) n' n', .slice (some ⟨Y, 0, none⟩) n'' n''], .slice a n c] w fun e w' => e = .returned (.tuple #[.agg #[.slice none 0 0, .slice none 0 0, .slice none 0 0], .bool false]) ∧ Below w.heap.size w w' := by
  have HD := hide (HC.new w (.cells #[.slice (some ⟨X, 0, none⟩) n' n', .slice (some ⟨Y, 0, none⟩) n'' n''] 35) 29)
  have HDAY := hide fun (C : List Int) (hC : C = if Sh.kindsB R1 (ws.length : Int) = true then Hs.hfC R1 ws else []) => Hs.day_hf HOK.out hC HG.out
  rw [HN.out] at HDAY
  clear HG
  cases hk : Sh.kindsB R1 (n : Int)
  · have HK := hide hk
    have HDY := hide (HDAY.out [] (by rw [hk]; rfl))
    clear hk HDAY
    go_enter Tryz.func8, Tryz.ntmps8
    go_wp2_with fail
    generalize ((w.alloc (.cells #[.slice (some ⟨X, 0, none⟩) n' n', .slice (some ⟨Y, 0, none⟩) n'' n''] 35)).alloc (.cells #[.slice none 0 0, .slice none 0 0, .slice none 0 0] 29)) = W0 at *
    refine (HSP.out _ _ _ HSH.out (HT.out.below HD.out.b)).mono ?_
    rintro _ w1 ⟨vv1, vv2, rfl, hb1, o1, o2, _⟩
    obtain ⟨a1, c1, rfl⟩ := own_sh o1
    obtain ⟨a2, c2, rfl⟩ := own_sh o2
    have bn := below_new w1 (.cells #[.slice a1 r c1, .slice a2 r c2] 55)
    obtain ⟨a1', c1', e1, hr1⟩ := own_any7 HR.out (own_below o1 bn)
    cases e1
    have HR1 := hide hr1
    have PB := hide (PBox.new w1 (.slice a1 r c1) (.slice a2 r c2) 55)
    have HD1 := hide ((HD.out.below hb1).below bn)
    obtain ⟨p0, p1, _⟩ := PB.out
    clear hb1 o1 o2 bn hr1
    go_wp2_with fail
    generalize w1.alloc (.cells #[.slice a1 r c1, .slice a2 r c2] 55) = W1 at *
    refine (so_no HR1 HR HK).mono ?_
    rintro _ w2 ⟨rfl, hb2⟩
    have HD2 := hide (HD1.out.below hb2)
    have HR2 := hide (HR1.out.below hb2)
    obtain ⟨p0, p1, _⟩ := PB.out.below hb2
    clear hb2
    go_wp2_with fail
    refine (sf_no HR (hide rfl) HN HR2 (hide (Or.inl rfl)) (hide (HA.out.below HD2.out.b)) HDY).mono ?_
    rintro _ w3 ⟨rfl, hb3⟩
    have HD3 := HD2.out.below hb3
    have x0 := HD3.r.1
    have x1 := HD3.r.2.1
    have x2 := HD3.r.2.2.1
    have g0 := HD3.f 0
    have g1 := HD3.f 1
    have g2 := HD3.f 2
    clear hb3 p0 p1
    go_wp2_with fail
    exact bodyPost_ret (v := .tuple #[.agg #[.slice none 0 0, .slice none 0 0, .slice none 0 0], .bool false]) (by simp [results, Tryz.results8, go_sem, x0, x1, x2]) rfl ⟨rfl, HD3.res _ _ _⟩
  · have HK := hide hk
    have HDY := hide (HDAY.out (shareL R1 (n : Int)) (by rw [hk, if_pos rfl, Hs.hfC, HN.out]))
    have hsl : Hid ((shareL R1 (n : Int)).length = r) := hide ((shareL_len _ _).trans HR.out)
    clear hk HDAY
    go_enter Tryz.func8, Tryz.ntmps8
    go_wp2_with fail
    generalize ((w.alloc (.cells #[.slice (some ⟨X, 0, none⟩) n' n', .slice (some ⟨Y, 0, none⟩) n'' n''] 35)).alloc (.cells #[.slice none 0 0, .slice none 0 0, .slice none 0 0] 29)) = W0 at *
    refine (HSP.out _ _ _ HSH.out (HT.out.below HD.out.b)).mono ?_
    rintro _ w1 ⟨vv1, vv2, rfl, hb1, o1, o2, _⟩
    obtain ⟨a1, c1, rfl⟩ := own_sh o1
    obtain ⟨a2, c2, rfl⟩ := own_sh o2
    have bn := below_new w1 (.cells #[.slice a1 r c1, .slice a2 r c2] 55)
    obtain ⟨a1', c1', e1, hr1⟩ := own_any7 HR.out (own_below o1 bn)
    cases e1
    have HR1 := hide hr1
    have PB := hide (PBox.new w1 (.slice a1 r c1) (.slice a2 r c2) 55)
    have HD1 := hide ((HD.out.below hb1).below bn)
    obtain ⟨p0, p1, _⟩ := PB.out
    clear hb1 o1 o2 bn hr1
    go_wp2_with fail
    generalize w1.alloc (.cells #[.slice a1 r c1, .slice a2 r c2] 55) = W1 at *
    refine (so_yes HR1 HR HK).mono ?_
    rintro _ w2 ⟨gq, rfl, hb2, oc⟩
    obtain ⟨aq, cq, e2, hr2⟩ := own_any7 hsl.out oc
    cases e2
    have HC2 := hide hr2
    have HD2 := hide (HD1.out.below hb2)
    have HR2 := hide (HR1.out.below hb2)
    obtain ⟨p0, p1, _⟩ := PB.out.below hb2
    clear hb2 oc hr2
    go_wp2_with fail
    refine (sf_no HR hsl HN HR2 HC2 (hide (HA.out.below HD2.out.b)) HDY).mono ?_
    rintro _ w3 ⟨rfl, hb3⟩
    have HD3 := HD2.out.below hb3
    have x0 := HD3.r.1
    have x1 := HD3.r.2.1
    have x2 := HD3.r.2.2.1
    have g0 := HD3.f 0
    have g1 := HD3.f 1
    have g2 := HD3.f 2
    clear hb3 p0 p1
    go_wp2_with fail
    exact bodyPost_ret (v := .tuple #[.agg #[.slice none 0 0, .slice none 0 0, .slice none 0 0], .bool false]) (by simp [results, Tryz.results8, go_sem, x0, x1, x2]) rfl ⟨rfl, HD3.res _ _ _⟩
/-- What HouseFor answers where it answers. -/
def HAns (w : World) (ws cs os : List Int) (e : Ending) (w' : World) : Prop :=
  ∃ v0 v1 v2, e = .returned (.tuple #[.agg #[v0, v1, v2], .bool true]) ∧ Below w.heap.size w w' ∧ HV w.heap.size ws cs os v0 v1 v2 w'
set_option maxHeartbeats 4000000 in
theorem hf_yes17 {n' n'' r : Nat} {ok : Bool} {gs : List Gd} {ls : List (Int × Int)} {R1 R2 : List Int} {a : Option Addr} {n c X Y : Nat} {ws : List Int} {w : World} (HSP : Hid (SpAns 24 n' n'' r ok gs ls R1 R2)) (HSH : Hid (Short gs)) (HT : Hid (TS w X Y n' n'' gs ls)) (HR : Hid (R1.length = r))
    (HN : Hid (ws.length = n)) (HA : Hid (ARow w a ws)) (HG : Hid (Hs.hfB ok R1 ws = true)) :
    Calls Tryz.prog 8 #[.agg #[.slice (some ⟨X, 0, none⟩) n' n', .slice (some ⟨Y, 0, none⟩) n'' n''], .slice a n c] w fun e w' => HAns w ws (Hs.hfC R1 ws) (Hs.ownL R1 (Hs.hfC R1 ws) ws) e w' := by
  have HD := hide (HC.new w (.cells #[.slice (some ⟨X, 0, none⟩) n' n', .slice (some ⟨Y, 0, none⟩) n'' n''] 35) 29)
  have HDY := hide (Hs.hf_day HG.out)
  have hk := Hs.hf_kinds HG.out
  obtain ⟨_, hfl, hle, hle10, _⟩ := Hs.hf_yes HG.out
  obtain ⟨f1, f2, _⟩ := Sh.flowB_yes hfl
  have hn1 : 1 ≤ n := by have := HN.out; omega
  have hn10 : n ≤ 1000 := by have := HN.out; omega
  rw [HN.out] at hk
  have HK := hide hk
  have HCL := hide fun (W : World) (h : ARow W a ws) => clone17 (c := c) HN.out hn1 hn10 h
  have HCE := hide (show Hs.hfC R1 ws = shareL R1 (n : Int) by rw [Hs.hfC, HN.out])
  have hsl : Hid ((Hs.hfC R1 ws).length = r) := hide ((Hs.hfC_len _ _).trans HR.out)
  have hol : Hid ((Hs.ownL R1 (Hs.hfC R1 ws) ws).length = n) := hide ((Hs.ownL_len _ _ _).trans HN.out)
  obtain ⟨C, hC⟩ : ∃ C, C = Hs.hfC R1 ws := ⟨_, rfl⟩
  rw [← hC] at HDY HCE hsl hol ⊢
  obtain ⟨O, hO⟩ : ∃ O, O = Hs.ownL R1 C ws := ⟨_, rfl⟩
  rw [← hO] at hol ⊢
  have HSF := hide fun (W : World) (p b : Option Addr) (d f : Nat) (h1 : ARow W p R1) (h2 : ARow W b C) (h3 : ARow W a ws) => sf_yes (c := c) (d := d) (f := f) HR hsl HN (hide h1) (hide h2) (hide h3) HDY
  rw [← hO] at HSF
  clear hk hfl hle hle10 f1 f2 hC hO HG HDY
  go_enter Tryz.func8, Tryz.ntmps8
  go_wp2_with fail
  generalize ((w.alloc (.cells #[.slice (some ⟨X, 0, none⟩) n' n', .slice (some ⟨Y, 0, none⟩) n'' n''] 35)).alloc (.cells #[.slice none 0 0, .slice none 0 0, .slice none 0 0] 29)) = W0 at *
  refine (HSP.out _ _ _ HSH.out (HT.out.below HD.out.b)).mono ?_
  rintro _ w1 ⟨vv1, vv2, rfl, hb1, o1, o2, _⟩
  obtain ⟨a1, c1, rfl⟩ := own_sh o1
  obtain ⟨a2, c2, rfl⟩ := own_sh o2
  have bn := below_new w1 (.cells #[.slice a1 r c1, .slice a2 r c2] 55)
  obtain ⟨a1', c1', e1, hr1⟩ := own_any7 HR.out (own_below o1 bn)
  cases e1
  have HR1 := hide hr1
  have PB := hide (PBox.new w1 (.slice a1 r c1) (.slice a2 r c2) 55)
  have HD1 := hide ((HD.out.below hb1).below bn)
  obtain ⟨p0, p1, _⟩ := PB.out
  clear hb1 o1 o2 bn hr1
  go_wp2_with fail
  generalize w1.alloc (.cells #[.slice a1 r c1, .slice a2 r c2] 55) = W1 at *
  refine (so_yes HR1 HR HK).mono ?_
  rintro _ w2 ⟨gq, rfl, hb2, oc⟩
  rw [← HCE.out] at oc
  obtain ⟨aq, cq, e2, hr2⟩ := own_any7 hsl.out oc
  cases e2
  have HC2 := hide hr2
  have HD2 := hide (HD1.out.below hb2)
  have HR2 := hide (HR1.out.below hb2)
  have HO2 := hide (owns_low (base' := w.heap.size + 2) oc (Nat.succ_le_of_lt HD1.out.r.2.2.2))
  have hq : Hid (gq < w2.heap.size) := hide (own_hi oc rfl)
  obtain ⟨p0, p1, _⟩ := PB.out.below hb2
  clear hb2 oc hr2
  go_wp2_with fail
  refine (HSF.out _ _ _ _ _ HR2.out HC2.out (HA.out.below HD2.out.b)).mono ?_
  rintro _ w3 ⟨go, rfl, hb3, hgo, oo⟩
  have HD3 := hide (HD2.out.below hb3)
  have HO3 := hide (own_below HO2.out hb3)
  have HW3 := hide (oo.own17 (base := w.heap.size + 2) (Nat.le_trans (Nat.succ_le_of_lt HD2.out.r.2.2.2) hgo))
  have ho : Hid (go < w3.heap.size) := hide oo.1
  have hne : Hid (gq ≠ go) := hide (by have := hq.out; omega)
  clear hb3 oo hgo p0 p1
  go_wp2_with fail
  refine (HCL.out _ (HA.out.below HD3.out.b)).mono ?_
  rintro _ w4 ⟨v0, rfl, hb4, oz⟩
  have HD4 := HD3.out.below hb4
  obtain ⟨a4, c4, rfl⟩ := own_sh oz
  have HV4 : Hid (HV (w.heap.size + 2) ws C O (.slice a4 n c4) (.slice (some ⟨gq, 0, none⟩) r r) (.slice (some ⟨go, 0, none⟩) n n) w4) := hide (by
    have h1 := hq.out
    have h2 := HD3.out.b.size
    refine ⟨?_, ?_, ?_, ?_, ?_, ?_⟩
    · rw [HN.out]; exact owns_low oz (Nat.succ_le_of_lt HD3.out.r.2.2.2)
    · rw [hsl.out]; exact own_below HO3.out hb4
    · rw [hol.out]; exact own_below HW3.out hb4
    · intro g hg e; cases e; have : w3.heap.size ≤ gq := own_lt17 oz hg; have : gq < w3.heap.size := own_hi HO3.out rfl; omega
    · intro g hg e; cases e; have : w3.heap.size ≤ go := own_lt17 oz hg; have := ho.out; omega
    · intro g hg e; cases hg; cases e; exact hne.out rfl)
  have x0 := HD4.r.1
  have x1 := HD4.r.2.1
  have x2 := HD4.r.2.2.1
  have g0 := HD4.f 0
  have g1 := HD4.f 1
  have g2 := HD4.f 2
  clear hb4 oz
  go_wp2_with fail
  refine bodyPost_ret (v := .tuple #[.agg #[.slice a4 n c4, .slice (some ⟨gq, 0, none⟩) r r, .slice (some ⟨go, 0, none⟩) n n], .bool true]) (by simp [results, Tryz.results8, go_sem, x0, x1, x2]) rfl ⟨_, _, _, rfl, HD4.res _ _ _, ?_⟩
  exact (((HV4.out.set (Nat.lt_succ_self _)).set (Nat.lt_succ_self _)).set (Nat.lt_succ_self _)).low (Nat.le_add_right _ _)
end Go.Proofs.YtlbagigghpiifaaGreat
namespace Go.Proofs.YtlbagigghpiifaaGreat
open Go.RowKit

theorem all17x {a : Option Addr} {n c : Nat} {xs : List Int} {lo hi : Int} {w : World} {r : Bool} (h : Hid (ARow w a xs)) (hn : Hid (xs.length = n)) (hl : n ≤ 4000000000000) (hr : Hid (Pf.allB xs lo hi = r)) :
    Calls Tryz.prog 19 #[.slice a n c, .int .i64 lo, .int .i64 hi] w fun e w' => e = .returned (.bool r) ∧ w' = w := by
  have := hn.out
  subst this
  exact all_eq h.out (by omega) hr.out
theorem none_row17 (w : World) : (w.alloc (.cells #[] 3)).ownsRow w.heap.size 3 1 (.slice (some ⟨w.heap.size, 0, none⟩) 0 0) 0 [] := by
  have h := World.ownsRow_lit (base := w.heap.size) (e := 3) (size := 1) w #[] 0 (Nat.le_refl _) (by unfold maxLen; omega) (by simp)
  simpa using h
/-- A list of ints behind an empty one. -/
theorem cl_run17 {w : World} {a : Option Addr} {n c : Nat} {xs : List Int} (hx : xs.length = n) (hn : n ≤ 1000) (ha : ARow w a xs) :
    ∃ a' c' w', (∀ ty, (Builtin.append_ #[26, 26] ty #[.slice (some ⟨w.heap.size, 0, none⟩) 0 0, .slice a n c]).run Tryz.prog (w.alloc (.cells #[] 3)) = .ok (.slice a' n c') w') ∧ w'.ownsRow w.heap.size 3 1 (.slice a' n c') n (ints xs) ∧ Below w.heap.size w w' := by
  obtain ⟨i0', hi', hz0, hz1, hz2⟩ := infoI
  obtain ⟨v', w', h1, h2, h3⟩ := run_append_v (P := Tryz.prog) (w.alloc (.cells #[] 3)) w.heap.size 26 0 3 i0' _ 8 Tryz.underlying26 hi' hz0 hz1 hz2 rfl _ 0 _ (none_row17 w) a n c (ints xs) (by rw [ints_len, hx]) (ha.alloc _).vrow (fun u hu => by simp only [ints, List.mem_map] at hu; obtain ⟨_, _, rfl⟩ := hu; rfl) (by unfold maxLen; omega) (by omega) (by simp)
  rw [Nat.zero_add] at h2
  obtain ⟨a', c', rfl⟩ := own_form h2
  exact ⟨a', c', w', fun _ => h1, h2, ((Below.refl _ _).alloc (Nat.le_refl _) (.cells #[] 3)).trans ⟨h3.os, h3.tape, h3.output, h3.size, fun b hb => h3.block b (by simp; omega) (by simp [Value.ownBlock]; omega)⟩⟩
set_option maxHeartbeats 4000000 in
theorem shf_no {n' n'' r : Nat} {ok : Bool} {gs : List Gd} {ls : List (Int × Int)} {R1 R2 : List Int} {a : Option Addr} {n c X Y : Nat} {ws : List Int} {w : World} (HSP : Hid (SpAns 34 n' n'' r ok gs ls R1 R2)) (HSH : Hid (Short gs)) (HT : Hid (TS w X Y n' n'' gs ls)) (HR : Hid (R1.length = r))
    (HN : Hid (ws.length = n)) (hn : n ≤ 1048576) (HA : Hid (ARow w a ws)) (HG : Hid (Hs.hfB ok R1 ws = false)) :
    Calls Tryz.prog 5 #[.agg #[.slice (some ⟨X, 0, none⟩) n' n', .slice (some ⟨Y, 0, none⟩) n'' n''], .slice a n c] w fun e w' => e = .returned (.tuple #[.agg #[.slice none 0 0, .slice none 0 0, .slice none 0 0], .bool false]) ∧ Below w.heap.size w w' := by
  have HD := hide (HC.new w (.cells #[.slice (some ⟨X, 0, none⟩) n' n', .slice (some ⟨Y, 0, none⟩) n'' n''] 35) 29)
  have HEND : Hid (∀ W, HC w W → W.cell? ⟨w.heap.size + 1, 0, none⟩ = some (.slice none 0 0) ∧ W.cell? ⟨w.heap.size + 1, 1, none⟩ = some (.slice none 0 0) ∧ W.cell? ⟨w.heap.size + 1, 2, none⟩ = some (.slice none 0 0) ∧ W.frozen? ⟨w.heap.size + 1, 0, none⟩ = false ∧ W.frozen? ⟨w.heap.size + 1, 1, none⟩ = false ∧ W.frozen? ⟨w.heap.size + 1, 2, none⟩ = false) := hide fun W h => ⟨h.r.1, h.r.2.1, h.r.2.2.1, h.f 0, h.f 1, h.f 2⟩
  cases hp : (ok && Sh.flowB R1)
  · have HP := hide hp
    clear hp HG
    go_enter Tryz.func5, Tryz.ntmps5
    go_wp2_with fail
    generalize ((w.alloc (.cells #[.slice (some ⟨X, 0, none⟩) n' n', .slice (some ⟨Y, 0, none⟩) n'' n''] 35)).alloc (.cells #[.slice none 0 0, .slice none 0 0, .slice none 0 0] 29)) = W0 at *
    refine (lp_no HSP HSH (hide (HT.out.below HD.out.b)) HR HP).mono ?_
    rintro _ w1 ⟨rfl, hb1⟩
    have HD1 := HD.out.below hb1
    obtain ⟨x0, x1, x2, g0, g1, g2⟩ := HEND.out _ HD1
    clear hb1
    go_wp2_with fail
    exact bodyPost_ret (v := .tuple #[.agg #[.slice none 0 0, .slice none 0 0, .slice none 0 0], .bool false]) (by simp [results, Tryz.results5, go_sem, x0, x1, x2]) rfl ⟨rfl, HD1.res _ _ _⟩
  · have hpp := hp
    rw [Bool.and_eq_true] at hpp
    obtain ⟨rfl, hf⟩ := hpp
    have HF := hide hf
    have HAL := hide fun (W : World) (q : Bool) (h : ARow W a ws) (hq : Pf.allB ws 0 1000 = q) => all17x (c := c) (hide h) HN (by omega) (hide hq)
    have hG := HG.out
    unfold Hs.hfB at hG
    rw [hp, Bool.true_and, HN.out, HR.out] at hG
    clear hp hf HG
    by_cases h1 : n < r
    · have i1 : (n : Int) < (r : Int) := by omega
      clear hG
      go_enter Tryz.func5, Tryz.ntmps5
      go_wp2_with fail
      generalize ((w.alloc (.cells #[.slice (some ⟨X, 0, none⟩) n' n', .slice (some ⟨Y, 0, none⟩) n'' n''] 35)).alloc (.cells #[.slice none 0 0, .slice none 0 0, .slice none 0 0] 29)) = W0 at *
      refine (lp_yes HSP HSH (hide (HT.out.below HD.out.b)) HR HF).mono ?_
      rintro _ w1 ⟨p, f, rfl, hb1, _⟩
      have HD1 := HD.out.below hb1
      obtain ⟨x0, x1, x2, g0, g1, g2⟩ := HEND.out _ HD1
      clear hb1
      go_wp2_with fail
      exact bodyPost_ret (v := .tuple #[.agg #[.slice none 0 0, .slice none 0 0, .slice none 0 0], .bool false]) (by simp [results, Tryz.results5, go_sem, x0, x1, x2]) rfl ⟨rfl, HD1.res _ _ _⟩
    · have i1 : ¬ (n : Int) < (r : Int) := by omega
      by_cases h2 : n ≤ 10
      · have i2 : ¬ (10 : Int) < (n : Int) := by omega
        have HQ : Hid (Pf.allB ws 0 1000 = false) := hide (by
          rw [decide_eq_true (by omega : r ≤ n), decide_eq_true h2, Bool.true_and, Bool.true_and] at hG
          exact hG)
        clear hG
        go_enter Tryz.func5, Tryz.ntmps5
        go_wp2_with fail
        generalize ((w.alloc (.cells #[.slice (some ⟨X, 0, none⟩) n' n', .slice (some ⟨Y, 0, none⟩) n'' n''] 35)).alloc (.cells #[.slice none 0 0, .slice none 0 0, .slice none 0 0] 29)) = W0 at *
        refine (lp_yes HSP HSH (hide (HT.out.below HD.out.b)) HR HF).mono ?_
        rintro _ w1 ⟨p, f, rfl, hb1, _⟩
        have HD1 := HD.out.below hb1
        obtain ⟨x0, x1, x2, g0, g1, g2⟩ := HEND.out _ HD1
        have HA1 := hide (HA.out.below HD1.b)
        clear hb1
        go_wp2_with (go_at_call 19; refine (HAL.out _ _ HA1.out HQ.out).mono ?_; rintro _ _ ⟨rfl, rfl⟩)
        exact bodyPost_ret (v := .tuple #[.agg #[.slice none 0 0, .slice none 0 0, .slice none 0 0], .bool false]) (by simp [results, Tryz.results5, go_sem, x0, x1, x2]) rfl ⟨rfl, HD1.res _ _ _⟩
      · have i2 : (10 : Int) < (n : Int) := by omega
        clear hG
        go_enter Tryz.func5, Tryz.ntmps5
        go_wp2_with fail
        generalize ((w.alloc (.cells #[.slice (some ⟨X, 0, none⟩) n' n', .slice (some ⟨Y, 0, none⟩) n'' n''] 35)).alloc (.cells #[.slice none 0 0, .slice none 0 0, .slice none 0 0] 29)) = W0 at *
        refine (lp_yes HSP HSH (hide (HT.out.below HD.out.b)) HR HF).mono ?_
        rintro _ w1 ⟨p, f, rfl, hb1, _⟩
        have HD1 := HD.out.below hb1
        obtain ⟨x0, x1, x2, g0, g1, g2⟩ := HEND.out _ HD1
        clear hb1
        go_wp2_with fail
        exact bodyPost_ret (v := .tuple #[.agg #[.slice none 0 0, .slice none 0 0, .slice none 0 0], .bool false]) (by simp [results, Tryz.results5, go_sem, x0, x1, x2]) rfl ⟨rfl, HD1.res _ _ _⟩
set_option maxHeartbeats 4000000 in
theorem shf_yes {n' n'' r : Nat} {ok : Bool} {gs : List Gd} {ls : List (Int × Int)} {R1 R2 : List Int} {a : Option Addr} {n c X Y : Nat} {ws : List Int} {w : World} (HSP : Hid (SpAns 34 n' n'' r ok gs ls R1 R2)) (HSH : Hid (Short gs)) (HT : Hid (TS w X Y n' n'' gs ls)) (HR : Hid (R1.length = r))
    (HN : Hid (ws.length = n)) (HA : Hid (ARow w a ws)) (HG : Hid (Hs.hfB ok R1 ws = true)) :
    Calls Tryz.prog 5 #[.agg #[.slice (some ⟨X, 0, none⟩) n' n', .slice (some ⟨Y, 0, none⟩) n'' n''], .slice a n c] w fun e w' => HAns w ws (Hs.hfC R1 ws) (Hs.ownL R1 (Hs.hfC R1 ws) ws) e w' := by
  have HD := hide (HC.new w (.cells #[.slice (some ⟨X, 0, none⟩) n' n', .slice (some ⟨Y, 0, none⟩) n'' n''] 35) 29)
  have HDY := Hs.hf_day HG.out
  obtain ⟨_, _, hsb⟩ := Hs.day_yes HDY
  have HSB := hide hsb
  have hk := Hs.hf_kinds HG.out
  obtain ⟨hok, hfl, hle, hle10, hall⟩ := Hs.hf_yes HG.out
  subst hok
  have HF := hide hfl
  obtain ⟨f1, f2, _⟩ := Sh.flowB_yes hfl
  rw [HN.out] at hk hle hle10
  rw [HR.out] at f1 f2 hle
  have HK := hide hk
  obtain ⟨K, hK⟩ : ∃ K : Nat, (K : Int) = (n : Int) - r := ⟨n - r, by omega⟩
  have HCE := hide (show Sh.share R1 K = Hs.hfC R1 ws by rw [shareL_of HR hK, Hs.hfC, HN.out])
  have hsl : Hid ((Hs.hfC R1 ws).length = r) := hide ((Hs.hfC_len _ _).trans HR.out)
  have hol : Hid ((Hs.ownL R1 (Hs.hfC R1 ws) ws).length = n) := hide ((Hs.ownL_len _ _ _).trans HN.out)
  have HAL := hide fun (W : World) (h : ARow W a ws) => all17x (c := c) (hide h) HN (by omega) (hide hall)
  obtain ⟨C, hC⟩ : ∃ C, C = Hs.hfC R1 ws := ⟨_, rfl⟩
  rw [← hC] at HCE hsl hol HSB ⊢
  obtain ⟨O, hO⟩ : ∃ O, O = Hs.ownL R1 C ws := ⟨_, rfl⟩
  rw [← hO] at hol ⊢
  have HSH4 := hide fun (W : World) (p : Option Addr) (f : Nat) (h : ARow W p R1) => scf_any (c := f) (hide h) HR HK hK
  rw [HCE.out] at HSH4
  have HSS := hide fun (W : World) (p b : Option Addr) (d f : Nat) (h1 : ARow W p R1) (h2 : ARow W b C) (h3 : ARow W a ws) => ss_any (c := c) (d := d) (f := f) HN hsl HR HF HSB (hide h3) (hide h2) (hide h1)
  rw [← hO] at HSS
  have i1 : ¬ (n : Int) < (r : Int) := by omega
  have i2 : ¬ (10 : Int) < (n : Int) := by omega
  have hn1000 : n ≤ 1000 := by omega
  clear hk hfl hle hle10 f1 f2 hC hO HG HDY hsb hall hK
  go_enter Tryz.func5, Tryz.ntmps5
  go_wp2_with fail
  generalize ((w.alloc (.cells #[.slice (some ⟨X, 0, none⟩) n' n', .slice (some ⟨Y, 0, none⟩) n'' n''] 35)).alloc (.cells #[.slice none 0 0, .slice none 0 0, .slice none 0 0] 29)) = W0 at *
  refine (lp_yes HSP HSH (hide (HT.out.below HD.out.b)) HR HF).mono ?_
  rintro _ w1 ⟨p, f, rfl, hb1, hr1⟩
  have HD1 := hide (HD.out.below hb1)
  have HR1 := hide hr1
  have HA1 := hide (HA.out.below HD1.out.b)
  clear hb1 hr1
  go_wp2_with (go_at_call 19; refine (HAL.out _ HA1.out).mono ?_; rintro _ _ ⟨rfl, rfl⟩)
  refine (HSH4.out _ _ _ HR1.out).mono ?_
  rintro _ w2 ⟨v, rfl, hb2, oc⟩
  obtain ⟨aq, cq, rfl, hr2⟩ := own_any7 hsl.out oc
  have HC2 := hide hr2
  have HD2 := hide (HD1.out.below hb2)
  have HR2 := hide (HR1.out.below hb2)
  have HA2 := hide (HA.out.below HD2.out.b)
  have HO2 := hide (owns_low (base' := w.heap.size + 2) oc (Nat.succ_le_of_lt HD1.out.r.2.2.2))
  have ht2 := fun g (h : (Value.slice aq r cq).ownBlock = some g) => own_hi oc h
  have hT2 := hide ht2
  obtain ⟨a3, c3, w3, hr3, own3, hb3⟩ := cl_run17 (c := c) HN.out hn1000 HA2.out
  have HD3 := hide (HD2.out.below hb3)
  have HR3 := hide (HR2.out.below hb3)
  have HC3 := hide (HC2.out.below hb3)
  have HA3 := hide (HA.out.below HD3.out.b)
  have HO3 := hide (own_below HO2.out hb3)
  have HZ3 := hide own3
  clear hb2 oc hr2 ht2 hb3 own3
  go_wp2_with (first | (at_builtin; refine Lib.wpList_append_run _ rfl _ _ _ _ rfl _ _ rfl rfl _ _ (hr3 _) ?_))
  refine (HSS.out _ _ _ _ _ HR3.out HC3.out HA3.out).mono ?_
  rintro _ w4 ⟨go, rfl, hb4, hgo, oo⟩
  have HD4 := HD3.out.below hb4
  have HV4 : Hid (HV (w.heap.size + 2) ws C O (.slice a3 n c3) (.slice aq r cq) (.slice (some ⟨go, 0, none⟩) n n) w4) := hide (by
    have h2 := HD2.out.b.size
    have hs2 := Nat.succ_le_of_lt HD2.out.r.2.2.2
    refine ⟨?_, ?_, ?_, ?_, ?_, ?_⟩
    · rw [HN.out]; exact owns_low (own_below HZ3.out hb4) hs2
    · rw [hsl.out]; exact own_below HO3.out hb4
    · rw [hol.out]; exact oo.own17 (Nat.le_trans (Nat.succ_le_of_lt HD3.out.r.2.2.2) hgo)
    · intro g hg e
      have h3 : w2.heap.size ≤ g := own_lt17 HZ3.out hg
      have h4 : g < w2.heap.size := hT2.out g e
      omega
    · intro g hg e; cases e
      have h4 : go < w3.heap.size := own_hi HZ3.out hg
      omega
    · intro g hg e; cases e
      have h4 : go < w3.heap.size := own_hi HO3.out hg
      omega)
  have x0 := HD4.r.1
  have x1 := HD4.r.2.1
  have x2 := HD4.r.2.2.1
  have g0 := HD4.f 0
  have g1 := HD4.f 1
  have g2 := HD4.f 2
  clear hb4 oo hgo
  go_wp2_with fail
  refine bodyPost_ret (v := .tuple #[.agg #[.slice a3 n c3, .slice aq r cq, .slice (some ⟨go, 0, none⟩) n n], .bool true]) (by simp [results, Tryz.results5, go_sem, x0, x1, x2]) rfl ⟨_, _, _, rfl, HD4.res _ _ _, ?_⟩
  exact (((HV4.out.set (Nat.lt_succ_self _)).set (Nat.lt_succ_self _)).set (Nat.lt_succ_self _)).low (Nat.le_add_right _ _)
end Go.Proofs.YtlbagigghpiifaaGreat
namespace Go.Proofs.YtlbagigghpiifaaGreat
open Go.RowKit

set_option maxHeartbeats 2000000 in
theorem eqH_any {a b o a' b' o' : Option Addr} {n m q c d e c' d' e' : Nat} {ws cs os : List Int} {w : World} (HN : Hid (ws.length = n)) (HM : Hid (cs.length = m)) (HQ : Hid (os.length = q)) (h1 : n ≤ 1048576) (h2 : m ≤ 1048576) (h3 : q ≤ 1048576) (ha : ARow w a ws) (hb : ARow w b cs) (ho : ARow w o os) (ha' : ARow w a' ws) (hb' : ARow w b' cs) (ho' : ARow w o' os) :
    Calls Tryz.prog 9 #[.agg #[.slice a n c, .slice b m d, .slice o q e], .agg #[.slice a' n c', .slice b' m d', .slice o' q e']] w fun e w' => e = .returned (.bool true) ∧ Below w.heap.size w w' := by
  have HA := hide ((ha.alloc (.cells #[.slice a n c, .slice b m d, .slice o q e] 29)).alloc (.cells #[.slice a' n c', .slice b' m d', .slice o' q e'] 29))
  have HB := hide ((hb.alloc (.cells #[.slice a n c, .slice b m d, .slice o q e] 29)).alloc (.cells #[.slice a' n c', .slice b' m d', .slice o' q e'] 29))
  have HO := hide ((ho.alloc (.cells #[.slice a n c, .slice b m d, .slice o q e] 29)).alloc (.cells #[.slice a' n c', .slice b' m d', .slice o' q e'] 29))
  have HA' := hide ((ha'.alloc (.cells #[.slice a n c, .slice b m d, .slice o q e] 29)).alloc (.cells #[.slice a' n c', .slice b' m d', .slice o' q e'] 29))
  have HB' := hide ((hb'.alloc (.cells #[.slice a n c, .slice b m d, .slice o q e] 29)).alloc (.cells #[.slice a' n c', .slice b' m d', .slice o' q e'] 29))
  have HO' := hide ((ho'.alloc (.cells #[.slice a n c, .slice b m d, .slice o q e] 29)).alloc (.cells #[.slice a' n c', .slice b' m d', .slice o' q e'] 29))
  clear ha hb ho ha' hb' ho'
  go_enter Tryz.func9, Tryz.ntmps9
  go_wp2_with fail
  refine (eqI_b HN.out h1 HA.out HA'.out).mono ?_
  rintro _ w1 ⟨rfl, hb1⟩
  have hB0 := (below_new w (.cells #[.slice a n c, .slice b m d, .slice o q e] 29)).trans ((below_new (w.alloc (.cells #[.slice a n c, .slice b m d, .slice o q e] 29)) (.cells #[.slice a' n c', .slice b' m d', .slice o' q e'] 29)).mono (by simp))
  have HB1 := hide (hB0.trans (hb1.mono hB0.size))
  have hx1 := (((HBox.new w (.slice a n c) (.slice b m d) (.slice o q e) 29).below (below_new _ (.cells #[.slice a' n c', .slice b' m d', .slice o' q e'] 29))).below hb1)
  have hx2 := ((HBox.new (w.alloc (.cells #[.slice a n c, .slice b m d, .slice o q e] 29)) (.slice a' n c') (.slice b' m d') (.slice o' q e') 29).below hb1)
  rw [World.size_alloc] at hx2
  have HX1 := hide hx1
  have HX2 := hide hx2
  have HB2 := hide (HB.out.below hb1)
  have HB2' := hide (HB'.out.below hb1)
  have HO2 := hide (HO.out.below hb1)
  have HO2' := hide (HO'.out.below hb1)
  obtain ⟨x0, x1, x2, _⟩ := HX1.out
  obtain ⟨y0, y1, y2, _⟩ := HX2.out
  clear hb1 hB0 hx1 hx2
  go_wp2_with fail
  refine (eqI_b HM.out h2 HB2.out HB2'.out).mono ?_
  rintro _ w2 ⟨rfl, hb2⟩
  have HB3 := hide (HB1.out.trans (hb2.mono HB1.out.size))
  have HO3 := hide (HO2.out.below hb2)
  have HO3' := hide (HO2'.out.below hb2)
  clear x0 x1 x2 y0 y1 y2
  obtain ⟨x0, x1, x2, _⟩ := HX1.out.below hb2
  obtain ⟨y0, y1, y2, _⟩ := HX2.out.below hb2
  clear hb2
  go_wp2_with fail
  refine (eqI_b HQ.out h3 HO3.out HO3'.out).mono ?_
  rintro _ w3 ⟨rfl, hb3⟩
  have HB4 := hide (HB3.out.trans (hb3.mono HB3.out.size))
  clear hb3 x0 x1 x2 y0 y1 y2
  go_wp2_with fail
  go_ret
  exact ⟨rfl, HB4.out⟩
end Go.Proofs.YtlbagigghpiifaaGreat
namespace Go.Proofs.YtlbagigghpiifaaGreat
open Go.RowKit

theorem HBox.keep {W W' : World} {B : Nat} {v0 v1 v2 : Value} (h : HBox W B v0 v1 v2) (hs : W.heap.size ≤ W'.heap.size) (hb : W'.heap[B]? = W.heap[B]?) : HBox W' B v0 v1 v2 :=
  ⟨(World.cell?_of_block (w := W) (a := ⟨B, 0, none⟩) hb).trans h.1, (World.cell?_of_block (w := W) (a := ⟨B, 1, none⟩) hb).trans h.2.1, (World.cell?_of_block (w := W) (a := ⟨B, 2, none⟩) hb).trans h.2.2.1, Nat.lt_of_lt_of_le h.2.2.2 hs⟩
/-- Which blocks a house has. -/
def HIn (v0 v1 v2 : Value) (g : Nat) : Prop := v0.ownBlock = some g ∨ v1.ownBlock = some g ∨ v2.ownBlock = some g
theorem HV.lt {base g : Nat} {ws cs os : List Int} {v0 v1 v2 : Value} {W : World} (h : HV base ws cs os v0 v1 v2 W) (hg : HIn v0 v1 v2 g) : base ≤ g ∧ g < W.heap.size := by
  rcases hg with hg | hg | hg
  · exact h.o0.lt g hg
  · exact h.o1.lt g hg
  · exact h.o2.lt g hg
theorem HV.keep {base : Nat} {ws cs os : List Int} {v0 v1 v2 : Value} {W W' : World} (h : HV base ws cs os v0 v1 v2 W) (hb : ∀ g, HIn v0 v1 v2 g → g < W.heap.size → W'.heap[g]? = W.heap[g]?) : HV base ws cs os v0 v1 v2 W' :=
  ⟨own_keep h.o0 fun g hg => hb g (Or.inl hg), own_keep h.o1 fun g hg => hb g (Or.inr (Or.inl hg)), own_keep h.o2 fun g hg => hb g (Or.inr (Or.inr hg)), h.d01, h.d02, h.d12⟩
theorem HV.form {base : Nat} {ws cs os : List Int} {v0 v1 v2 : Value} {W : World} (h : HV base ws cs os v0 v1 v2 W) : ∃ a c b d o e, v0 = .slice a ws.length c ∧ v1 = .slice b cs.length d ∧ v2 = .slice o os.length e := by
  obtain ⟨a, c, rfl⟩ := own_sh h.o0
  obtain ⟨b, d, rfl⟩ := own_sh h.o1
  obtain ⟨o, e, rfl⟩ := own_sh h.o2
  exact ⟨a, c, b, d, o, e, rfl, rfl, rfl⟩
theorem eqHV {b1 b2 : Nat} {ws cs os : List Int} {v0 v1 v2 u0 u1 u2 : Value} {w : World} (h1 : ws.length ≤ 1048576) (h2 : cs.length ≤ 1048576) (h3 : os.length ≤ 1048576) (h : HV b1 ws cs os v0 v1 v2 w) (h' : HV b2 ws cs os u0 u1 u2 w) :
    Calls Tryz.prog 9 #[.agg #[v0, v1, v2], .agg #[u0, u1, u2]] w fun e w' => e = .returned (.bool true) ∧ Below w.heap.size w w' := by
  obtain ⟨_, _, rfl, r1⟩ := own_row rfl h.o0
  obtain ⟨_, _, rfl, r2⟩ := own_row rfl h.o1
  obtain ⟨_, _, rfl, r3⟩ := own_row rfl h.o2
  obtain ⟨_, _, rfl, r4⟩ := own_row rfl h'.o0
  obtain ⟨_, _, rfl, r5⟩ := own_row rfl h'.o1
  obtain ⟨_, _, rfl, r6⟩ := own_row rfl h'.o2
  exact eqH_any (hide rfl) (hide rfl) (hide rfl) h1 h2 h3 r1 r2 r3 r4 r5 r6
/-- What is marked is held: three lists. -/
structure HHV (v0 v1 v2 : Value) (n m q : Nat) (k : Int) (w : World) : Prop where
  h0 : HeldV w v0 n k
  h1 : HeldV w v1 m (k + n)
  h2 : HeldV w v2 q (k + n + m)
theorem HHV.below {v0 v1 v2 : Value} {n m q : Nat} {k : Int} {w w' : World} (h : HHV v0 v1 v2 n m q k w) (hb : Below w.heap.size w w') : HHV v0 v1 v2 n m q k w' := ⟨h.h0.below hb, h.h1.below hb, h.h2.below hb⟩
structure OffH (w w' : World) (v0 v1 v2 : Value) : Prop where
  os : w'.os = w.os
  tape : w'.tape = w.tape
  output : w'.output = w.output
  size : w.heap.size ≤ w'.heap.size
  block : ∀ b, b < w.heap.size → ¬ HIn v0 v1 v2 b → w'.heap[b]? = w.heap[b]?
set_option maxHeartbeats 4000000 in
theorem markHV {a b o : Option Addr} {c d e base : Nat} {ws cs os : List Int} {n m q : Nat} {k : Int} {w : World} (hn : ws.length = n) (hm : cs.length = m) (hq : os.length = q) (n1 : n ≤ 1048576) (m1 : m ≤ 1048576) (q1 : q ≤ 1048576) (k0 : 0 ≤ k) (k1 : k ≤ 900000000)
    (h : HV base ws cs os (.slice a n c) (.slice b m d) (.slice o q e) w) :
    Calls Tryz.prog 14 #[.agg #[.slice a n c, .slice b m d, .slice o q e], .int .i64 k] w fun z w' => z = .returned (.int .i64 (k + n + m + q)) ∧ HHV (.slice a n c) (.slice b m d) (.slice o q e) n m q k w' ∧ OffH w w' (.slice a n c) (.slice b m d) (.slice o q e) := by
  have bn := below_new w (.cells #[.slice a n c, .slice b m d, .slice o q e] 29)
  have hb := h.below bn
  have hx := HBox.new w (.slice a n c) (.slice b m d) (.slice o q e) 29
  have HB := hide hb
  have HX := hide hx
  have HN1 := hide fun (g : Nat) (hg : HIn (.slice a n c) (.slice b m d) (.slice o q e) g) => (h.lt hg).2
  have HS0 : Hid (w.heap.size < (w.alloc (.cells #[.slice a n c, .slice b m d, .slice o q e] 29)).heap.size) := hide hx.2.2.2
  have HBN := hide bn
  clear hb bn hx h
  go_enter Tryz.func14, Tryz.ntmps14
  go_wp2_with fail
  generalize w.alloc (.cells #[.slice a n c, .slice b m d, .slice o q e] 29) = W at *
  have p0 := HB.out.o0
  rw [hn] at p0
  refine (markV_any hn (by omega) k0 (by omega) p0).mono ?_
  rintro _ w1 ⟨rfl, C1, hg1⟩
  have X1 := HX.out.keep hg1.size (hg1.block _ HX.out.2.2.2 fun he => by have := HN1.out _ (Or.inl he.symm); omega)
  have O1 := own_keep HB.out.o1 fun g hg hl => hg1.block g hl fun he => HB.out.d01 g he.symm hg
  have O2 := own_keep HB.out.o2 fun g hg hl => hg1.block g hl fun he => HB.out.d02 g he.symm hg
  rw [hm] at O1
  rw [hq] at O2
  have HC1 := hide C1
  have HG1 := hide hg1
  have HX1 := hide X1
  have HO1 := hide O1
  have HO2 := hide O2
  clear C1 hg1 X1 O1 O2 p0
  obtain ⟨x0, x1, x2, _⟩ := HX1.out
  go_wp2_with fail
  refine (markV_any hm (by omega) (by omega) (by omega) HO1.out).mono ?_
  rintro _ w2 ⟨rfl, C2, hg2⟩
  have X2 := HX1.out.keep hg2.size (hg2.block _ HX1.out.2.2.2 fun he => by have := HN1.out _ (Or.inr (Or.inl he.symm)); omega)
  have O3 := own_keep HO2.out fun g hg hl => hg2.block g hl fun he => HB.out.d12 g he.symm hg
  have C1' := HC1.out.keep hg2.size fun g hg => hg2.block g (Nat.lt_of_lt_of_le (HB.out.lt (Or.inl hg)).2 HG1.out.size) fun he => HB.out.d01 g hg he.symm
  have HC1' := hide C1'
  have HC2 := hide C2
  have HG2 := hide hg2
  have HX2 := hide X2
  have HO3 := hide O3
  clear C1' C2 hg2 X2 O3 x0 x1 x2
  obtain ⟨x0, x1, x2, _⟩ := HX2.out
  go_wp2_with fail
  refine (markV_any hq (by omega) (by omega) (by omega) HO3.out).mono ?_
  rintro _ w3 ⟨rfl, C3, hg3⟩
  have s1 := HG1.out.size
  have s2 := HG2.out.size
  have s3 := hg3.size
  have s0 := HS0.out
  have C1'' := HC1'.out.keep hg3.size fun g hg => hg3.block g (by have := (HB.out.lt (Or.inl hg)).2; omega) fun he => HB.out.d02 g hg he.symm
  have C2'' := HC2.out.keep hg3.size fun g hg => hg3.block g (by have := (HB.out.lt (Or.inr (Or.inl hg))).2; omega) fun he => HB.out.d12 g hg he.symm
  have HHH := hide (HHV.mk C1'' C2'' C3)
  have HOF : Hid (OffH w w3 (.slice a n c) (.slice b m d) (.slice o q e)) := hide ⟨((hg3.os.trans HG2.out.os).trans HG1.out.os).trans HBN.out.os, ((hg3.tape.trans HG2.out.tape).trans HG1.out.tape).trans HBN.out.tape, ((hg3.output.trans HG2.out.output).trans HG1.out.output).trans HBN.out.output, by omega,
    fun g hg h1 => (((hg3.block g (by omega) fun he => h1 (Or.inr (Or.inr he.symm))).trans (HG2.out.block g (by omega) fun he => h1 (Or.inr (Or.inl he.symm)))).trans (HG1.out.block g (by omega) fun he => h1 (Or.inl he.symm))).trans (HBN.out.block g hg)⟩
  clear C1'' C2'' C3 hg3 x0 x1 x2 s0 s1 s2 s3
  go_wp2_with fail
  go_ret
  exact ⟨rfl, HHH.out, HOF.out⟩
set_option maxHeartbeats 4000000 in
theorem heldHV {a b o : Option Addr} {c d e : Nat} {n m q : Nat} {k : Int} {w : World} (n1 : n ≤ 1048576) (m1 : m ≤ 1048576) (q1 : q ≤ 1048576) (k0 : 0 ≤ k) (k1 : k ≤ 900000000) (h : HHV (.slice a n c) (.slice b m d) (.slice o q e) n m q k w) :
    Calls Tryz.prog 15 #[.agg #[.slice a n c, .slice b m d, .slice o q e], .int .i64 k] w fun z w' => z = .returned (.int .i64 (k + n + m + q)) ∧ Below w.heap.size w w' := by
  have HBN := hide (below_new w (.cells #[.slice a n c, .slice b m d, .slice o q e] 29))
  have HX := hide (HBox.new w (.slice a n c) (.slice b m d) (.slice o q e) 29)
  have HH := hide (h.below HBN.out)
  have h1 : ¬ k + (n : Int) < 0 := by omega
  have h2 : ¬ k + (n : Int) + (m : Int) < 0 := by omega
  have h3 : ¬ k + (n : Int) + (m : Int) + (q : Int) < 0 := by omega
  clear h
  go_enter Tryz.func15, Tryz.ntmps15
  go_wp2_with fail
  generalize w.alloc (.cells #[.slice a n c, .slice b m d, .slice o q e] 29) = W at *
  obtain ⟨x0, x1, x2, _⟩ := HX.out
  refine (heldV_any (by omega) k0 (by omega) HH.out.h0).mono ?_
  rintro _ w1 ⟨rfl, rfl⟩
  go_wp2_with fail
  refine (heldV_any (by omega) (by omega) (by omega) HH.out.h1).mono ?_
  rintro _ w1 ⟨rfl, rfl⟩
  go_wp2_with fail
  refine (heldV_any (by omega) (by omega) (by omega) HH.out.h2).mono ?_
  rintro _ w1 ⟨rfl, rfl⟩
  go_wp2_with fail
  go_ret
  exact ⟨rfl, HBN.out⟩
end Go.Proofs.YtlbagigghpiifaaGreat
namespace Go.Proofs.YtlbagigghpiifaaGreat
open Go.ChangeShapes Go.WideShapes Go.ChangeAt Go.RowKit Go.Deep

theorem laidOutG : laidOutB Tryz.prog = true := by kernel_rfl
theorem cellsG : Tryz.prog.cellsOf 66 = 2 := by kernel_rfl
theorem cellsGs : Tryz.prog.cellsOf 9 = 1 := by kernel_rfl
theorem cellsGi : Tryz.prog.cellsOf 3 = 1 := by kernel_rfl
set_option maxRecDepth 100000 in
theorem opened_goods {H : Type} {enc : TypeId × Value → H} {W : World} {base : Nat} {v : Value} {x : DataW H} {p : List MemPlace} {sp : Nat → Bool} (hv : Value.okWide Tryz.prog W .any base 22 v)
    (h0 : DataW.Trod enc Tryz.prog W 0 sp true 22 v x p) : ∃ (a : Option Addr) (gs : List Gd) (c : Nat), v = .slice a gs.length c ∧ gs.length ≤ maxLen ∧ Fits gs ∧ GRow W a gs := by
  obtain ⟨a0, len0, cap0, rfl⟩ := okWide_slice Tryz.underlying22 hv
  obtain ⟨fuel, hf⟩ := h0
  rcases open_slice_pairs Tryz.underlying22 Tryz.underlying66 cellsG rfl rfl cellsGs cellsGi hf with ⟨hcs, _⟩ | ⟨a, len, cap, m, n, V0, V1, D0, D1, P0, P1, hcs, _, hl, hcap, hmm, _, hx⟩
  · simp [Value.cells] at hcs
    obtain ⟨rfl, rfl, rfl⟩ := hcs
    exact ⟨none, [], 0, rfl, Nat.zero_le _, fun i => (show gd0.1.size ≤ maxLen from Nat.zero_le _), Or.inl rfl⟩
  · simp [Value.cells] at hcs
    obtain ⟨rfl, rfl, rfl⟩ := hcs
    have hlm : len0 ≤ m := by rw [hmm]; split <;> omega
    have each : ∀ i, i < len0 → ∃ z : Gd, V0 i = .string z.1 ∧ V1 i = .int .i64 z.2 ∧ z.1.size ≤ maxLen := by
      intro i hi
      obtain ⟨_, _, t0, t1⟩ := hx i (by omega)
      obtain ⟨z0, e0, _, ez⟩ := DataW.trod_string Tryz.underlying9 t0
      obtain ⟨z1, e1, _, _⟩ := DataW.trod_int Tryz.underlying3 t1
      simp at e0 e1
      exact ⟨(z0, z1), e0, e1, ez⟩
    obtain ⟨z, hz⟩ := choose_lt each
    have hget : ∀ i, i < len0 → ((List.range len0).map z).getD i gd0 = z i := fun i hi => by simp [hi]
    refine ⟨some a, (List.range len0).map z, cap0, by simp, by simp; omega, fun i => ?_, ?_⟩
    · by_cases hi : i < len0
      · rw [hget i hi]; exact (hz i hi).2.2
      · have : ((List.range len0).map z).getD i gd0 = gd0 := by simp [show len0 ≤ i by omega]
        rw [this]; exact (show gd0.1.size ≤ maxLen from Nat.zero_le _)
    · by_cases h : len0 = 0
      · left; subst h; rfl
      · right
        obtain ⟨b, off, spot⟩ := a
        have hc := (hx 0 (by omega)).1
        have hspot : spot = none := by simpa [Addr.add] using World.cell?_spot hc
        subst hspot
        refine ⟨b, off, rfl, World.block_lt_of_cell? W _ hc, ?_⟩
        intro i hi
        simp at hi
        obtain ⟨c0, c1, _, _⟩ := hx i (by omega)
        rw [add_plain] at c0 c1
        rw [hget i hi]
        refine ⟨c0.trans (by rw [(hz i hi).1]), ?_⟩
        rw [← Nat.add_assoc] at c1
        exact c1.trans (by rw [(hz i hi).2.1])
end Go.Proofs.YtlbagigghpiifaaGreat
namespace Go.Proofs.YtlbagigghpiifaaGreat
open Go.ChangeShapes Go.WideShapes Go.ChangeAt Go.RowKit Go.Deep

theorem cellsL : Tryz.prog.cellsOf 76 = 2 := by kernel_rfl
theorem cellsLi : Tryz.prog.cellsOf 3 = 1 := by kernel_rfl
set_option maxRecDepth 100000 in
theorem opened_lines {H : Type} {enc : TypeId × Value → H} {W : World} {base : Nat} {v : Value} {x : DataW H} {p : List MemPlace} {sp : Nat → Bool} (hv : Value.okWide Tryz.prog W .any base 23 v)
    (h0 : DataW.Trod enc Tryz.prog W 0 sp true 23 v x p) : ∃ (a : Option Addr) (ls : List (Int × Int)) (c : Nat), v = .slice a ls.length c ∧ ls.length ≤ maxLen ∧ LRow W a ls := by
  obtain ⟨a0, len0, cap0, rfl⟩ := okWide_slice Tryz.underlying23 hv
  obtain ⟨fuel, hf⟩ := h0
  rcases open_slice_pairs Tryz.underlying23 Tryz.underlying76 cellsL rfl rfl cellsLi cellsLi hf with ⟨hcs, _⟩ | ⟨a, len, cap, m, n, V0, V1, D0, D1, P0, P1, hcs, _, hl, hcap, hmm, _, hx⟩
  · simp [Value.cells] at hcs
    obtain ⟨rfl, rfl, rfl⟩ := hcs
    exact ⟨none, [], 0, rfl, Nat.zero_le _, Or.inl rfl⟩
  · simp [Value.cells] at hcs
    obtain ⟨rfl, rfl, rfl⟩ := hcs
    have hlm : len0 ≤ m := by rw [hmm]; split <;> omega
    have each : ∀ i, i < len0 → ∃ z : Int × Int, V0 i = .int .i64 z.1 ∧ V1 i = .int .i64 z.2 := by
      intro i hi
      obtain ⟨_, _, t0, t1⟩ := hx i (by omega)
      obtain ⟨z0, e0, _, _⟩ := DataW.trod_int Tryz.underlying3 t0
      obtain ⟨z1, e1, _, _⟩ := DataW.trod_int Tryz.underlying3 t1
      simp at e0 e1
      exact ⟨(z0, z1), e0, e1⟩
    obtain ⟨z, hz⟩ := choose_lt each
    have hget : ∀ i, i < len0 → ((List.range len0).map z).getD i (0, 0) = z i := fun i hi => by simp [hi]
    refine ⟨some a, (List.range len0).map z, cap0, by simp, by simp; omega, ?_⟩
    by_cases h : len0 = 0
    · left; subst h; rfl
    · right
      obtain ⟨b, off, spot⟩ := a
      have hc := (hx 0 (by omega)).1
      have hspot : spot = none := by simpa [Addr.add] using World.cell?_spot hc
      subst hspot
      refine ⟨b, off, rfl, World.block_lt_of_cell? W _ hc, ?_⟩
      intro i hi
      simp at hi
      obtain ⟨c0, c1, _, _⟩ := hx i (by omega)
      rw [add_plain] at c0 c1
      rw [hget i hi]
      refine ⟨c0.trans (by rw [(hz i hi).1]), ?_⟩
      rw [← Nat.add_assoc] at c1
      exact c1.trans (by rw [(hz i hi).2])
end Go.Proofs.YtlbagigghpiifaaGreat
namespace Go.Proofs.YtlbagigghpiifaaGreat
open Go.ChangeShapes Go.WideShapes Go.ChangeAt Go.RowKit Go.Deep

set_option maxRecDepth 100000 in
theorem opened_gd {H : Type} {enc : TypeId × Value → H} {W : World} {fuel : Nat} {v : Value} {x : DataW H × List MemPlace} {sp : Nat → Bool}
    (hf : DataW.trod enc Tryz.prog W 0 sp true fuel 22 [v] = some x) : ∃ (a : Option Addr) (gs : List Gd) (c : Nat), v = .slice a gs.length c ∧ gs.length ≤ maxLen ∧ Fits gs ∧ GRow W a gs := by
  rcases open_slice_pairs Tryz.underlying22 Tryz.underlying66 cellsG rfl rfl cellsGs cellsGi hf with ⟨hcs, _⟩ | ⟨a, len, cap, m, n, V0, V1, D0, D1, P0, P1, hcs, _, hl, hcap, hmm, _, hx⟩
  · simp at hcs
    subst hcs
    exact ⟨none, [], 0, rfl, Nat.zero_le _, fun i => (show gd0.1.size ≤ maxLen from Nat.zero_le _), Or.inl rfl⟩
  · simp at hcs
    subst hcs
    have hlm : len ≤ m := by rw [hmm]; split <;> omega
    have each : ∀ i, i < len → ∃ z : Gd, V0 i = .string z.1 ∧ V1 i = .int .i64 z.2 ∧ z.1.size ≤ maxLen := by
      intro i hi
      obtain ⟨_, _, t0, t1⟩ := hx i (by omega)
      obtain ⟨z0, e0, _, ez⟩ := DataW.trod_string Tryz.underlying9 t0
      obtain ⟨z1, e1, _, _⟩ := DataW.trod_int Tryz.underlying3 t1
      simp at e0 e1
      exact ⟨(z0, z1), e0, e1, ez⟩
    obtain ⟨z, hz⟩ := choose_lt each
    have hget : ∀ i, i < len → ((List.range len).map z).getD i gd0 = z i := fun i hi => by simp [hi]
    refine ⟨some a, (List.range len).map z, cap, by simp, by simp; omega, fun i => ?_, ?_⟩
    · by_cases hi : i < len
      · rw [hget i hi]; exact (hz i hi).2.2
      · have : ((List.range len).map z).getD i gd0 = gd0 := by simp [show len ≤ i by omega]
        rw [this]; exact (show gd0.1.size ≤ maxLen from Nat.zero_le _)
    · by_cases h : len = 0
      · left; subst h; rfl
      · right
        obtain ⟨b, off, spot⟩ := a
        have hc := (hx 0 (by omega)).1
        have hspot : spot = none := by simpa [Addr.add] using World.cell?_spot hc
        subst hspot
        refine ⟨b, off, rfl, World.block_lt_of_cell? W _ hc, ?_⟩
        intro i hi
        simp at hi
        obtain ⟨c0, c1, _, _⟩ := hx i (by omega)
        rw [add_plain] at c0 c1
        rw [hget i hi]
        refine ⟨c0.trans (by rw [(hz i hi).1]), ?_⟩
        rw [← Nat.add_assoc] at c1
        exact c1.trans (by rw [(hz i hi).2.1])
set_option maxRecDepth 100000 in
theorem opened_ln {H : Type} {enc : TypeId × Value → H} {W : World} {fuel : Nat} {v : Value} {x : DataW H × List MemPlace} {sp : Nat → Bool}
    (hf : DataW.trod enc Tryz.prog W 0 sp true fuel 23 [v] = some x) : ∃ (a : Option Addr) (ls : List (Int × Int)) (c : Nat), v = .slice a ls.length c ∧ ls.length ≤ maxLen ∧ LRow W a ls := by
  rcases open_slice_pairs Tryz.underlying23 Tryz.underlying76 cellsL rfl rfl cellsLi cellsLi hf with ⟨hcs, _⟩ | ⟨a, len, cap, m, n, V0, V1, D0, D1, P0, P1, hcs, _, hl, hcap, hmm, _, hx⟩
  · simp at hcs
    subst hcs
    exact ⟨none, [], 0, rfl, Nat.zero_le _, Or.inl rfl⟩
  · simp at hcs
    subst hcs
    have hlm : len ≤ m := by rw [hmm]; split <;> omega
    have each : ∀ i, i < len → ∃ z : Int × Int, V0 i = .int .i64 z.1 ∧ V1 i = .int .i64 z.2 := by
      intro i hi
      obtain ⟨_, _, t0, t1⟩ := hx i (by omega)
      obtain ⟨z0, e0, _, _⟩ := DataW.trod_int Tryz.underlying3 t0
      obtain ⟨z1, e1, _, _⟩ := DataW.trod_int Tryz.underlying3 t1
      simp at e0 e1
      exact ⟨(z0, z1), e0, e1⟩
    obtain ⟨z, hz⟩ := choose_lt each
    have hget : ∀ i, i < len → ((List.range len).map z).getD i (0, 0) = z i := fun i hi => by simp [hi]
    refine ⟨some a, (List.range len).map z, cap, by simp, by simp; omega, ?_⟩
    by_cases h : len = 0
    · left; subst h; rfl
    · right
      obtain ⟨b, off, spot⟩ := a
      have hc := (hx 0 (by omega)).1
      have hspot : spot = none := by simpa [Addr.add] using World.cell?_spot hc
      subst hspot
      refine ⟨b, off, rfl, World.block_lt_of_cell? W _ hc, ?_⟩
      intro i hi
      simp at hi
      obtain ⟨c0, c1, _, _⟩ := hx i (by omega)
      rw [add_plain] at c0 c1
      rw [hget i hi]
      refine ⟨c0.trans (by rw [(hz i hi).1]), ?_⟩
      rw [← Nat.add_assoc] at c1
      exact c1.trans (by rw [(hz i hi).2])
theorem cellsSh15 : Tryz.prog.cellsOf 25 = 2 := by kernel_rfl
theorem cellsSg15 : Tryz.prog.cellsOf 22 = 1 := by kernel_rfl
theorem cellsSl15 : Tryz.prog.cellsOf 23 = 1 := by kernel_rfl
set_option maxRecDepth 100000 in
theorem opened_sheet {H : Type} {enc : TypeId × Value → H} {W : World} {base : Nat} {v : Value} {x : DataW H} {p : List MemPlace} {sp : Nat → Bool} (hv : Value.okWide Tryz.prog W .any base 25 v)
    (h0 : DataW.Trod enc Tryz.prog W 0 sp true 25 v x p) : ∃ (a b : Option Addr) (gs : List Gd) (ls : List (Int × Int)) (c d : Nat), v = .agg #[.slice a gs.length c, .slice b ls.length d] ∧ gs.length ≤ maxLen ∧ Fits gs ∧ GRow W a gs ∧ ls.length ≤ maxLen ∧ LRow W b ls := by
  obtain ⟨cs, rfl, hsz⟩ := okWide_struct Tryz.underlying25 hv
  have hcs : cs.size = 2 := hsz.trans cellsSh15
  obtain ⟨c0, c1, rfl⟩ : ∃ c0 c1, cs = #[c0, c1] := by
    obtain ⟨l⟩ := cs
    match l, hcs with
    | [c0, c1], _ => exact ⟨c0, c1, rfl⟩
  obtain ⟨fuel, hf⟩ := h0
  obtain ⟨y0, y1, m, hx, _, g0, g1⟩ := trod_struct2 Tryz.underlying25 hf
  simp [Value.cells, cellsSg15, cellsSl15] at g0 g1
  obtain ⟨a, gs, c, rfl, l0, f0, r0⟩ := opened_gd g0
  obtain ⟨b, ls, d, rfl, l1, r1⟩ := opened_ln g1
  exact ⟨a, b, gs, ls, c, d, rfl, l0, f0, r0, l1, r1⟩
end Go.Proofs.YtlbagigghpiifaaGreat
