/-
  What profile of the program's map answers: for each good how often, how much.
-/
import Derived.Test.YtogkbidphdpjaaaMr
import Derived.Test.YtogkbidphdpjaaaPm
import Derived.Deep.DeepCutAuto
namespace Go.Proofs.Ytogkbidphdpjaaa
open Go.RowKit Go.Maps Go.Sort

/-- A list of n numbers: g of those in l, 0 of the others. -/
def rowOf (g : Nat → Int) (l : List Nat) (n : Nat) : List Int := (List.range n).map fun i => if i ∈ l then g i else 0
theorem rowOf_len (g : Nat → Int) (l : List Nat) (n : Nat) : (rowOf g l n).length = n := by simp [rowOf]
theorem rowOf_nil (g : Nat → Int) (n : Nat) : rowOf g [] n = List.replicate n 0 := by
  apply List.ext_getElem
  · simp [rowOf]
  · intro i h1 h2; simp [rowOf]
theorem rowOf_step (g : Nat → Int) (l : List Nat) (n q : Nat) : (rowOf g l n).set q (g q) = rowOf g (l ++ [q]) n := by
  apply List.ext_getElem
  · simp [rowOf]
  · intro i h1 h2
    rw [List.getElem_set]
    simp only [rowOf, List.getElem_map, List.getElem_range, List.mem_append, List.mem_singleton]
    by_cases e : q = i
    · subst e; simp
    · rw [if_neg e]
      by_cases hi : i ∈ l
      · simp [hi]
      · simp [hi, show ¬ i = q from fun h => e h.symm]
/-- How often, how much, good by good. -/
def Dem.picks (f : Dem) (n : Nat) : List Int := (List.range n).map fun i => (f.get i).1
def Dem.flow (f : Dem) (n : Nat) : List Int := (List.range n).map fun i => (f.get i).2
theorem picks_len (f : Dem) (n : Nat) : (f.picks n).length = n := by simp [Dem.picks]
theorem flow_len (f : Dem) (n : Nat) : (f.flow n).length = n := by simp [Dem.flow]
theorem rowOf_picks (f : Dem) (n : Nat) : rowOf (fun i => (f.get i).1) (f.keys n) n = f.picks n := by
  apply List.ext_getElem
  · simp [rowOf, Dem.picks]
  · intro i h1 h2
    have hi : i < n := by simpa [rowOf] using h1
    simp only [rowOf, Dem.picks, List.getElem_map, List.getElem_range, mem_keys]
    cases hf : f i with
    | none => simp [Dem.get, hf]
    | some x => simp [hi]
theorem rowOf_flow (f : Dem) (n : Nat) : rowOf (fun i => (f.get i).2) (f.keys n) n = f.flow n := by
  apply List.ext_getElem
  · simp [rowOf, Dem.flow]
  · intro i h1 h2
    have hi : i < n := by simpa [rowOf] using h1
    simp only [rowOf, Dem.flow, List.getElem_map, List.getElem_range, mem_keys]
    cases hf : f i with
    | none => simp [Dem.get, hf]
    | some x => simp [hi]

theorem own_made_at {w : World} {g n base : Nat} (h : w.heap[g]? = some (.cells (madeCells #[.int .i64 0] n) 3 (0, 0))) (hb : base ≤ g) (hn : n ≤ 1000000) : w.ownsRow base 3 1 (.slice (some ⟨g, 0, none⟩) n n) n (ints (List.replicate n 0)) := by
  refine ⟨by simp [ints], Or.inr ⟨g, n, _, rfl, hb, h, Nat.le_refl _, by unfold maxLen; omega, by simp [madeCells], ?_⟩⟩
  rw [toList_madeCells_one]
  simp [ints]
/-- A profile of no goods asked for, in blocks of its own. -/
structure Fresh (w wc : World) (X Y Z n : Nat) : Prop where
  c0 : wc.cell? ⟨Z, 0, none⟩ = some (.slice (some ⟨X, 0, none⟩) n n)
  c1 : wc.cell? ⟨Z, 1, none⟩ = some (.slice (some ⟨Y, 0, none⟩) n n)
  x : wc.heap[X]? = some (.cells (madeCells #[.int .i64 0] n) 3 (0, 0))
  y : wc.heap[Y]? = some (.cells (madeCells #[.int .i64 0] n) 3 (0, 0))
  below : Below w.heap.size w wc
  xy : X ≠ Y
  xz : X ≠ Z
  yz : Y ≠ Z
  lx : w.heap.size ≤ X
  ly : w.heap.size ≤ Y
  lz : w.heap.size ≤ Z

theorem prof_res {w w1 wc : World} {b : Nat} {t : TypeId} (hg : (w.alloc (.cells #[.slice none 0 0, .slice none 0 0] t)).grownBy w1 (some b)) (hb : b < w.heap.size) (hB : Below w1.heap.size w1 wc) (hs : w.heap.size < w1.heap.size) :
    wc.cell? ⟨w.heap.size, 0, none⟩ = some (.slice none 0 0) ∧ wc.cell? ⟨w.heap.size, 1, none⟩ = some (.slice none 0 0) ∧ wc.frozen? ⟨w.heap.size, 0, none⟩ = false ∧ wc.frozen? ⟨w.heap.size, 1, none⟩ = false := by
  have h1 := hg.block w.heap.size (by simp) (by simp; omega)
  have hc : ∀ i, wc.cell? ⟨w.heap.size, i, none⟩ = (w.alloc (.cells #[.slice none 0 0, .slice none 0 0] t)).cell? ⟨w.heap.size, i, none⟩ := fun i => (hB.cell (p := ⟨w.heap.size, i, none⟩) hs).trans (World.cell?_of_block (a := ⟨w.heap.size, i, none⟩) h1)
  have hf : ∀ i, wc.frozen? ⟨w.heap.size, i, none⟩ = (w.alloc (.cells #[.slice none 0 0, .slice none 0 0] t)).frozen? ⟨w.heap.size, i, none⟩ := fun i => (hB.frozen (p := ⟨w.heap.size, i, none⟩) hs).trans (World.frozen?_of_block (a := ⟨w.heap.size, i, none⟩) h1)
  exact ⟨(hc 0).trans (by simp [go_sem]), (hc 1).trans (by simp [go_sem]), (hf 0).trans (by simp [go_sem]), (hf 1).trans (by simp [go_sem])⟩
theorem prof_grown {w w1 wc : World} {b : Nat} {o : Obj} (hg : (w.alloc o).grownBy w1 (some b)) (hB : Below w1.heap.size w1 wc) : w.grownBy wc (some b) := by
  have bn := (Below.refl w.heap.size w).alloc (Nat.le_refl _) o
  have s1 : w.heap.size ≤ w1.heap.size := Nat.le_trans (by simp) hg.size
  exact ⟨hB.os.trans (hg.os.trans bn.os), hB.tape.trans (hg.tape.trans bn.tape), hB.output.trans (hg.output.trans bn.output), Nat.le_trans s1 hB.size, fun k hk hne => (hB.block k (by omega)).trans ((hg.block k (by simp; omega) hne).trans (bn.block k hk))⟩
theorem grown_more {w wc w2 : World} {b : Nat} (hg : w.grownBy wc (some b)) (hB : Below wc.heap.size wc w2) : w.grownBy w2 (some b) :=
  ⟨hB.os.trans hg.os, hB.tape.trans hg.tape, hB.output.trans hg.output, Nat.le_trans hg.size hB.size, fun k hk hne => (hB.block k (Nat.lt_of_lt_of_le hk hg.size)).trans (hg.block k hk hne)⟩
theorem off_set2 {w wr : World} {x y : Nat} (h : Off2 w wr x y) (i k : Nat) (v u : Value) : Off2 w ((wr.setCell ⟨x, i, none⟩ v).setCell ⟨y, k, none⟩ u) x y :=
  ⟨h.os, h.tape, h.output, by simpa using h.size, fun b hb h1 h2 => (Below.heap_setCell _ _ _ b h2).trans ((Below.heap_setCell _ _ _ b h1).trans (h.block b hb h1 h2))⟩
theorem prof_end {w w2 wr : World} {b X Y : Nat} (hg : w.grownBy w2 (some b)) (h : Off2 w2 wr X Y) (hx : w.heap.size ≤ X) (hy : w.heap.size ≤ Y) (v u : Value) : w.grownBy ((wr.setCell ⟨w.heap.size, 0, none⟩ v).setCell ⟨w.heap.size, 1, none⟩ u) (some b) := by
  have hs := hg.size
  exact ⟨h.os.trans hg.os, h.tape.trans hg.tape, h.output.trans hg.output, by simpa using Nat.le_trans hs h.size, fun k hk hne => (Below.heap_setCell _ _ _ k (by show k ≠ w.heap.size; omega)).trans ((Below.heap_setCell _ _ _ k (by show k ≠ w.heap.size; omega)).trans ((h.block k (by omega) (by omega) (by omega)).trans (hg.block k hk hne)))⟩
theorem own_two {wr : World} {base n c g B : Nat} {xs : List Value} (h : wr.ownsRow base 3 1 (.slice (some ⟨g, 0, none⟩) n c) n xs) (hne : g ≠ B) (v u : Value) : ((wr.setCell ⟨B, 0, none⟩ v).setCell ⟨B, 1, none⟩ u).ownsRow base 3 1 (.slice (some ⟨g, 0, none⟩) n c) n xs :=
  owns_keep (owns_keep h (Below.heap_setCell _ _ _ g hne)) (Below.heap_setCell _ _ _ g hne)
theorem off_refl (w : World) (x y : Nat) : Off2 w w x y := ⟨rfl, rfl, rfl, Nat.le_refl _, fun _ _ _ _ => rfl⟩
theorem bnew (w : World) (o : Obj) : Below w.heap.size w (w.alloc o) := (Below.refl _ _).alloc (Nat.le_refl _) o
theorem at0 (w : World) (a b c : Obj) : (((w.alloc a).alloc b).alloc c).drew.heap[w.heap.size]? = some a := by
  show (((w.alloc a).alloc b).alloc c).heap[w.heap.size]? = some a
  rw [(bnew ((w.alloc a).alloc b) c).block w.heap.size (by simp; omega), (bnew (w.alloc a) b).block w.heap.size (by simp), heap_alloc_new]
theorem at1 (w : World) (a b c : Obj) : (((w.alloc a).alloc b).alloc c).drew.heap[w.heap.size + 1]? = some b := by
  show (((w.alloc a).alloc b).alloc c).heap[w.heap.size + 1]? = some b
  rw [(bnew ((w.alloc a).alloc b) c).block (w.heap.size + 1) (by simp)]
  have := heap_alloc_new (w.alloc a) b
  rwa [World.size_alloc] at this
theorem at2 (w : World) (a b c : Obj) : (((w.alloc a).alloc b).alloc c).drew.heap[w.heap.size + 1 + 1]? = some c := by
  show (((w.alloc a).alloc b).alloc c).heap[w.heap.size + 1 + 1]? = some c
  have := heap_alloc_new ((w.alloc a).alloc b) c
  rwa [World.size_alloc, World.size_alloc] at this
theorem fresh012 (w : World) (n t : Nat) : Hid (Fresh w (((w.alloc (.cells (madeCells #[.int .i64 0] n) 3)).alloc (.cells (madeCells #[.int .i64 0] n) 3)).alloc (.cells #[.slice (some ⟨w.heap.size, 0, none⟩) n n, .slice (some ⟨(w.heap.size + 1), 0, none⟩) n n] t)).drew w.heap.size (w.heap.size + 1) (w.heap.size + 1 + 1) n) :=
  hide ⟨by simp [go_sem], by simp [go_sem], at0 _ _ _ _, at1 _ _ _ _, ((((Below.refl _ _).alloc (Nat.le_refl _) _).alloc (by simp) _).alloc (by simp; omega) _).drew, by omega, by omega, by omega, by omega, by omega, by omega⟩
theorem fresh021 (w : World) (n t : Nat) : Hid (Fresh w (((w.alloc (.cells (madeCells #[.int .i64 0] n) 3)).alloc (.cells #[.slice (some ⟨w.heap.size, 0, none⟩) n n, .slice (some ⟨(w.heap.size + 1 + 1), 0, none⟩) n n] t)).alloc (.cells (madeCells #[.int .i64 0] n) 3)).drew w.heap.size (w.heap.size + 1 + 1) (w.heap.size + 1) n) :=
  hide ⟨by simp [go_sem], by simp [go_sem], at0 _ _ _ _, at2 _ _ _ _, ((((Below.refl _ _).alloc (Nat.le_refl _) _).alloc (by simp) _).alloc (by simp; omega) _).drew, by omega, by omega, by omega, by omega, by omega, by omega⟩
theorem fresh102 (w : World) (n t : Nat) : Hid (Fresh w (((w.alloc (.cells (madeCells #[.int .i64 0] n) 3)).alloc (.cells (madeCells #[.int .i64 0] n) 3)).alloc (.cells #[.slice (some ⟨(w.heap.size + 1), 0, none⟩) n n, .slice (some ⟨w.heap.size, 0, none⟩) n n] t)).drew (w.heap.size + 1) w.heap.size (w.heap.size + 1 + 1) n) :=
  hide ⟨by simp [go_sem], by simp [go_sem], at1 _ _ _ _, at0 _ _ _ _, ((((Below.refl _ _).alloc (Nat.le_refl _) _).alloc (by simp) _).alloc (by simp; omega) _).drew, by omega, by omega, by omega, by omega, by omega, by omega⟩
theorem fresh120 (w : World) (n t : Nat) : Hid (Fresh w (((w.alloc (.cells #[.slice (some ⟨(w.heap.size + 1), 0, none⟩) n n, .slice (some ⟨(w.heap.size + 1 + 1), 0, none⟩) n n] t)).alloc (.cells (madeCells #[.int .i64 0] n) 3)).alloc (.cells (madeCells #[.int .i64 0] n) 3)).drew (w.heap.size + 1) (w.heap.size + 1 + 1) w.heap.size n) :=
  hide ⟨by simp [go_sem], by simp [go_sem], at1 _ _ _ _, at2 _ _ _ _, ((((Below.refl _ _).alloc (Nat.le_refl _) _).alloc (by simp) _).alloc (by simp; omega) _).drew, by omega, by omega, by omega, by omega, by omega, by omega⟩
theorem fresh201 (w : World) (n t : Nat) : Hid (Fresh w (((w.alloc (.cells (madeCells #[.int .i64 0] n) 3)).alloc (.cells #[.slice (some ⟨(w.heap.size + 1 + 1), 0, none⟩) n n, .slice (some ⟨w.heap.size, 0, none⟩) n n] t)).alloc (.cells (madeCells #[.int .i64 0] n) 3)).drew (w.heap.size + 1 + 1) w.heap.size (w.heap.size + 1) n) :=
  hide ⟨by simp [go_sem], by simp [go_sem], at2 _ _ _ _, at0 _ _ _ _, ((((Below.refl _ _).alloc (Nat.le_refl _) _).alloc (by simp) _).alloc (by simp; omega) _).drew, by omega, by omega, by omega, by omega, by omega, by omega⟩
theorem fresh210 (w : World) (n t : Nat) : Hid (Fresh w (((w.alloc (.cells #[.slice (some ⟨(w.heap.size + 1 + 1), 0, none⟩) n n, .slice (some ⟨(w.heap.size + 1), 0, none⟩) n n] t)).alloc (.cells (madeCells #[.int .i64 0] n) 3)).alloc (.cells (madeCells #[.int .i64 0] n) 3)).drew (w.heap.size + 1 + 1) (w.heap.size + 1) w.heap.size n) :=
  hide ⟨by simp [go_sem], by simp [go_sem], at2 _ _ _ _, at1 _ _ _ _, ((((Below.refl _ _).alloc (Nat.le_refl _) _).alloc (by simp) _).alloc (by simp; omega) _).drew, by omega, by omega, by omega, by omega, by omega, by omega⟩

set_option maxHeartbeats 4000000 in
set_option maxRecDepth 100000 in
theorem profile_any {w : World} {b n nn : Nat} {f : Dem} (h : MO w b n nn f) (hn : n ≤ 1000) (hnn : nn ≤ 1000000) :
    Calls Try.prog 57 #[.map (some b), .int .i64 (n : Int)] w fun e w' => ∃ x y, e = .returned (.agg #[.slice (some ⟨x, 0, none⟩) n n, .slice (some ⟨y, 0, none⟩) n n]) ∧ x ≠ y ∧ w.grownBy w' (some b) ∧
      w'.ownsRow w.heap.size 3 1 (.slice (some ⟨x, 0, none⟩) n n) n (ints (f.asked.picks n)) ∧ w'.ownsRow w.heap.size 3 1 (.slice (some ⟨y, 0, none⟩) n n) n (ints (f.asked.flow n)) := by
  have hmk := makeI_run n (by omega)
  have hbl := h.lt
  have t0 := tally0
  have t1 := tally1
  have HO := hide (drop_any (h.keep (w' := w.alloc (.cells #[.slice none 0 0, .slice none 0 0] 40)) (((Below.refl _ _).alloc (Nat.le_refl _) _).block b h.lt)) hn hnn)
  clear h
  go_enter Try.func57, Try.ntmps57
  go_upto_region 2 with (go_at_call 62; refine HO.out.mono ?_; rintro e w1 ⟨rfl, hm1, hg1⟩)
  go_cut [5] (fun s5 wc => ∃ X Y Z, s5 = .pointer (some ⟨Z, 0, none⟩) ∧ Hid (Fresh w1 wc X Y Z n))
  case first =>
    go_region
    all_goals
      go_wp2_with fail
      go_meet
      case rel =>
        first
        | exact ⟨_, _, _, rfl, fresh012 _ _ _⟩
        | exact ⟨_, _, _, rfl, fresh021 _ _ _⟩
        | exact ⟨_, _, _, rfl, fresh102 _ _ _⟩
        | exact ⟨_, _, _, rfl, fresh120 _ _ _⟩
        | exact ⟨_, _, _, rfl, fresh201 _ _ _⟩
        | exact ⟨_, _, _, rfl, fresh210 _ _ _⟩
  case rest =>
    obtain ⟨X, Y, Z, rfl, HF⟩ := hcut
    have hF := HF.out
    have sz1 : w.heap.size + 1 ≤ w1.heap.size := by simpa using hg1.size
    have hlX : X < wc.heap.size := (Array.getElem?_eq_some_iff.1 hF.x).1
    have hlY : Y < wc.heap.size := (Array.getElem?_eq_some_iff.1 hF.y).1
    have hlZ : Z < wc.heap.size := World.block_lt_of_cell? wc _ hF.c0
    have hmc := hm1.below hF.below
    have HO2 := hide (inOrder_any hmc hnn)
    have HMC := hide hmc
    obtain ⟨r0, r1, r2, r3⟩ := prof_res hg1 hbl hF.below (by omega)
    have HG0 := hide (prof_grown hg1 hF.below)
    have lx := hF.lx
    have lx' : w.heap.size ≤ X := by omega
    have ly' : w.heap.size ≤ Y := by have := hF.ly; omega
    have ly := hF.ly
    have lz := hF.lz
    have xy := hF.xy
    have xz := hF.xz
    have yz := hF.yz
    have q0 := hF.c0
    have q1 := hF.c1
    have hkl := keys_len f.asked n
    have HX := hide (own_made_at (base := w.heap.size) hF.x (by omega) (by omega))
    have HY := hide (own_made_at (base := w.heap.size) hF.y (by omega) (by omega))
    clear hm1 hg1 hmc hF HF HO hmk
    generalize hFF : f.asked = F at *
    have HFF := hide hFF
    clear hFF
    go_wp2_with (go_at_call 63; refine HO2.out.mono ?_; rintro e w2 ⟨v, rfl, hb2, own2⟩; obtain ⟨a, cap, rfl⟩ := own_rowM own2)
    have HOW := hide own2
    have HM2 := hide (HMC.out.below hb2)
    have HX2 := hide (owns_keep HX.out (hb2.block X hlX))
    have HY2 := hide (owns_keep HY.out (hb2.block Y hlY))
    have sz2 := hb2.size
    obtain ⟨hc2, hf2⟩ := bcell hb2
    have Q0 := (hc2 _ _ hlZ).trans q0
    have Q1 := (hc2 _ _ hlZ).trans q1
    have R0 := (hc2 _ _ (by omega)).trans r0
    have R1 := (hc2 _ _ (by omega)).trans r1
    have R2 := (hf2 _ _ (by omega)).trans r2
    have R3 := (hf2 _ _ (by omega)).trans r3
    have HG2 := hide (grown_more HG0.out hb2)
    generalize hK : (F.keys n).length = K at *
    have HK := hide hK
    clear own2 HO2 hK q0 q1 r0 r1 r2 r3 hc2 hf2 HX HY HMC HG0
    go_loopw [7, 18] (fun _ s wr => ∃ j : Nat, s = .int .i64 j ∧ j ≤ K ∧ wr.ownsRow w.heap.size 3 1 (.slice (some ⟨X, 0, none⟩) n n) n (ints (rowOf (fun i => (F.get i).1) ((F.keys n).take j) n)) ∧ wr.ownsRow w.heap.size 3 1 (.slice (some ⟨Y, 0, none⟩) n n) n (ints (rowOf (fun i => (F.get i).2) ((F.keys n).take j) n)) ∧ Off2 w2 wr X Y) (fun _ s _ => K - (intOf s).toNat)
    case atStart => exact ⟨0, rfl, Nat.zero_le _, by rw [List.take_zero, rowOf_nil]; exact HX2.out, by rw [List.take_zero, rowOf_nil]; exact HY2.out, off_refl _ _ _⟩
    case round =>
      obtain ⟨j, rfl, hj, hoX, hoY, hoff⟩ := hrel
      have cel : ∀ B i, B < w2.heap.size → B ≠ X → B ≠ Y → wr.cell? ⟨B, i, none⟩ = w2.cell? ⟨B, i, none⟩ := fun B i h1 h2 h3 => World.cell?_of_block (w := w2) (a := ⟨B, i, none⟩) (hoff.block B h1 h2 h3)
      have fro : ∀ B i, B < w2.heap.size → B ≠ X → B ≠ Y → wr.frozen? ⟨B, i, none⟩ = w2.frozen? ⟨B, i, none⟩ := fun B i h1 h2 h3 => World.frozen?_of_block (w := w2) (a := ⟨B, i, none⟩) (hoff.block B h1 h2 h3)
      by_cases hlt : j < K
      · obtain ⟨g, rfl, hg0, hg1, c1⟩ := own_cellM HOW.out HK.out hlt
        have hq := key_at (f := F) (n := n) (j := j) (by rw [HK.out]; exact hlt)
        have htk := take_key (f := F) (n := n) (j := j) (by rw [HK.out]; exact hlt)
        have c1' := (cel g j hg1 (by omega) (by omega)).trans c1
        generalize (F.keys n).getD j 0 = q at *
        have j0 : (0 : Int) ≤ (j : Int) := by omega
        have j1 : (j : Int) < (K : Int) := by omega
        have i0 : (0 : Int) ≤ (q : Int) := by omega
        have i1 : (q : Int) < (n : Int) := by omega
        have S0 := (cel Z 0 (by omega) (by omega) (by omega)).trans Q0
        have S1 := (cel Z 1 (by omega) (by omega) (by omega)).trans Q1
        have hmr := HM2.out.keep (hoff.block b (by omega) (by omega) (by omega))
        have hl1 := hmr.look (i := q) (by omega)
        have hl2 := (hmr.keep (w' := wr.setCell ⟨X, q, none⟩ (.int .i64 (F.get q).1)) (Below.heap_setCell wr _ _ b (by show b ≠ X; omega))).look (i := q) (by omega)
        have d0 : wr.cell? ⟨X, q, none⟩ = some (.int .i64 ((rowOf (fun i => (F.get i).1) ((F.keys n).take j) n).getD q 0)) := by rw [hoX.cellAt q (by omega), ints_get _ q (by rw [rowOf_len]; exact hq)]
        have d1 : wr.cell? ⟨Y, q, none⟩ = some (.int .i64 ((rowOf (fun i => (F.get i).2) ((F.keys n).take j) n).getD q 0)) := by rw [hoY.cellAt q (by omega), ints_get _ q (by rw [rowOf_len]; exact hq)]
        have g0 := hoX.frozenAt q
        have g1 := hoY.frozenAt q
        obtain ⟨st1, _⟩ := hoX.stored q (.int .i64 (F.get q).1)
        rw [ints_set, rowOf_step (fun i => (F.get i).1), ← htk] at st1
        have hoY' := owns_keep hoY (Below.heap_setCell wr ⟨X, q, none⟩ (.int .i64 (F.get q).1) Y (by show Y ≠ X; omega))
        obtain ⟨st2, _⟩ := hoY'.stored q (.int .i64 (F.get q).2)
        rw [ints_set, rowOf_step (fun i => (F.get i).2), ← htk] at st2
        have HST1 := hide (owns_keep st1 (Below.heap_setCell (wr.setCell ⟨X, q, none⟩ (.int .i64 (F.get q).1)) ⟨Y, q, none⟩ (.int .i64 (F.get q).2) X (by show X ≠ Y; omega)))
        have HST2 := hide st2
        have HOF := hide (off_set2 hoff q q (.int .i64 (F.get q).1) (.int .i64 (F.get q).2))
        have e1 : ¬ X = Z := by omega
        have e2 : ¬ X = Y := by omega
        have e3 : ¬ Y = Z := by omega
        generalize (rowOf (fun i => (F.get i).1) ((F.keys n).take j) n).getD q 0 = o1 at d0
        generalize (rowOf (fun i => (F.get i).2) ((F.keys n).take j) n).getD q 0 = o2 at d1
        clear st1 st2 hoX hoY hoY' hoff cel fro c1 hmr htk
        generalize (F.get q).1 = p at *
        generalize (F.get q).2 = y at *
        go_wp2_with fail
        go_roundw
        case rel => exact ⟨j + 1, by go_num, by omega, HST1.out, HST2.out, HOF.out⟩
        case measure => simp only [intOf]; omega
      · have hje : j = K := by omega
        subst hje
        rw [← HK.out, List.take_length, rowOf_picks] at hoX
        rw [← HK.out, List.take_length, rowOf_flow] at hoY
        have S0 := (cel Z 0 (by omega) (by omega) (by omega)).trans Q0
        have S1 := (cel Z 1 (by omega) (by omega) (by omega)).trans Q1
        have U0 := (cel w.heap.size 0 (by omega) (by omega) (by omega)).trans R0
        have U1 := (cel w.heap.size 1 (by omega) (by omega) (by omega)).trans R1
        have U2 := (fro w.heap.size 0 (by omega) (by omega) (by omega)).trans R2
        have U3 := (fro w.heap.size 1 (by omega) (by omega) (by omega)).trans R3
        have HOX := hide hoX
        have HOY := hide hoY
        have HOF := hide hoff
        clear hoX hoY hoff cel fro Q0 Q1 R0 R1 R2 R3
        go_wp2_with fail
        refine bodyPost_ret (v := .agg #[.slice (some ⟨X, 0, none⟩) n n, .slice (some ⟨Y, 0, none⟩) n n]) (by simp [results, Try.results57, go_sem, U0, U1]) rfl ⟨X, Y, rfl, xy, ?_, ?_, ?_⟩
        · exact prof_end HG2.out HOF.out lx' ly' _ _
        · rw [HFF.out]; exact own_two (B := w.heap.size) HOX.out (by omega) _ _
        · rw [HFF.out]; exact own_two (B := w.heap.size) HOY.out (by omega) _ _
end Go.Proofs.Ytogkbidphdpjaaa
