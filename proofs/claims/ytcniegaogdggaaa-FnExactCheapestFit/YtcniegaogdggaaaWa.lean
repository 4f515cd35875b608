/-
  A search in a variable: three lists, and two rows of ten.
-/
import Derived.Test.YtcniegaogdggaaaKm
import Derived.Test.YtcniegaogdggaaaQu
namespace Go.Proofs.Ytcniegaogdggaaa
open Go.RowKit

def sl9 (v0 v1 v2 : Value) (xs ys : List Int) : List Value := [v0, v1, v2] ++ (ints xs ++ ints ys)
theorem sl9_len {v0 v1 v2 : Value} {xs ys : List Int} (hx : xs.length = 10) (hy : ys.length = 10) : (sl9 v0 v1 v2 xs ys).length = 23 := by simp [sl9, ints_len, hx, hy]
theorem sl9_x {v0 v1 v2 : Value} {xs ys : List Int} {i : Nat} (hi : i < xs.length) : (sl9 v0 v1 v2 xs ys)[3 + i]? = some (.int .i64 (xs.getD i 0)) := by
  unfold sl9
  rw [List.getElem?_append_right (by simp), show 3 + i - [v0, v1, v2].length = i by simp, List.getElem?_append_left (by rw [ints_len]; exact hi), ints_get xs i hi]
theorem sl9_y {v0 v1 v2 : Value} {xs ys : List Int} {i : Nat} (hx : xs.length = 10) (hi : i < ys.length) : (sl9 v0 v1 v2 xs ys)[13 + i]? = some (.int .i64 (ys.getD i 0)) := by
  unfold sl9
  rw [List.getElem?_append_right (by simp; omega), List.getElem?_append_right (by rw [ints_len]; simp; omega), ints_len, hx, show 13 + i - [v0, v1, v2].length - 10 = i by simp; omega, ints_get ys i hi]
theorem sl9_setx {v0 v1 v2 : Value} {xs ys : List Int} {k : Nat} (x : Int) (hk : k < xs.length) : (sl9 v0 v1 v2 xs ys).set (3 + k) (.int .i64 x) = sl9 v0 v1 v2 (xs.set k x) ys := by
  unfold sl9
  rw [List.set_append_right _ _ (by simp), show 3 + k - [v0, v1, v2].length = k by simp, List.set_append_left _ _ (by rw [ints_len]; exact hk), ints_set]
theorem sl9_sety {v0 v1 v2 : Value} {xs ys : List Int} {k : Nat} (y : Int) (hx : xs.length = 10) : (sl9 v0 v1 v2 xs ys).set (13 + k) (.int .i64 y) = sl9 v0 v1 v2 xs (ys.set k y) := by
  unfold sl9
  rw [List.set_append_right _ _ (by simp; omega), List.set_append_right _ _ (by rw [ints_len]; simp; omega), ints_len, hx, show 13 + k - [v0, v1, v2].length - 10 = k by simp; omega, ints_set]
theorem infS9 : (Try.prog.info? 81).map (·.size) = some 23 := by kernel_rfl
/-- A search in a variable of its own. -/
structure SV (w : World) (b : Nat) (v0 v1 v2 : Value) (xs ys : List Int) : Prop where
  lx : xs.length = 10
  ly : ys.length = 10
  lt : b < w.heap.size
  cs : ∀ i, i < 23 → w.cell? ⟨b, i, none⟩ = (sl9 v0 v1 v2 xs ys)[i]?
  fz : ∀ i, i < 23 → w.frozen? ⟨b, i, none⟩ = false
  o0 : v0.oneCell' = true
  o1 : v1.oneCell' = true
  o2 : v2.oneCell' = true
theorem SV.new (w : World) {v0 v1 v2 : Value} {xs ys : List Int} (hx : xs.length = 10) (hy : ys.length = 10) (h0 : v0.oneCell' = true) (h1 : v1.oneCell' = true) (h2 : v2.oneCell' = true) (t : TypeId) : SV (w.alloc (.cells (sl9 v0 v1 v2 xs ys).toArray t)) w.heap.size v0 v1 v2 xs ys := by
  have h := heap_alloc_last w (.cells (sl9 v0 v1 v2 xs ys).toArray t)
  refine ⟨hx, hy, by simp, fun i hi => ?_, fun i hi => by unfold World.frozen?; rw [h]; simp, h0, h1, h2⟩
  rw [cell_of_row _ _ _ _ _ _ h]
  simp
theorem SV.keep {w w' : World} {b : Nat} {v0 v1 v2 : Value} {xs ys : List Int} (h : SV w b v0 v1 v2 xs ys) (hs : w.heap.size ≤ w'.heap.size) (hb : w'.heap[b]? = w.heap[b]?) : SV w' b v0 v1 v2 xs ys :=
  ⟨h.lx, h.ly, Nat.lt_of_lt_of_le h.lt hs, fun i hi => (World.cell?_of_block (w := w) (a := ⟨b, i, none⟩) hb).trans (h.cs i hi), fun i hi => (World.frozen?_of_block (w := w) (a := ⟨b, i, none⟩) hb).trans (h.fz i hi), h.o0, h.o1, h.o2⟩
theorem SV.below {w w' : World} {b : Nat} {v0 v1 v2 : Value} {xs ys : List Int} (h : SV w b v0 v1 v2 xs ys) (hb : Below w.heap.size w w') : SV w' b v0 v1 v2 xs ys := h.keep hb.size (hb.block b h.lt)
theorem SV.c0 {w : World} {b : Nat} {v0 v1 v2 : Value} {xs ys : List Int} (h : SV w b v0 v1 v2 xs ys) : w.cell? ⟨b, 0, none⟩ = some v0 := h.cs 0 (by omega)
theorem SV.c1 {w : World} {b : Nat} {v0 v1 v2 : Value} {xs ys : List Int} (h : SV w b v0 v1 v2 xs ys) : w.cell? ⟨b, 1, none⟩ = some v1 := h.cs 1 (by omega)
theorem SV.c2 {w : World} {b : Nat} {v0 v1 v2 : Value} {xs ys : List Int} (h : SV w b v0 v1 v2 xs ys) : w.cell? ⟨b, 2, none⟩ = some v2 := h.cs 2 (by omega)
theorem SV.x {w : World} {b : Nat} {v0 v1 v2 : Value} {xs ys : List Int} (h : SV w b v0 v1 v2 xs ys) {i : Nat} (hi : i < 10) : w.cell? ⟨b, 3 + i, none⟩ = some (.int .i64 (xs.getD i 0)) := by
  rw [h.cs (3 + i) (by omega), sl9_x (by rw [h.lx]; exact hi)]
theorem SV.y {w : World} {b : Nat} {v0 v1 v2 : Value} {xs ys : List Int} (h : SV w b v0 v1 v2 xs ys) {i : Nat} (hi : i < 10) : w.cell? ⟨b, 13 + i, none⟩ = some (.int .i64 (ys.getD i 0)) := by
  rw [h.cs (13 + i) (by omega), sl9_y h.lx (by rw [h.ly]; exact hi)]
theorem set_cells {w : World} {b k : Nat} {l : List Value} (v : Value) (hl : k < l.length) (h : ∀ i, i < l.length → w.cell? ⟨b, i, none⟩ = l[i]?) : ∀ i, i < l.length → (w.setCell ⟨b, k, none⟩ v).cell? ⟨b, i, none⟩ = (l.set k v)[i]? := by
  intro i hi
  by_cases e : i = k
  · subst e
    rw [List.getElem?_set_self hl]
    exact World.cell?_setCell_same _ _ _ ((h i hi).trans (List.getElem?_eq_getElem hi))
  · rw [List.getElem?_set_ne (Ne.symm e), World.cell?_setCell_other _ _ _ _ (by intro h; cases h; exact e rfl)]
    exact h i hi
theorem SV.setx {w : World} {b : Nat} {v0 v1 v2 : Value} {xs ys : List Int} (h : SV w b v0 v1 v2 xs ys) {k : Nat} (hk : k < 10) (x : Int) : SV (w.setCell ⟨b, 3 + k, none⟩ (.int .i64 x)) b v0 v1 v2 (xs.set k x) ys := by
  have hl := sl9_len (v0 := v0) (v1 := v1) (v2 := v2) h.lx h.ly
  have := set_cells (.int .i64 x) (k := 3 + k) (by rw [hl]; omega) (fun i hi => h.cs i (by rw [← hl]; exact hi))
  rw [sl9_setx x (by rw [h.lx]; exact hk), hl] at this
  exact ⟨by simpa using h.lx, h.ly, by simpa using h.lt, this, fun i hi => by simpa using h.fz i hi, h.o0, h.o1, h.o2⟩
theorem SV.sety {w : World} {b : Nat} {v0 v1 v2 : Value} {xs ys : List Int} (h : SV w b v0 v1 v2 xs ys) {k : Nat} (hk : k < 10) (y : Int) : SV (w.setCell ⟨b, 13 + k, none⟩ (.int .i64 y)) b v0 v1 v2 xs (ys.set k y) := by
  have hl := sl9_len (v0 := v0) (v1 := v1) (v2 := v2) h.lx h.ly
  have := set_cells (.int .i64 y) (k := 13 + k) (by rw [hl]; omega) (fun i hi => h.cs i (by rw [← hl]; exact hi))
  rw [sl9_sety y h.lx, hl] at this
  exact ⟨h.lx, by simpa using h.ly, by simpa using h.lt, this, fun i hi => by simpa using h.fz i hi, h.o0, h.o1, h.o2⟩
theorem SV.set0 {w : World} {b : Nat} {v0 v1 v2 : Value} {xs ys : List Int} (h : SV w b v0 v1 v2 xs ys) {v : Value} (hv : v.oneCell' = true) : SV (w.setCell ⟨b, 0, none⟩ v) b v v1 v2 xs ys := by
  have hl := sl9_len (v0 := v0) (v1 := v1) (v2 := v2) h.lx h.ly
  have := set_cells v (k := 0) (by rw [hl]; omega) (fun i hi => h.cs i (by rw [← hl]; exact hi))
  rw [hl] at this
  exact ⟨h.lx, h.ly, by simpa using h.lt, this, fun i hi => by simpa using h.fz i hi, hv, h.o1, h.o2⟩
theorem SV.set1 {w : World} {b : Nat} {v0 v1 v2 : Value} {xs ys : List Int} (h : SV w b v0 v1 v2 xs ys) {v : Value} (hv : v.oneCell' = true) : SV (w.setCell ⟨b, 1, none⟩ v) b v0 v v2 xs ys := by
  have hl := sl9_len (v0 := v0) (v1 := v1) (v2 := v2) h.lx h.ly
  have := set_cells v (k := 1) (by rw [hl]; omega) (fun i hi => h.cs i (by rw [← hl]; exact hi))
  rw [hl] at this
  exact ⟨h.lx, h.ly, by simpa using h.lt, this, fun i hi => by simpa using h.fz i hi, h.o0, hv, h.o2⟩
theorem SV.set2 {w : World} {b : Nat} {v0 v1 v2 : Value} {xs ys : List Int} (h : SV w b v0 v1 v2 xs ys) {v : Value} (hv : v.oneCell' = true) : SV (w.setCell ⟨b, 2, none⟩ v) b v0 v1 v xs ys := by
  have hl := sl9_len (v0 := v0) (v1 := v1) (v2 := v2) h.lx h.ly
  have := set_cells v (k := 2) (by rw [hl]; omega) (fun i hi => h.cs i (by rw [← hl]; exact hi))
  rw [hl] at this
  exact ⟨h.lx, h.ly, by simpa using h.lt, this, fun i hi => by simpa using h.fz i hi, h.o0, h.o1, hv⟩
theorem SV.range {w : World} {b : Nat} {v0 v1 v2 : Value} {xs ys : List Int} (h : SV w b v0 v1 v2 xs ys) : w.rangeAt b 0 (sl9 v0 v1 v2 xs ys) := fun j v hv => by
  have hj : j < 23 := by have := (List.getElem?_eq_some_iff.1 hv).1; rwa [sl9_len h.lx h.ly] at this
  rw [Nat.zero_add, h.cs j hj]; exact hv
theorem SV.there {w : World} {b : Nat} {v0 v1 v2 : Value} {xs ys : List Int} (h : SV w b v0 v1 v2 xs ys) : w.there b 0 23 := fun j hj => by
  rw [Nat.zero_add]
  refine ⟨?_, h.fz j hj⟩
  rw [h.cs j hj, List.getElem?_eq_getElem (by rw [sl9_len h.lx h.ly]; exact hj)]; rfl
theorem SV.loadVar {w : World} {b : Nat} {v0 v1 v2 : Value} {xs ys : List Int} (h : SV w b v0 v1 v2 xs ys) : (loadVar 81 ⟨b, 0, none⟩).run Try.prog w = .ok (.agg (sl9 v0 v1 v2 xs ys).toArray) w :=
  run_loadVar_mid w b 0 81 (sl9 v0 v1 v2 xs ys) _ h.range Try.underlying81 rfl (by rw [sl9_len h.lx h.ly]; exact infS9)
theorem SV.loads {w : World} {b : Nat} {v0 v1 v2 : Value} {xs ys : List Int} (h : SV w b v0 v1 v2 xs ys) : (Instr.loadAt 81 (.pointer (some ⟨b, 0, none⟩))).run Try.prog w = .ok (.agg (sl9 v0 v1 v2 xs ys).toArray) w :=
  run_loadAt_mid w b 0 81 (sl9 v0 v1 v2 xs ys) _ h.range Try.underlying81 rfl (by rw [sl9_len h.lx h.ly]; exact infS9)
theorem ws_load {ops : Array Oper} {rest : List Oper} {op : Oper} {a : Act} {w : World} {Q : Exit → Act → World → Prop} {b : Nat} {v0 v1 v2 : Value} {xs ys : List Int} (hgd : op.guard = none) (x : Operand) (ho : op.op = .load 81 x) (hx : a.eval x = .pointer (some ⟨b, 0, none⟩)) (h : Hid (SV w b v0 v1 v2 xs ys))
    (hk : wpList Try.prog ops Q rest (a.put op.dst (.agg (sl9 v0 v1 v2 xs ys).toArray)) w) : wpList Try.prog ops Q (op :: rest) a w :=
  wpList_load_mid hgd 81 x ho b 0 hx (sl9 v0 v1 v2 xs ys) _ h.out.range Try.underlying81 rfl (by rw [sl9_len h.out.lx h.out.ly]; exact infS9) hk
theorem sl9_one {v0 v1 v2 : Value} {xs ys : List Int} (h0 : v0.oneCell' = true) (h1 : v1.oneCell' = true) (h2 : v2.oneCell' = true) : ∀ v ∈ sl9 v0 v1 v2 xs ys, v.oneCell' = true := by
  intro v hv
  simp only [sl9, List.mem_append, List.mem_cons, List.not_mem_nil, or_false] at hv
  rcases hv with (rfl | rfl | rfl) | h | h
  · exact h0
  · exact h1
  · exact h2
  · exact c_ints _ v h
  · exact c_ints _ v h
theorem ws_store {ops : Array Oper} {rest : List Oper} {op : Oper} {a : Act} {w : World} {Q : Exit → Act → World → Prop} {b : Nat} {v0 v1 v2 u0 u1 u2 : Value} {xs ys zs ts : List Int} (hgd : op.guard = none) (x y : Operand) (ho : op.op = .store 81 x y) (hx : a.eval x = .pointer (some ⟨b, 0, none⟩)) (hy : a.eval y = .agg (sl9 u0 u1 u2 zs ts).toArray) (h : Hid (SV w b v0 v1 v2 xs ys)) (lz : zs.length = 10) (lt : ts.length = 10) (h0 : u0.oneCell' = true) (h1 : u1.oneCell' = true) (h2 : u2.oneCell' = true)
    (hk : ∀ w', SV w' b u0 u1 u2 zs ts → Turn9 b w w' → wpList Try.prog ops Q rest (a.put op.dst undef) w') : wpList Try.prog ops Q (op :: rest) a w := by
  have hs : (sl9 u0 u1 u2 zs ts).toArray.size = 23 := by simp [sl9_len lz lt]
  refine wpList_store_mid hgd 81 x y ho b 0 (sl9 u0 u1 u2 zs ts).toArray hx hy (by rw [hs]; exact h.out.there) (by rw [hs]; exact infS9) (all_oneCell_toArray (sl9_one h0 h1 h2)) ?_
  have ht := turn_cells9 w b 0 (sl9 u0 u1 u2 zs ts)
  refine hk _ ⟨lz, lt, by rw [ht.1]; exact h.out.lt, fun i hi => ?_, fun i hi => by rw [World.frozen?_setCells]; exact h.out.fz i hi, h0, h1, h2⟩ ht
  have hi' : i < (sl9 u0 u1 u2 zs ts).length := by rw [sl9_len lz lt]; exact hi
  have := World.rangeAt_setCells_same w b 0 (sl9 u0 u1 u2 zs ts) (by rw [sl9_len lz lt]; exact h.out.there) i _ (List.getElem?_eq_getElem hi')
  rw [Nat.zero_add] at this
  rw [this, List.getElem?_eq_getElem hi']
theorem res_search {fn : Func} {p : Tmp} {tmps : Array Value} {w : World} {b : Nat} {v0 v1 v2 : Value} {xs ys : List Int} (h : fn.results = #[.cell p 81]) (hp : tmps.getD p undef = .pointer (some ⟨b, 0, none⟩)) (A : SV w b v0 v1 v2 xs ys) : (results fn tmps).run Try.prog w = .ok (.agg (sl9 v0 v1 v2 xs ys).toArray) w := by
  have hp' : tmps[p]?.getD undef = .pointer (some ⟨b, 0, none⟩) := by simpa using hp
  simp [results, h, hp', asAddr, A.loadVar]
theorem zsl_new (w : World) (t : TypeId) : SV (w.alloc (.cells #[.slice none 0 0, .slice none 0 0, .slice none 0 0, .int .i64 0, .int .i64 0, .int .i64 0, .int .i64 0, .int .i64 0, .int .i64 0, .int .i64 0, .int .i64 0, .int .i64 0, .int .i64 0, .int .i64 0, .int .i64 0, .int .i64 0, .int .i64 0, .int .i64 0, .int .i64 0, .int .i64 0, .int .i64 0, .int .i64 0, .int .i64 0] t)) w.heap.size (.slice none 0 0) (.slice none 0 0) (.slice none 0 0) z10 z10 :=
  SV.new w (v0 := .slice none 0 0) (v1 := .slice none 0 0) (v2 := .slice none 0 0) (xs := z10) (ys := z10) rfl rfl rfl rfl rfl t
end Go.Proofs.Ytcniegaogdggaaa
