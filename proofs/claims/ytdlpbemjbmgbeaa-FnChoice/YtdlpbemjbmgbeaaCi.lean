/-
  What fillRow of the program does and answers: the row holds the best table, and the answer the tables ahead of each offer.
-/
import Derived.Test.YtdlpbemjbmgbeaaCh
namespace Go.Proofs.Ytdlpbemjbmgbeaa
open Go.RowKit

/-- The tables ahead of each offer. -/
def tabs (L : List (List Int)) (P : Nat) : List (List Int) := (List.range L.length).map fun k => Of.tab (L.take k) P
theorem tabs_len (L : List (List Int)) (P : Nat) : (tabs L P).length = L.length := by simp [tabs]
theorem tabs_at (L : List (List Int)) (P : Nat) {k : Nat} (h : k < L.length) : (tabs L P).getD k [] = Of.tab (L.take k) P := by simp [tabs, h]
def mix (new old : List Int) (t : Nat) : List Int := (List.range old.length).map fun i => if i < t then new.getD i 0 else old.getD i 0
theorem mix_zero (new old : List Int) : mix new old 0 = old := by
  apply List.ext_getElem
  · simp [mix]
  · intro i h1 h2
    simp [mix, h2]
theorem mix_all {new old : List Int} {n : Nat} (h : new.length = old.length) (hn : old.length = n) : mix new old n = new := by
  subst hn
  apply List.ext_getElem
  · simp [mix, h]
  · intro i h1 h2
    have h3 : i < old.length := by omega
    simp [mix, h2, h3]
theorem mix_len (new old : List Int) (t : Nat) : (mix new old t).length = old.length := by simp [mix]
theorem mix_set {new old : List Int} {t : Nat} : (mix new old t).set t (new.getD t 0) = mix new old (t + 1) := by
  apply List.ext_getElem
  · simp [mix]
  · intro i h1 h2
    rw [List.getElem_set]
    by_cases e : t = i
    · subst e
      simp [mix]
    · simp only [e, if_false, mix, List.getElem_map, List.getElem_range]
      by_cases hi : i < t
      · simp [hi, show i < t + 1 by omega]
      · simp [hi, show ¬ i < t + 1 by omega]

theorem makeR_run (n : Nat) (hn : n ≤ 1048576) (w : World) : (Instr.makeSlice 51 (.int .i64 (n : Int)) (.int .i64 (n : Int))).run Try.prog w = .ok (.slice (some ⟨w.heap.size, 0, none⟩) n n) (w.alloc (.cells (madeCells #[.slice none 0 0] n) 26)) := by
  have h : (Try.prog.info? 26).map (fun i => (i.zero, i.size, i.bytes)) = some (some (.slice none 0 0), 1, 24) := by kernel_rfl
  obtain ⟨i, hi, hzz⟩ := Option.map_eq_some_iff.1 h
  simp only [Prod.mk.injEq] at hzz
  obtain ⟨hz, hs, hb⟩ := hzz
  have := run_make (P := Try.prog) w 51 26 i _ Try.underlying51 hi hz .i64 .i64 (n : Int) (n : Int) (by omega) (by omega) (by rw [hb]; omega) (by omega)
  simpa [hs, Value.cells] using this
theorem madeR_own (w : World) (n : Nat) (hn : n ≤ 1048576) (gs : List Nat) (L : List (List Int)) : (w.alloc (.cells (madeCells #[.slice none 0 0] n) 26)).ownsRow w.heap.size 26 1 (.slice (some ⟨w.heap.size, 0, none⟩) n n) n (ovals gs L 0 n) := by
  have h := World.ownsRow_lit (base := w.heap.size) (e := 26) (size := 1) w (madeCells #[.slice none 0 0] n) n (Nat.le_refl _) (by unfold maxLen; omega) (by simp [madeCells])
  rw [toList_madeCells_one] at h
  have e : ovals gs L 0 n = List.replicate n (.slice none 0 0) := by
    apply List.ext_getElem <;> simp [ovals]
  rw [e]
  simpa using h
theorem OSo.grown {T : TypeId} {w w' : World} {base B k m R : Nat} {gs : List Nat} {L : List (List Int)} (h : OSo T w base B gs L k m) (hg : w.grownBy w' (some R)) (hR : R < base) : OSo T w' base B gs L k m :=
  ⟨h.1, h.2.1.kept hg (Or.inr (by have := (h.2.1.lt B rfl).1; simp only [Value.ownBlock, ne_eq, Option.some.injEq]; omega)), fun i hi => (h.2.2.1 i hi).kept hg (Or.inr (by have := (h.lt (h.at_mem hi)).1; simp only [ov, Value.ownBlock, ne_eq, Option.some.injEq]; omega)), h.2.2.2⟩
theorem OSo.put {T : TypeId} {w2 : World} {base B k m g n V : Nat} {gs : List Nat} {L : List (List Int)} (h : OSo T w2 base B gs L k m) (hV : base ≤ V) (hgs : ∀ x ∈ gs, x < g) (hBg : B < g)
    (own : w2.ownsRow V 3 1 (.slice (some ⟨g, 0, none⟩) n n) n (ints (L.getD k []))) (hn : (L.getD k []).length = n) :
    OSo T (w2.setCell ⟨B, k, none⟩ (.slice (some ⟨g, 0, none⟩) n n)) base B (gs ++ [g]) L (k + 1) m := by
  obtain ⟨st1, st2⟩ := h.2.1.stored k (.slice (some ⟨g, 0, none⟩) n n)
  rw [ovals_snoc h.1 hn] at st1
  refine ⟨by simp [h.1], st1, fun i hi => ?_, ?_, ?_⟩
  · by_cases e : i = k
    · subst e
      have e1 : ov (gs ++ [g]) L i = .slice (some ⟨g, 0, none⟩) n n := by simp [ov, ← h.1, ← hn]
      rw [e1, hn]
      exact (owns_low own hV).kept st2 (Or.inr (by simp [Value.ownBlock]; omega))
    · have hi' : i < k := by omega
      have e1 : ov (gs ++ [g]) L i = ov gs L i := by simp [ov, List.getElem?_append, h.1, hi']
      rw [e1]
      have hm := h.2.2.2.2 _ (h.at_mem hi')
      exact (h.2.2.1 i hi').kept st2 (Or.inr (by simp only [ov, Value.ownBlock, ne_eq, Option.some.injEq]; omega))
  · rw [List.pairwise_append]
    refine ⟨h.2.2.2.1, by simp, fun a ha b hb' => ?_⟩
    simp at hb'
    have := hgs a ha
    omega
  · intro x hx
    rcases List.mem_append.1 hx with hx | hx
    · exact h.2.2.2.2 x hx
    · simp at hx; omega
/-- A list that is made and filled from another one. -/
theorem copy_own {w : World} {base base' R M c G : Nat} {xs ys : List Int} (hx : xs.length = M) (hR : w.ownsRow base' 3 1 (.slice (some ⟨R, 0, none⟩) M c) M (ints xs)) (hG : w.ownsRow base 3 1 (.slice (some ⟨G, 0, none⟩) M M) M (ints ys)) :
    ∃ w', (∀ ty, (Builtin.copy_ #[26, 26] ty #[.slice (some ⟨G, 0, none⟩) M M, .slice (some ⟨R, 0, none⟩) M c]).run Try.prog w = .ok (.int .i64 M) w') ∧ w'.ownsRow base 3 1 (.slice (some ⟨G, 0, none⟩) M M) M (ints xs) ∧ w.grownBy w' (some G) := by
  rcases hG.2 with ⟨h, _⟩ | ⟨g, cap, cur, hv, hb, hg, hnc, hcm, hcs, htake⟩
  · cases h
  cases hv
  have hl : (ints xs).length = M := by simp [ints, hx]
  have hsz : (Try.prog.info? 3).map (·.size) = some 1 := by kernel_rfl
  have hrun := fun ty => run_copy_row (P := Try.prog) w 26 26 ty 3 G 0 M M ⟨R, 0, none⟩ M c cur 3 (ints xs) Try.underlying26 hsz hg (by rw [hl]; simp) (fun j v hj => by
    rw [add_plain', Nat.zero_add]
    have hjl : j < M := by have := (List.getElem?_eq_some_iff.1 hj).1; omega
    rw [hR.cellAt j (by omega)]; exact hj) (by rw [hl]; omega) (c_ints _)
  obtain ⟨nw, hnw⟩ : ∃ nw, nw = (cur.toList.take 0 ++ ints xs ++ cur.toList.drop (0 + (ints xs).length)).toArray := ⟨_, rfl⟩
  rw [← hnw, hl] at hrun
  refine ⟨w.setRow G nw, hrun, ⟨by simp [ints, hx], .inr ⟨G, M, nw, rfl, hb, setRow_heap w G _ _ _ _ hg, hnc, hcm, ?_, ?_⟩⟩, ⟨rfl, rfl, rfl, by simp [World.setRow], fun k _ hne => setRow_other w G k _ (by simpa using hne)⟩⟩
  · rw [hnw]; simp [hl]; omega
  · rw [hnw]; simp [hl]
theorem wpList_copy_runX {P : Program} (w : World) {ops : Array Oper} {rest : List Oper} {o : Oper} {a : Act} {Q : Exit → Act → World → Prop} (hgd : o.guard = none) (d s : Operand) (t t' : TypeId)
    (ho : o.op = .call { callee := .builtin .copy, args := #[d, s], argTypes := #[t, t'] }) (vd vs : Value) (hd : a.eval d = vd) (hs : a.eval s = vs)
    (v' : Value) (w' : World) (hr : (Builtin.copy_ #[t, t'] o.type #[vd, vs]).run P w = .ok v' w') (h : wpList P ops Q rest (a.put o.dst v') w') : wpList P ops Q (o :: rest) a w := by
  refine wpList_plain hgd fun _ hK => ?_
  unfold Oper.wp execOp
  simp only [ho, resolve, invoke, builtin, Sem.run_bind, Sem.run_pure, Result.andThen_ok, List.map_toArray, List.map_cons, List.map_nil, hd, hs, hr]
  exact hK _ _ h
/-- What is carried through fillRow: the row, the rows made so far, the offers. -/
structure FR (w wr : World) (base R M c G P n : Nat) (gs : List Nat) (L : List (List Int)) (k : Nat) (row : List Int) : Prop where
  row : wr.ownsRow base 3 1 (.slice (some ⟨R, 0, none⟩) M c) M (ints row)
  rows : OSo 26 wr w.heap.size G gs (tabs L P) k n
  grown : w.grownBy wr (some R)
theorem FR.below {w wr w' : World} {base R M c G P n k : Nat} {gs : List Nat} {L : List (List Int)} {row : List Int} (h : FR w wr base R M c G P n gs L k row) (hb : Below wr.heap.size wr w') : FR w w' base R M c G P n gs L k row :=
  ⟨o_own h.row hb, h.rows.below hb, grown_trans h.grown (below_grown _ hb)⟩
theorem FR.store {w wr : World} {base R M c G P n k t : Nat} {gs : List Nat} {L : List (List Int)} {row row' : List Int} {x : Int} (h : FR w wr base R M c G P n gs L k row) (hR : R < w.heap.size) (he : row.set t x = row') :
    FR w (wr.setCell ⟨R, t, none⟩ (.int .i64 x)) base R M c G P n gs L k row' := by
  obtain ⟨s1, s2⟩ := h.row.stored t (.int .i64 x)
  rw [ints_set, he] at s1
  exact ⟨s1, h.rows.grown s2 hR, grown_trans h.grown s2⟩
theorem FR.put {w wr : World} {base R M c G P n k g V : Nat} {gs : List Nat} {L : List (List Int)} {row : List Int} (h : FR w wr base R M c G P n gs L k row) (hR : R < w.heap.size) (hV : w.heap.size ≤ V) (hgs : ∀ x ∈ gs, x < g) (hGg : G < g)
    (own : wr.ownsRow V 3 1 (.slice (some ⟨g, 0, none⟩) M M) M (ints ((tabs L P).getD k []))) (hn : ((tabs L P).getD k []).length = M) :
    FR w (wr.setCell ⟨G, k, none⟩ (.slice (some ⟨g, 0, none⟩) M M)) base R M c G P n (gs ++ [g]) L (k + 1) row := by
  have hG := (h.rows.2.1.lt G rfl).1
  have st := (h.rows.2.1.stored k (.slice (some ⟨g, 0, none⟩) M M)).2
  refine ⟨h.row.kept st (Or.inr (by simp [Value.ownBlock]; omega)), h.rows.put hV hgs hGg own hn, st.os.trans h.grown.os, st.tape.trans h.grown.tape, st.output.trans h.grown.output, Nat.le_trans h.grown.size st.size, fun b hb hne => ?_⟩
  exact (st.block b (Nat.lt_of_lt_of_le hb h.grown.size) (by simp; omega)).trans (h.grown.block b hb hne)
theorem FR.done {w wr : World} {base R M c G P n : Nat} {gs : List Nat} {L : List (List Int)} {row : List Int} (h : FR w wr base R M c G P n gs L n row) (hn : L.length = n) : ORow wr (some ⟨G, 0, none⟩) (tabs L P) := by
  refine Or.inr ⟨G, 0, rfl, (h.rows.2.1.lt G rfl).2, fun i hi => ⟨_, ((tabs L P).getD i []).length, ?_, arow_owns rfl (h.rows.2.2.1 i (by rw [tabs_len] at hi; omega))⟩⟩
  rw [tabs_len] at hi
  rw [Nat.zero_add, h.rows.2.1.cellAt i (by omega)]
  simp [ovals, hn ▸ hi, ov]
theorem ORowX.at {R : Nat} {w : World} {a : Option Addr} {L : List (List Int)} (h : ORowX R w a L) {i : Nat} (hi : i < L.length) : ∃ b off ai ci, a = some ⟨b, off, none⟩ ∧ b < w.heap.size ∧ w.cell? ⟨b, off + i, none⟩ = some (.slice ai (L.getD i []).length ci) ∧ ARowX R w ai (L.getD i []) := by
  rcases h with h | ⟨b, off, ha, hl, _, hc⟩
  · rw [h] at hi; simp at hi
  · obtain ⟨ai, ci, h1, h2⟩ := hc i hi
    exact ⟨b, off, ai, ci, ha, hl, h1, h2⟩
/-- The offer at hand, and the row as it was ahead of it. -/
structure FI (wi : World) (V R M m ci : Nat) (ai : Option Addr) (o old : List Int) : Prop where
  ahead : wi.ownsRow V 3 1 (.slice (some ⟨V + 1, 0, none⟩) M M) M (ints old)
  off : wi.cell? ⟨V, 0, none⟩ = some (.slice ai m ci)
  lst : ARowX R wi ai o
  lt : V + 1 < wi.heap.size
theorem FI.grown {wi w' : World} {V R M m ci : Nat} {ai : Option Addr} {o old : List Int} (h : FI wi V R M m ci ai o old) (hg : wi.grownBy w' (some R)) (hR : R < V) : FI w' V R M m ci ai o old :=
  ⟨h.ahead.kept hg (Or.inr (by simp [Value.ownBlock]; omega)), (World.cell?_of_block (a := ⟨V, 0, none⟩) (hg.block V (by have := h.lt; omega) (by simp; omega))).trans h.off, h.lst.grown hg, Nat.lt_of_lt_of_le h.lt hg.size⟩
end Go.Proofs.Ytdlpbemjbmgbeaa
