/-
  Lists of lists of yes and no that a call makes.
-/
import Derived.Test.YtcniegaogdggaaaJc
import Derived.Test.YtcniegaogdggaaaQw0
namespace Go.Proofs.Ytcniegaogdggaaa
open Go.RowKit

def rvb9 (n : Nat) (g : Nat × Nat) : Value := .slice (some ⟨g.1, 0, none⟩) n g.2
def valsb9 (n : Nat) (gs : List (Nat × Nat)) : List Value := gs.map (rvb9 n)
theorem valsb9_snoc (n : Nat) (gs : List (Nat × Nat)) (g : Nat × Nat) : valsb9 n (gs ++ [g]) = valsb9 n gs ++ [rvb9 n g] := by simp [valsb9]
theorem valsb9_get (n : Nat) (gs : List (Nat × Nat)) {i : Nat} (h : i < gs.length) : (valsb9 n gs)[i]? = some (rvb9 n (gs.getD i (0, 0))) := by simp [valsb9, h]
/-- Lists of n numbers each, in a list, all of them owned, no two in one block. -/
def NOb9 (w : World) (base n m : Nat) (v : Value) (gs : List (Nat × Nat)) (L : List (List Bool)) : Prop :=
  gs.length = m ∧ L.length = m ∧ w.ownsRow base 71 1 v m (valsb9 n gs) ∧ (∀ i, i < m → (L.getD i []).length = n ∧ w.ownsRow base 4 1 (rvb9 n (gs.getD i (0, 0))) n (bls (L.getD i []))) ∧
    (gs.map Prod.fst).Nodup ∧ ∀ g, v.ownBlock = some g → g ∉ gs.map Prod.fst
theorem NOb9.nil (w : World) (base n : Nat) : NOb9 w base n 0 (.slice none 0 0) [] [] :=
  ⟨rfl, rfl, World.ownsRow_nil _ _ _ _, fun i hi => absurd hi (Nat.not_lt_zero _), by simp, fun g h => by simp [Value.ownBlock] at h⟩
theorem NOb9.below {w w' : World} {base n m : Nat} {v : Value} {gs : List (Nat × Nat)} {L : List (List Bool)} (h : NOb9 w base n m v gs L) (hb : Below w.heap.size w w') : NOb9 w' base n m v gs L :=
  ⟨h.1, h.2.1, g_own h.2.2.1 hb, fun i hi => ⟨(h.2.2.2.1 i hi).1, g_own (h.2.2.2.1 i hi).2 hb⟩, h.2.2.2.2⟩
theorem NOb9.lt {w : World} {base n m : Nat} {v : Value} {gs : List (Nat × Nat)} {L : List (List Bool)} (h : NOb9 w base n m v gs L) {b : Nat} (hb : b ∈ gs.map Prod.fst) : base ≤ b ∧ b < w.heap.size := by
  obtain ⟨g, hg, rfl⟩ := List.mem_map.1 hb
  obtain ⟨i, hi, rfl⟩ := List.getElem_of_mem hg
  have := (h.2.2.2.1 i (by rw [← h.1]; exact hi)).2
  rw [Pf.getD_lt _ _ hi] at this
  exact this.lt _ rfl
theorem NOb9.at_mem {w : World} {base n m : Nat} {v : Value} {gs : List (Nat × Nat)} {L : List (List Bool)} (h : NOb9 w base n m v gs L) {i : Nat} (hi : i < m) : (gs.getD i (0, 0)).1 ∈ gs.map Prod.fst :=
  List.mem_map.2 ⟨_, mem9 gs (0, 0) (by rw [h.1]; exact hi), rfl⟩
theorem own_atb9 {w w' : World} {base e s n g c : Nat} {xs : List Value} (h : w.ownsRow base e s (.slice (some ⟨g, 0, none⟩) n c) n xs) (hb : w'.heap[g]? = w.heap[g]?) : w'.ownsRow base e s (.slice (some ⟨g, 0, none⟩) n c) n xs := owns_keep h hb
/-- One list more. -/
theorem NOb9.snoc {w w1 w4 : World} {base n m g cap G C : Nat} {v : Value} {gs : List (Nat × Nat)} {L : List (List Bool)} {x : List Bool} {o : Obj} (h : NOb9 w base n m v gs L) (hb : Below w.heap.size w w1) (hbase : base ≤ w.heap.size)
    (own1 : w1.ownsRow w.heap.size 4 1 (rvb9 n (g, cap)) n (bls x)) (hx : x.length = n)
    (own4 : w4.ownsRow base 71 1 (.slice (some ⟨G, 0, none⟩) (m + 1) C) (m + 1) (valsb9 n gs ++ [rvb9 n (g, cap)])) (hg : (w1.alloc o).grownBy w4 v.ownBlock) (hat : v.ownBlock = some G ∨ G = w1.heap.size + 1) :
    NOb9 w4 base n (m + 1) (.slice (some ⟨G, 0, none⟩) (m + 1) C) (gs ++ [(g, cap)]) (L ++ [x]) ∧ Below base w w4 := by
  obtain ⟨g0, g1⟩ := own1.lt g rfl
  have hsz := hb.size
  have hv : ∀ k, v.ownBlock = some k → base ≤ k ∧ k < w.heap.size := h.2.2.1.lt
  have old : ∀ b, b < w1.heap.size → some b ≠ v.ownBlock → w4.heap[b]? = w1.heap[b]? := fun b h1 h2 => by
    rw [hg.block b (by simp; omega) h2]
    exact (Below.heap_alloc w1 o b h1)
  have hgv : some g ≠ v.ownBlock := fun e => by have := hv g e.symm; omega
  refine ⟨⟨by simp [h.1], by simp [h.2.1], by rw [valsb9_snoc]; exact own4, fun i hi => ?_, ?_, ?_⟩, ?_⟩
  · by_cases e : i = m
    · subst e
      have e1 : (L ++ [x]).getD i [] = x := by simp [← h.2.1]
      have e2 : (gs ++ [(g, cap)]).getD i (0, 0) = (g, cap) := by simp [← h.1]
      rw [e1, e2]
      exact ⟨hx, own_atb9 (owns_low own1 hbase) (old g g1 hgv)⟩
    · have hi' : i < m := by omega
      have e1 : (L ++ [x]).getD i [] = L.getD i [] := by simp [List.getElem?_append, h.2.1, hi']
      have e2 : (gs ++ [(g, cap)]).getD i (0, 0) = gs.getD i (0, 0) := by simp [List.getElem?_append, h.1, hi']
      rw [e1, e2]
      have hm := h.at_mem hi'
      have hlt := h.lt hm
      refine ⟨(h.2.2.2.1 i hi').1, own_atb9 (g_own (h.2.2.2.1 i hi').2 hb) (old _ (by omega) fun e => ?_)⟩
      exact h.2.2.2.2.2 _ e.symm hm
  · rw [List.map_append, List.nodup_append]
    refine ⟨h.2.2.2.2.1, by simp, fun a ha b hb' => ?_⟩
    simp at hb'
    have := h.lt ha
    omega
  · intro k hk
    simp only [Value.ownBlock, Option.some.injEq] at hk
    subst hk
    rw [List.map_append, List.mem_append]
    rintro (hm | hm)
    · rcases hat with e | e
      · exact h.2.2.2.2.2 _ e hm
      · have := h.lt hm; omega
    · simp at hm
      rcases hat with e | e
      · rw [hm] at e; exact hgv e.symm
      · omega
  · refine (hb.mono hbase).trans (((Below.refl _ _).alloc (by omega) o).trans ⟨hg.os, hg.tape, hg.output, hg.size, fun k hk => hg.block k (by simp; omega) fun e => ?_⟩)
    have := hv k e.symm; omega
/-- What is owned stays when another block is written that lies ahead of all of it. -/
theorem NOb9.far {w w' : World} {base n m g : Nat} {v : Value} {gs : List (Nat × Nat)} {L : List (List Bool)} (h : NOb9 w base n m v gs L) (hg : w.grownBy w' (some g)) (hB : g < base) : NOb9 w' base n m v gs L := by
  have hne : ∀ {e s k : Nat} {u : Value} {xs : List Value}, w.ownsRow base e s u k xs → u.ownBlock = none ∨ u.ownBlock ≠ some g := fun {e s k u xs} own => by
    cases hu : u.ownBlock with
    | none => exact Or.inl rfl
    | some b =>
      refine Or.inr fun h' => ?_
      have := own.lt b hu
      simp at h'
      omega
  exact ⟨h.1, h.2.1, h.2.2.1.kept hg (hne h.2.2.1), fun i hi => ⟨(h.2.2.2.1 i hi).1, (h.2.2.2.1 i hi).2.kept hg (hne (h.2.2.2.1 i hi).2)⟩, h.2.2.2.2⟩
theorem NOb9.row {w : World} {base n m G C : Nat} {gs : List (Nat × Nat)} {L : List (List Bool)} (h : NOb9 w base n m (.slice (some ⟨G, 0, none⟩) m C) gs L) : GRow w (some ⟨G, 0, none⟩) L := by
  refine Or.inr ⟨G, 0, rfl, (h.2.2.1.lt G rfl).2, fun i hi => ?_⟩
  have hi' : i < m := by rw [← h.2.1]; exact hi
  obtain ⟨h1, h2⟩ := h.2.2.2.1 i hi'
  refine ⟨_, (gs.getD i (0, 0)).2, ?_, brow_owns h1.symm h2⟩
  rw [Nat.zero_add, h.2.2.1.cellAt i (by omega), valsb9_get n gs (by rw [h.1]; exact hi'), h1]
  rfl
/-- One list more: its block is laid into the outer list first, and filled behind that. -/
theorem GSo.fill {w w2 w4 : World} {base B k m g n : Nat} {gs : List Nat} {F : List (List Bool)} (h : GSo w base B gs F k m) (hb : Below w.heap.size w w2) (hg : w.heap.size ≤ g) (hB4 : (w2.setCell ⟨B, k, none⟩ (.slice (some ⟨g, 0, none⟩) n n)).grownBy w4 (some g))
    (own : w4.ownsRow base 4 1 (.slice (some ⟨g, 0, none⟩) n n) n (bls (F.getD k []))) (hn : (F.getD k []).length = n) : GSo w4 base B (gs ++ [g]) F (k + 1) m := by
  obtain ⟨hB0, hB1⟩ := h.2.1.lt B rfl
  obtain ⟨st1, st2⟩ := (g_own h.2.1 hb).stored k (.slice (some ⟨g, 0, none⟩) n n)
  rw [gvals_snoc h.1 hn] at st1
  refine ⟨by simp [h.1], st1.kept hB4 (Or.inr (by simp [Value.ownBlock]; omega)), fun i hi => ?_, ?_, ?_⟩
  · by_cases e : i = k
    · subst e
      have e1 : gv (gs ++ [g]) F i = .slice (some ⟨g, 0, none⟩) n n := by simp [gv, ← h.1, ← hn]
      rw [e1, hn]
      exact own
    · have hi' : i < k := by omega
      have e1 : gv (gs ++ [g]) F i = gv gs F i := by simp [gv, List.getElem?_append, h.1, hi']
      rw [e1]
      have hm := h.2.2.2.2 _ (h.at_mem hi')
      have hl := (h.lt (h.at_mem hi')).2
      exact ((g_own (h.2.2.1 i hi') hb).kept st2 (Or.inr (by simp only [gv, Value.ownBlock, ne_eq, Option.some.injEq]; omega))).kept hB4 (Or.inr (by simp only [gv, Value.ownBlock, ne_eq, Option.some.injEq]; omega))
  · rw [List.pairwise_append]
    refine ⟨h.2.2.2.1, by simp, fun a ha b hb' => ?_⟩
    simp at hb'
    have := (h.lt ha).2
    omega
  · intro x hx
    rcases List.mem_append.1 hx with hx | hx
    · exact h.2.2.2.2 x hx
    · simp at hx; omega
/-- Lists of one length that a call made in turn. -/
theorem GSo.now {w : World} {B l n : Nat} {gs : List Nat} {F : List (List Bool)} (h : GSo w B B gs F l l) (hl : F.length = l) (hn : ∀ i, i < l → (F.getD i []).length = n) : NOb9 w B n l (.slice (some ⟨B, 0, none⟩) l l) (gs.map fun g => (g, n)) F := by
  have e1 : ∀ i, i < l → (gs.map fun g => (g, n)).getD i (0, 0) = (gs.getD i 0, n) := fun i hi => by
    have : i < gs.length := by rw [h.1]; exact hi
    simp [this]
  have e2 : (gs.map fun g => (g, n)).map Prod.fst = gs := by simp [Function.comp_def]
  have e3 : gvals gs F l l = valsb9 n (gs.map fun g => (g, n)) := by
    apply List.ext_getElem
    · simp [gvals, valsb9, h.1]
    · intro i h1 h2
      simp [gvals] at h1
      have hg : i < gs.length := by rw [h.1]; exact h1
      have := hn i h1
      rw [List.getD_eq_getElem?_getD] at this
      simp [gvals, valsb9, rvb9, gv, h1, hg, this]
  refine ⟨by simp [h.1], hl, by rw [← e3]; exact h.2.1, fun i hi => ⟨hn i hi, ?_⟩, ?_, ?_⟩
  · rw [e1 i hi]
    have := h.2.2.1 i hi
    rwa [gv, hn i hi] at this
  · rw [e2]
    exact h.2.2.2.1.imp fun h => Nat.ne_of_lt h
  · intro g hg
    rw [e2]
    simp only [Value.ownBlock, Option.some.injEq] at hg
    subst hg
    intro hm
    exact Nat.lt_irrefl _ (h.2.2.2.2 _ hm)
/-- A row that is written lies from the outer list on. -/
theorem NOb9.from {w : World} {base n m : Nat} {v : Value} {gs : List (Nat × Nat)} {F : List (List Bool)} (h : NOb9 w base n m v gs F) : ∀ b, b ∈ gs.map Prod.fst → base ≤ b := fun _ hb => (h.lt hb).1
theorem GOw.rng {w w' : World} {B hi a b : Nat} {F : List (List Bool)} (h : GOw w B hi F) (hr : Rng a b w w') (hd : b ≤ B) : GOw w' B hi F := by
  obtain ⟨h1, h2, gs, h3, h4⟩ := h
  have kp : ∀ {e s n g c : Nat} {xs : List Value}, B ≤ g → w.ownsRow B e s (.slice (some ⟨g, 0, none⟩) n c) n xs → w'.ownsRow B e s (.slice (some ⟨g, 0, none⟩) n c) n xs := fun hg ho => owns_keep ho (hr.2.2.2.2 _ (ho.lt _ rfl).2 (Or.inr (by omega)))
  refine ⟨Nat.le_trans h1 hr.2.2.2.1, h2, gs, h3, h4.1, kp (Nat.le_refl _) h4.2.1, fun i hi => ?_, h4.2.2.2⟩
  have hm := h4.2.2.2.2 _ (h4.at_mem hi)
  exact kp (Nat.le_of_lt hm) (h4.2.2.1 i hi)
theorem GOw.now {w : World} {B hi l n : Nat} {F : List (List Bool)} (h : GOw w B hi F) (hl : F.length = l) (hn : ∀ i, i < l → (F.getD i []).length = n) : ∃ gs, NOb9 w B n l (.slice (some ⟨B, 0, none⟩) l l) gs F := by
  obtain ⟨h1, h2, gs, h3, h4⟩ := h
  rw [hl] at h4
  exact ⟨_, h4.now hl hn⟩
set_option maxHeartbeats 400000 in
theorem eqG9_zero (a b : Option Addr) (c d : Nat) (w : World) :
    Calls Try.prog 34 #[.slice a 0 c, .slice b 0 d] w fun e w' => e = .returned (.bool true) ∧ w' = w := by
  go_enter Try.func34, Try.ntmps34
  go_wp2_with fail
  go_loop [5] (fun s => s = .int .i64 0) (fun s => 0)
  case atStart => rfl
  case round =>
    subst hrel
    go_wp2_with fail
    go_ret
    exact ⟨rfl, rfl⟩
/-- The mark of a number. -/
def mkB (k : Int) : Bool := k % 3 == 0
set_option maxHeartbeats 1000000 in
theorem markb9_any (g n cap base : Nat) (xs : List Bool) (k : Int) (w : World) (hx : xs.length = n) (hn : n ≤ 1048576) (k0 : 0 ≤ k) (k1 : k ≤ 4000000000000) (hown : w.ownsRow base 4 1 (.slice (some ⟨g, 0, none⟩) n cap) n (bls xs)) :
    Calls Try.prog 57 #[.slice (some ⟨g, 0, none⟩) n cap, .int .i64 k] w fun e w' => e = .returned (.int .i64 (k + n)) ∧ (∃ ys : List Bool, ys.length = n ∧ (∀ j, j < n → ys.getD j false = mkB (k + j)) ∧ w'.ownsRow base 4 1 (.slice (some ⟨g, 0, none⟩) n cap) n (bls ys)) ∧ w.grownBy w' (some g) := by
  go_enter Try.func57, Try.ntmps57
  go_wp2_with fail
  go_loopw [1, 5] (fun s t wr => ∃ (i : Nat) (ys : List Bool), t = .int .i64 i ∧ s = .int .i64 (k + i) ∧ i ≤ n ∧ ys.length = n ∧ Hid (∀ j, j < i → ys.getD j false = mkB (k + j)) ∧ wr.ownsRow base 4 1 (.slice (some ⟨g, 0, none⟩) n cap) n (bls ys) ∧ w.grownBy wr (some g)) (fun _ t _ => n - (intOf t).toNat)
  case atStart => exact ⟨0, xs, rfl, by simp, Nat.zero_le _, hx, hide (by intro j hj; omega), hown, World.grownBy.refl _ _⟩
  case round =>
    obtain ⟨i, ys, rfl, rfl, hi, hy, HJ, hown', hg⟩ := hrel
    by_cases hlt : i < n
    · have i0 : (0 : Int) ≤ (i : Int) := by omega
      have i1 : (i : Int) < (n : Int) := by omega
      have c0 : wr.cell? ⟨g, i, none⟩ = some (.bool (ys.getD i false)) := by rw [hown'.cellAt i (by omega), bls_get ys i (by omega) false]
      have f0 := hown'.frozenAt i
      have ST := hide fun (x : Bool) => hown'.stored i (.bool x)
      have HS : Hid (∀ j, j < i + 1 → (ys.set i (mkB (k + (i : Int)))).getD j false = mkB (k + j)) := hide fun j hj => by
        by_cases e : j = i
        · subst e; simp [hy, hlt]
        · have := HJ.out j (by omega)
          simp only [List.getD_eq_getElem?_getD] at this ⊢
          rw [List.getElem?_set_ne (by omega)]; exact this
      clear hown'
      go_wp2_with fail
      go_roundw
      case rel =>
        obtain ⟨st1, st2⟩ := ST.out (mkB (k + (i : Int)))
        rw [bls_set] at st1
        exact ⟨i + 1, _, by go_num, by go_num, by omega, by simpa using hy, HS, st1, ⟨st2.os.trans hg.os, st2.tape.trans hg.tape, st2.output.trans hg.output, Nat.le_trans hg.size st2.size, fun b hb hne => (st2.block b (Nat.lt_of_lt_of_le hb hg.size) hne).trans (hg.block b hb hne)⟩⟩
      case measure => simp only [intOf]; omega
    · have hin : i = n := by omega
      subst hin
      go_wp2_with fail
      go_ret
      exact ⟨rfl, ⟨ys, hy, HJ.out, hown'⟩, hg⟩
set_option maxHeartbeats 1000000 in
theorem heldb9_any (g n cap : Nat) (k : Int) (w : World) (hn : n ≤ 4000000000000) (k0 : 0 ≤ k) (k1 : k ≤ 4000000000000) (h : ∀ j : Nat, j < n → w.cell? ⟨g, j, none⟩ = some (.bool (mkB (k + j)))) :
    Calls Try.prog 58 #[.slice (some ⟨g, 0, none⟩) n cap, .int .i64 k] w fun e w' => e = .returned (.int .i64 (k + n)) ∧ w' = w := by
  have HH := hide h
  clear h
  go_enter Try.func58, Try.ntmps58
  go_wp2_with fail
  go_loop [1, 5] (fun s t => ∃ i : Nat, t = .int .i64 i ∧ s = .int .i64 (k + i) ∧ i ≤ n) (fun _ t => n - (intOf t).toNat)
  case atStart => exact ⟨0, rfl, by simp, Nat.zero_le _⟩
  case round =>
    obtain ⟨i, rfl, rfl, hi⟩ := hrel
    by_cases hlt : i < n
    · have i0 : (0 : Int) ≤ (i : Int) := by omega
      have i1 : (i : Int) < (n : Int) := by omega
      have c0 := HH.out i hlt
      unfold mkB at c0
      have hxx : (((k + (i : Int)) % 3 == 0) != ((k + (i : Int)) % 3 == 0)) = false := by simp
      go_wp2_with fail
      go_round
      case rel => exact ⟨i + 1, by go_num, by go_num, by omega⟩
      case measure => simp only [intOf]; omega
    · have hin : i = n := by omega
      subst hin
      go_wp2_with fail
      go_ret
      exact ⟨rfl, rfl⟩
theorem NOb9.outer {w : World} {base n m G C : Nat} {gs : List (Nat × Nat)} {L : List (List Bool)} (h : NOb9 w base n m (.slice (some ⟨G, 0, none⟩) m C) gs L) {i : Nat} (hi : i < m) : w.cell? ⟨G, i, none⟩ = some (rvb9 n (gs.getD i (0, 0))) := by
  rw [h.2.2.1.cellAt i (by omega), valsb9_get n gs (by rw [h.1]; exact hi)]
/-- Lists whose numbers count on from k. -/
def MHb9 (w : World) (n m G : Nat) (gs : List (Nat × Nat)) (k : Int) : Prop :=
  G < w.heap.size ∧ ∀ i, i < m → w.cell? ⟨G, i, none⟩ = some (rvb9 n (gs.getD i (0, 0))) ∧ (gs.getD i (0, 0)).1 < w.heap.size ∧ ∀ j : Nat, j < n → w.cell? ⟨(gs.getD i (0, 0)).1, j, none⟩ = some (.bool (mkB (k + ((i * n : Nat) : Int) + j)))
theorem MHb9.below {w w' : World} {n m G : Nat} {gs : List (Nat × Nat)} {k : Int} (h : MHb9 w n m G gs k) (hb : Below w.heap.size w w') : MHb9 w' n m G gs k :=
  ⟨Nat.lt_of_lt_of_le h.1 hb.size, fun i hi => ⟨(hb.cell (p := ⟨G, i, none⟩) h.1).trans (h.2 i hi).1, Nat.lt_of_lt_of_le (h.2 i hi).2.1 hb.size, fun j hj => (hb.cell (p := ⟨_, j, none⟩) (h.2 i hi).2.1).trans ((h.2 i hi).2.2 j hj)⟩⟩
/-- What is marked so far. -/
def MSb9 (w w' : World) (base n m G : Nat) (gs : List (Nat × Nat)) (L : List (List Bool)) (k : Int) (i : Nat) : Prop :=
  (∀ t, t < i → ∀ j : Nat, j < n → w'.cell? ⟨(gs.getD t (0, 0)).1, j, none⟩ = some (.bool (mkB (k + ((t * n : Nat) : Int) + j)))) ∧ (∀ t, i ≤ t → t < m → w'.ownsRow base 4 1 (rvb9 n (gs.getD t (0, 0))) n (bls (L.getD t []))) ∧
    (∀ t, t < m → w'.cell? ⟨G, t, none⟩ = some (rvb9 n (gs.getD t (0, 0)))) ∧ Below base w w' ∧ w.heap.size ≤ w'.heap.size ∧ ∀ b, b < w.heap.size → b ∉ gs.map Prod.fst → w'.heap[b]? = w.heap[b]?
theorem nodup_neb9 {gs : List (Nat × Nat)} (h : (gs.map Prod.fst).Nodup) {i t : Nat} (hi : i < gs.length) (ht : t < gs.length) (hne : i ≠ t) : (gs.getD i (0, 0)).1 ≠ (gs.getD t (0, 0)).1 := by
  intro e
  rw [Pf.getD_lt _ _ hi, Pf.getD_lt _ _ ht] at e
  have hp := List.pairwise_iff_getElem.1 h
  rcases Nat.lt_or_gt_of_ne hne with hl | hl
  · exact hp i t (by simpa using hi) (by simpa using ht) hl (by simpa using e)
  · exact hp t i (by simpa using ht) (by simpa using hi) hl (by simpa using e.symm)
set_option maxHeartbeats 400000 in
theorem markG9_zero (a : Option Addr) (c : Nat) (k : Int) (w : World) :
    Calls Try.prog 35 #[.slice a 0 c, .int .i64 k] w fun e w' => e = .returned (.int .i64 k) ∧ w' = w := by
  go_enter Try.func35, Try.ntmps35
  go_wp2_with fail
  go_loop [1, 5] (fun s t => s = .int .i64 k ∧ t = .int .i64 0) (fun s t => 0)
  case atStart => exact ⟨rfl, rfl⟩
  case round =>
    obtain ⟨rfl, rfl⟩ := hrel
    go_wp2_with fail
    go_ret
    exact ⟨rfl, rfl⟩
set_option maxHeartbeats 2000000 in
theorem markG9_any {base n m G C : Nat} {gs : List (Nat × Nat)} {L : List (List Bool)} {w : World} {k : Int} (h : Hid (NOb9 w base n m (.slice (some ⟨G, 0, none⟩) m C) gs L)) (hn : n ≤ 1000) (hm : m ≤ 1000) (k0 : 0 ≤ k) (k1 : k ≤ 1000) :
    Calls Try.prog 35 #[.slice (some ⟨G, 0, none⟩) m C, .int .i64 k] w fun e w' => e = .returned (.int .i64 (k + ((m * n : Nat) : Int))) ∧ MHb9 w' n m G gs k ∧ Below base w w' ∧ ∀ b, b < w.heap.size → b ∉ gs.map Prod.fst → w'.heap[b]? = w.heap[b]? := by
  have hG := (h.out.2.2.1.lt G rfl).2
  have hGn : Hid (G ∉ gs.map Prod.fst) := hide (h.out.2.2.2.2.2 G rfl)
  go_enter Try.func35, Try.ntmps35
  go_wp2_with fail
  go_loopw [1, 5] (fun s t wr => ∃ (i : Nat) (q : Int), s = .int .i64 q ∧ t = .int .i64 i ∧ i ≤ m ∧ Hid (q = k + ((i * n : Nat) : Int)) ∧ 0 ≤ q ∧ q ≤ 1000 + 1000 * (i : Int) ∧ Hid (MSb9 w wr base n m G gs L k i)) (fun _ t _ => m - (intOf t).toNat)
  case atStart => exact ⟨0, k, rfl, rfl, Nat.zero_le _, hide (by simp), k0, by omega, hide ⟨fun t ht => absurd ht (Nat.not_lt_zero _), fun t _ ht => (h.out.2.2.2.1 t ht).2, fun t ht => h.out.outer ht, Below.refl _ _, Nat.le_refl _, fun _ _ _ => rfl⟩⟩
  case round =>
    obtain ⟨i, q, rfl, rfl, hi, HQ, q0, q1, HS⟩ := hrel
    by_cases hlt : i < m
    · have c0 := HS.out.2.2.1 i hlt
      have hown := HS.out.2.1 i (Nat.le_refl _) hlt
      have hlen := (h.out.2.2.2.1 i hlt).1
      have HMem := hide (h.out.at_mem hlt)
      obtain ⟨gb, gl⟩ := hown.lt _ rfl
      have HND : Hid (∀ t, t < m → t ≠ i → (gs.getD t (0, 0)).1 ≠ (gs.getD i (0, 0)).1) := hide fun t ht hne => nodup_neb9 h.out.2.2.2.2.1 (by rw [h.out.1]; exact ht) (by rw [h.out.1]; exact hlt) hne
      have HGE : Hid (G ≠ (gs.getD i (0, 0)).1) := hide fun e => hGn.out (e ▸ HMem.out)
      generalize hgi : gs.getD i (0, 0) = g at *
      obtain ⟨g, cap⟩ := g
      have HGI := hide hgi
      unfold rvb9 at c0 hown
      have HO := hide hown
      have k0' : (0 : Int) ≤ (i : Int) := by omega
      have k1' : (i : Int) < (m : Int) := by omega
      clear hown hgi
      go_wp2_with fail
      refine (markb9_any g n cap base (L.getD i []) q _ hlen (by omega) q0 (by omega) HO.out).mono ?_
      rintro e w1 ⟨rfl, ⟨ys, hy, hys, own1⟩, hg1⟩
      have HS' : Hid (MSb9 w w1 base n m G gs L k (i + 1)) := hide (by
        obtain ⟨s1, s2, s3, s4, s5, s6⟩ := HS.out
        have blk : ∀ b, b < wr.heap.size → b ≠ g → w1.heap[b]? = wr.heap[b]? := fun b hb hne => hg1.block b hb (by simpa using hne)
        refine ⟨fun t ht j hj => ?_, fun t ht1 ht2 => ?_, fun t ht => ?_, s4.trans ⟨hg1.os, hg1.tape, hg1.output, hg1.size, fun b hb => blk b (by have := s4.size; omega) (by omega)⟩, Nat.le_trans s5 hg1.size, fun b hb hnm => ?_⟩
        · by_cases e : t = i
          · subst e
            rw [HGI.out]
            have := own1.cellAt j (by omega)
            rw [bls_get ys j (by omega) false, hys j hj, HQ.out] at this
            exact this
          · have hne := HND.out t (by omega) e
            rw [World.cell?_of_block (w := wr) (a := ⟨(gs.getD t (0, 0)).1, j, none⟩) (blk (gs.getD t (0, 0)).1 (by have := (h.out.lt (h.out.at_mem (show t < m by omega))).2; omega) hne)]
            exact s1 t (by omega) j hj
        · have hne := HND.out t ht2 (by omega)
          exact own_atb9 (s2 t (by omega) ht2) (blk _ (by have := (h.out.lt (h.out.at_mem ht2)).2; omega) hne)
        · rw [World.cell?_of_block (w := wr) (a := ⟨G, t, none⟩) (blk G (by omega) HGE.out)]
          exact s3 t ht
        · rw [blk b (by omega) (fun e => hnm (by rw [e]; exact HMem.out))]
          exact s6 b hb hnm)
      have HQ' : Hid (q + (n : Int) = k + (((i + 1) * n : Nat) : Int)) := hide (by rw [HQ.out, Nat.add_mul]; simp; omega)
      clear hys own1 hg1
      go_wp2_with fail
      go_roundw
      case rel => exact ⟨i + 1, q + n, rfl, by go_num, by omega, HQ', by omega, by omega, HS'⟩
      case measure => simp only [intOf]; omega
    · have hie : i = m := by omega
      subst hie
      go_wp2_with fail
      go_ret
      obtain ⟨s1, s2, s3, s4, s5, s6⟩ := HS.out
      exact ⟨ret_int HQ.out, ⟨Nat.lt_of_lt_of_le hG s5, fun t ht => ⟨s3 t ht, by have := (h.out.lt (h.out.at_mem ht)).2; omega, s1 t ht⟩⟩, s4, s6⟩
set_option maxHeartbeats 400000 in
theorem heldG9_zero (a : Option Addr) (c : Nat) (k : Int) (w : World) :
    Calls Try.prog 36 #[.slice a 0 c, .int .i64 k] w fun e w' => e = .returned (.int .i64 k) ∧ w' = w := by
  go_enter Try.func36, Try.ntmps36
  go_wp2_with fail
  go_loop [1, 4, 5] (fun s _ t => s = .int .i64 k ∧ t = .int .i64 0) (fun s _ t => 0)
  case atStart => exact ⟨rfl, rfl⟩
  case round =>
    obtain ⟨rfl, rfl⟩ := hrel
    go_wp2_with fail
    go_ret
    exact ⟨rfl, rfl⟩
set_option maxHeartbeats 2000000 in
theorem heldG9_any {n m G C : Nat} {gs : List (Nat × Nat)} {w : World} {k : Int} (h : Hid (MHb9 w n m G gs k)) (hn : n ≤ 1000) (hm : m ≤ 1000) (k0 : 0 ≤ k) (k1 : k ≤ 1000) :
    Calls Try.prog 36 #[.slice (some ⟨G, 0, none⟩) m C, .int .i64 k] w fun e w' => e = .returned (.int .i64 (k + ((m * n : Nat) : Int))) ∧ w' = w := by
  go_enter Try.func36, Try.ntmps36
  go_wp2_with fail
  go_loop [1, 4, 5] (fun s _ t => ∃ (i : Nat) (q : Int), s = .int .i64 q ∧ t = .int .i64 i ∧ i ≤ m ∧ Hid (q = k + ((i * n : Nat) : Int)) ∧ 0 ≤ q ∧ q ≤ 1000 + 1000 * (i : Int)) (fun _ _ t => m - (intOf t).toNat)
  case atStart => exact ⟨0, k, rfl, rfl, Nat.zero_le _, hide (by simp), k0, by omega⟩
  case round =>
    obtain ⟨i, q, rfl, rfl, hi, HQ, q0, q1⟩ := hrel
    by_cases hlt : i < m
    · obtain ⟨c0, _, cs⟩ := h.out.2 i hlt
      rw [← HQ.out] at cs
      have HC := hide cs
      generalize gs.getD i (0, 0) = g at *
      obtain ⟨g, cap⟩ := g
      unfold rvb9 at c0
      have k0' : (0 : Int) ≤ (i : Int) := by omega
      have k1' : (i : Int) < (m : Int) := by omega
      have HQ' : Hid (q + (n : Int) = k + (((i + 1) * n : Nat) : Int)) := hide (by rw [HQ.out, Nat.add_mul]; simp; omega)
      have hqn : ¬ q + (n : Int) < 0 := by omega
      clear cs
      go_wp2_with fail
      refine (heldb9_any g n cap q _ (by omega) q0 (by omega) HC.out).mono ?_
      rintro e w1 ⟨rfl, hw⟩
      obtain rfl : w = w1 := hw.symm
      go_wp2_with fail
      go_round
      case rel => exact ⟨i + 1, q + n, rfl, by go_num, by omega, HQ', by omega, by omega⟩
      case measure => simp only [intOf]; omega
    · have hie : i = m := by omega
      subst hie
      go_wp2_with fail
      go_ret
      exact ⟨ret_int HQ.out, rfl⟩
end Go.Proofs.Ytcniegaogdggaaa
