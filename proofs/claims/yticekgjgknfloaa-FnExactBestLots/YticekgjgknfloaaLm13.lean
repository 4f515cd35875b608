/-
  Lists of lists in memory, each in a block of its own, that grow and are written into.
-/
import Derived.Test.YticekgjgknfloaaQw0
import Derived.Test.YticekgjgknfloaaQa
import Derived.Test.YticekgjgknfloaaHv
namespace Go.Proofs.Yticekgjgknfloaa
open Go.RowKit

theorem own_form2 {w : World} {base e s n : Nat} {v : Value} {xs : List Value} (h : w.ownsRow base e s v n xs) : ∃ a cap, v = .slice a n cap := by
  rcases h.2 with ⟨rfl, hn⟩ | ⟨g, cap, cur, rfl, _⟩
  · exact ⟨none, 0, by rw [hn]⟩
  · exact ⟨_, _, rfl⟩
theorem own_keep2 {w w' : World} {base e s n : Nat} {v : Value} {xs : List Value} (h : w.ownsRow base e s v n xs) (hb : ∀ g, v.ownBlock = some g → g < w.heap.size → w'.heap[g]? = w.heap[g]?) : w'.ownsRow base e s v n xs := by
  rcases h with ⟨h0, h | ⟨g', cap, cur, rfl, h2, h3, h4⟩⟩
  · exact ⟨h0, Or.inl h⟩
  · exact ⟨h0, Or.inr ⟨g', cap, cur, rfl, h2, (hb g' rfl (Array.getElem?_eq_some_iff.1 h3).1).trans h3, h4⟩⟩
theorem own_below2 {w w' : World} {base e s n : Nat} {v : Value} {xs : List Value} (h : w.ownsRow base e s v n xs) (hb : Below w.heap.size w w') : w'.ownsRow base e s v n xs := own_keep2 h fun _ _ hl => hb.block _ hl
theorem own_low2 {w : World} {base base' e s n : Nat} {v : Value} {xs : List Value} (h : w.ownsRow base e s v n xs) (hb : base' ≤ base) : w.ownsRow base' e s v n xs := by
  rcases h with ⟨h0, h | ⟨g, cap, cur, h1, h2, h3⟩⟩
  · exact ⟨h0, Or.inl h⟩
  · exact ⟨h0, Or.inr ⟨g, cap, cur, h1, Nat.le_trans hb h2, h3⟩⟩
theorem infoS : ∃ i, Try.prog.info? 22 = some i ∧ i.zero = some (.slice none 0 0) ∧ i.size = 1 ∧ i.bytes = 24 := by
  have h : (Try.prog.info? 22).map (fun i => (i.zero, i.size, i.bytes)) = some (some (.slice none 0 0), 1, 24) := by kernel_rfl
  obtain ⟨i, hi, hzz⟩ := Option.map_eq_some_iff.1 h
  simp only [Prod.mk.injEq] at hzz
  exact ⟨i, hi, hzz.1, hzz.2.1, hzz.2.2⟩
def nilS : Value := .slice none 0 0
def LL {α : Type} (W : World) (base T E s : Nat) (enc : List α → List Value) (v : Value) (us : List Value) (R : List (List α)) : Prop :=
  W.ownsRow base T 1 v R.length us ∧ (∀ i, i < R.length → W.ownsRow base E s (us.getD i nilS) (R.getD i []).length (enc (R.getD i []))) ∧
  (∀ i g, i < R.length → (us.getD i nilS).ownBlock = some g → v.ownBlock ≠ some g) ∧
  (∀ i j g, i < R.length → j < R.length → i ≠ j → (us.getD i nilS).ownBlock = some g → (us.getD j nilS).ownBlock ≠ some g)
theorem LL.len {α : Type} {W : World} {base T E s : Nat} {enc : List α → List Value} {v : Value} {us : List Value} {R : List (List α)} (h : LL W base T E s enc v us R) : us.length = R.length := by
  have := h.1.1; omega
theorem LL.nil {α : Type} (W : World) (base T E s : Nat) (enc : List α → List Value) : LL W base T E s enc nilS [] ([] : List (List α)) :=
  ⟨World.ownsRow_nil _ _ _ _, fun _ hi => absurd hi (Nat.not_lt_zero _), fun _ _ hi => absurd hi (Nat.not_lt_zero _), fun _ _ _ hi => absurd hi (Nat.not_lt_zero _)⟩
theorem LL.keep {α : Type} {W W' : World} {base T E s : Nat} {enc : List α → List Value} {v : Value} {us : List Value} {R : List (List α)} (h : LL W base T E s enc v us R) (hb : ∀ g, base ≤ g → g < W.heap.size → W'.heap[g]? = W.heap[g]?) : LL W' base T E s enc v us R :=
  ⟨own_keep2 h.1 fun g hv hl => hb g (h.1.lt g hv).1 hl, fun i hi => own_keep2 (h.2.1 i hi) fun g hv hl => hb g ((h.2.1 i hi).lt g hv).1 hl, h.2.2⟩
theorem LL.below {α : Type} {W W' : World} {base T E s : Nat} {enc : List α → List Value} {v : Value} {us : List Value} {R : List (List α)} (h : LL W base T E s enc v us R) (hb : Below W.heap.size W W') : LL W' base T E s enc v us R := h.keep fun g _ hl => hb.block g hl
theorem LL.form {α : Type} {W : World} {base T E s : Nat} {enc : List α → List Value} {v : Value} {us : List Value} {R : List (List α)} (h : LL W base T E s enc v us R) : ∃ a c, v = .slice a R.length c := own_form2 h.1
theorem LL.cell {α : Type} {W : World} {base T E s G cap : Nat} {enc : List α → List Value} {us : List Value} {R : List (List α)} (h : LL W base T E s enc (.slice (some ⟨G, 0, none⟩) R.length cap) us R) {i : Nat} (hi : i < R.length) : W.cell? ⟨G, i, none⟩ = some (us.getD i nilS) := by
  have hl := h.len
  rw [h.1.cellAt i (by omega), List.getD_eq_getElem?_getD, List.getElem?_eq_getElem (by omega)]; rfl
theorem getD_set' {α : Type} {l : List α} {i b : Nat} {x d : α} (hi : i < l.length) : (l.set i x).getD b d = if b = i then x else l.getD b d := by
  by_cases e : b = i
  · subst e; simp [hi]
  · rw [if_neg e]; simp [Ne.symm e]
theorem getD_snoc {α : Type} {l : List α} {b : Nat} {x d : α} (hb : b < l.length + 1) : (l ++ [x]).getD b d = if b = l.length then x else l.getD b d := by
  by_cases e : b = l.length
  · subst e; simp
  · rw [if_neg e]; simp [List.getElem?_append_left (show b < l.length by omega)]
/-- A row in place i is another one now. -/
theorem LL.put {α : Type} {W W' : World} {base T E s G cap i : Nat} {enc : List α → List Value} {us : List Value} {R : List (List α)} {u' : Value} {r' : List α} (h : LL W base T E s enc (.slice (some ⟨G, 0, none⟩) R.length cap) us R) (hi : i < R.length)
    (hB : ∀ b, b < W.heap.size → some b ≠ (us.getD i nilS).ownBlock → W'.heap[b]? = W.heap[b]?) (_hs : W.heap.size ≤ W'.heap.size) (hu : W'.ownsRow base E s u' r'.length (enc r')) (hf : ∀ g, u'.ownBlock = some g → (us.getD i nilS).ownBlock = some g ∨ W.heap.size ≤ g) :
    LL (W'.setCell ⟨G, i, none⟩ u') base T E s enc (.slice (some ⟨G, 0, none⟩) R.length cap) (us.set i u') (R.set i r') := by
  have hl := h.len
  have hG : G < W.heap.size := (h.1.lt G rfl).2
  have hGi : ∀ j, j < R.length → (us.getD j nilS).ownBlock ≠ some G := fun j hj e => h.2.2.1 j G hj e rfl
  have hG' : W'.ownsRow base T 1 (.slice (some ⟨G, 0, none⟩) R.length cap) R.length us := own_keep2 h.1 fun g hv hl' => hB g hl' (fun e => by
    obtain rfl : G = g := by simpa [Value.ownBlock] using hv
    exact hGi i hi e.symm)
  have huG : u'.ownBlock ≠ some G := fun e => by
    rcases hf G e with e' | e'
    · exact hGi i hi e'
    · omega
  have far : ∀ g, g ≠ G → (W'.setCell ⟨G, i, none⟩ u').heap[g]? = W'.heap[g]? := fun g hg => Below.heap_setCell W' ⟨G, i, none⟩ u' g hg
  refine ⟨by rw [List.length_set]; exact (hG'.stored i u').1, fun j hj => ?_, fun j g hj he => ?_, fun j k g hj hk hne he => ?_⟩
  · rw [List.length_set] at hj
    rw [getD_set' (by omega), getD_set' hi]
    by_cases e : j = i
    · rw [if_pos e, if_pos e]
      exact own_keep2 hu fun g hv _ => far g (fun e' => huG (e' ▸ hv))
    · rw [if_neg e, if_neg e]
      refine own_keep2 (own_keep2 (h.2.1 j hj) fun g hv hl' => hB g hl' (fun e' => h.2.2.2 j i g hj hi e hv e'.symm)) fun g hv _ => far g (fun e' => hGi j hj (e' ▸ hv))
  · rw [List.length_set] at hj
    rw [getD_set' (by omega)] at he
    intro e2
    obtain rfl : G = g := by simpa [Value.ownBlock] using e2
    by_cases e : j = i
    · rw [if_pos e] at he; exact huG he
    · rw [if_neg e] at he; exact hGi j hj he
  · rw [List.length_set] at hj hk
    rw [getD_set' (by omega)] at he ⊢
    by_cases e1 : j = i
    · subst e1
      rw [if_pos rfl] at he
      rw [if_neg (Ne.symm hne)]
      intro e2
      rcases hf g he with e' | e'
      · exact h.2.2.2 j k g hj hk hne e' e2
      · have := ((h.2.1 k hk).lt g e2).2; omega
    · rw [if_neg e1] at he
      by_cases e2 : k = i
      · subst e2
        rw [if_pos rfl]
        intro e3
        rcases hf g e3 with e' | e'
        · exact h.2.2.2 j k g hj hk hne he e'
        · have := ((h.2.1 j hj).lt g he).2; omega
      · rw [if_neg e2]; exact h.2.2.2 j k g hj hk hne he
/-- One row more. -/
theorem LL.snoc {α : Type} {W W' : World} {base T E s : Nat} {enc : List α → List Value} {v v' : Value} {us : List Value} {R : List (List α)} {u : Value} {r : List α} (h : LL W base T E s enc v us R)
    (hv : W'.ownsRow base T 1 v' (R.length + 1) (us ++ [u])) (hB : ∀ b, b < W.heap.size → some b ≠ v.ownBlock → W'.heap[b]? = W.heap[b]?) (hf : ∀ g, v'.ownBlock = some g → v.ownBlock = some g ∨ W.heap.size ≤ g)
    (hu : W'.ownsRow base E s u r.length (enc r)) (huf : ∀ g, u.ownBlock = some g → W.heap.size ≤ g ∧ v'.ownBlock ≠ some g) :
    LL W' base T E s enc v' (us ++ [u]) (R ++ [r]) := by
  have hl := h.len
  refine ⟨by rw [List.length_append]; exact hv, fun j hj => ?_, fun j g hj he => ?_, fun j k g hj hk hne he => ?_⟩
  · rw [List.length_append] at hj
    simp only [List.length_cons, List.length_nil] at hj
    rw [getD_snoc (by omega), getD_snoc hj, hl]
    by_cases e : j = R.length
    · rw [if_pos e, if_pos e]; exact hu
    · rw [if_neg e, if_neg e]
      exact own_keep2 (h.2.1 j (by omega)) fun g hv' hl' => hB g hl' (fun e' => h.2.2.1 j g (by omega) hv' e'.symm)
  · rw [List.length_append] at hj
    simp only [List.length_cons, List.length_nil] at hj
    rw [getD_snoc (by omega), hl] at he
    intro e2
    by_cases e : j = R.length
    · rw [if_pos e] at he; exact (huf g he).2 e2
    · rw [if_neg e] at he
      rcases hf g e2 with e' | e'
      · exact h.2.2.1 j g (by omega) he e'
      · have := ((h.2.1 j (by omega)).lt g he).2; omega
  · rw [List.length_append] at hj hk
    simp only [List.length_cons, List.length_nil] at hj hk
    rw [getD_snoc (by omega), hl] at he ⊢
    by_cases e1 : j = R.length
    · rw [if_pos e1] at he
      rw [if_neg (by omega)]
      intro e2
      have h1 := (huf g he).1
      have h2 := ((h.2.1 k (by omega)).lt g e2).2
      omega
    · rw [if_neg e1] at he
      by_cases e2 : k = R.length
      · rw [if_pos e2]
        intro e3
        have h1 := (huf g e3).1
        have h2 := ((h.2.1 j (by omega)).lt g he).2
        omega
      · rw [if_neg e2]; exact h.2.2.2 j k g (by omega) (by omega) hne he
/-- Lists of ints can be read. -/
theorem LL.crow {W : World} {base T E : Nat} {a : Option Addr} {c : Nat} {us : List Value} {R : List (List Int)} (h : LL W base T E 1 ints (.slice a R.length c) us R) : CRow W a R := by
  rcases h.1.2 with ⟨hv, hn⟩ | ⟨g, cap, cur, hv, _, hg, _⟩
  · exact Or.inl (List.length_eq_zero_iff.1 hn)
  · cases hv
    refine Or.inr ⟨g, 0, rfl, (Array.getElem?_eq_some_iff.1 hg).1, fun i hi => ?_⟩
    have ho := h.2.1 i hi
    have hc := h.cell hi
    rw [Nat.zero_add, hc]
    rcases ho.2 with ⟨hv, hn⟩ | ⟨g', cap', cur', hv, _⟩
    · exact ⟨none, 0, by rw [hv, hn], Or.inl (List.length_eq_zero_iff.1 hn)⟩
    · refine ⟨some ⟨g', 0, none⟩, cap', by rw [hv], ?_⟩
      rw [hv] at ho
      exact arow_owns rfl ho
theorem LL.keep2 {α : Type} {W W' : World} {base T E s : Nat} {enc : List α → List Value} {v : Value} {us : List Value} {R : List (List α)} (h : LL W base T E s enc v us R) (hb : ∀ g, g < W.heap.size → (v.ownBlock = some g ∨ ∃ i, i < R.length ∧ (us.getD i nilS).ownBlock = some g) → W'.heap[g]? = W.heap[g]?) : LL W' base T E s enc v us R :=
  ⟨own_keep2 h.1 fun g hv hl => hb g hl (Or.inl hv), fun i hi => own_keep2 (h.2.1 i hi) fun g hv hl => hb g hl (Or.inr ⟨i, hi, hv⟩), h.2.2⟩
/-- One number in row i is another one now. -/
theorem LL.write {W : World} {base T i k : Nat} {v : Value} {us : List Value} {R : List (List Int)} {x : Int} (h : LL W base T 3 1 ints v us R) (hi : i < R.length) (hk : k < (R.getD i []).length) :
    ∃ g c, us.getD i nilS = .slice (some ⟨g, 0, none⟩) (R.getD i []).length c ∧ W.cell? ⟨g, k, none⟩ = some (.int .i64 ((R.getD i []).getD k 0)) ∧ W.frozen? ⟨g, k, none⟩ = false ∧ base ≤ g ∧ g < W.heap.size ∧
      LL (W.setCell ⟨g, k, none⟩ (.int .i64 x)) base T 3 1 ints v us (R.set i ((R.getD i []).set k x)) := by
  have ho := h.2.1 i hi
  have hl := h.len
  obtain ⟨g, c, e, _, _⟩ := ho.form (by omega)
  rw [e] at ho
  have hgi : (us.getD i nilS).ownBlock = some g := by rw [e]; rfl
  obtain ⟨st1, st2⟩ := ho.stored k (.int .i64 x)
  rw [ints_set] at st1
  have far : ∀ b, b ≠ g → (W.setCell ⟨g, k, none⟩ (.int .i64 x)).heap[b]? = W.heap[b]? := fun b hb => Below.heap_setCell W ⟨g, k, none⟩ _ b hb
  refine ⟨g, c, e, ?_, ho.frozenAt k, (ho.lt g rfl).1, (ho.lt g rfl).2, ⟨?_, fun j hj => ?_, fun j b hj he => h.2.2.1 j b (by rwa [List.length_set] at hj) he, fun j l b hj hl' hne he => h.2.2.2 j l b (by rwa [List.length_set] at hj) (by rwa [List.length_set] at hl') hne he⟩⟩
  · rw [ho.cellAt k (by omega), ints_get _ k hk]
  · rw [List.length_set]
    exact own_keep2 h.1 fun b hv _ => far b (fun e' => h.2.2.1 i g hi hgi (e' ▸ hv))
  · rw [List.length_set] at hj
    rw [getD_set' hi]
    by_cases e' : j = i
    · subst e'
      rw [if_pos rfl, List.length_set, e]
      exact st1
    · rw [if_neg e']
      exact own_keep2 (h.2.1 j hj) fun b hv _ => far b (fun e2 => h.2.2.2 j i g hj hi e' (e2 ▸ hv) hgi)
theorem LL.low {W : World} {base base' T : Nat} {v : Value} {us : List Value} {R : List (List Int)} (h : LL W base T 3 1 ints v us R) (hb : base' ≤ base) : LL W base' T 3 1 ints v us R :=
  ⟨own_low2 h.1 hb, fun i hi => own_low2 (h.2.1 i hi) hb, h.2.2⟩
/-- One number, in memory. -/
theorem LL.at2 {W : World} {base T i k n cap G : Nat} {us : List Value} {R : List (List Int)} (h : LL W base T 3 1 ints (.slice (some ⟨G, 0, none⟩) n cap) us R) (hn : R.length = n) (hi : i < n) (hk : k < (R.getD i []).length) :
    ∃ g c, W.cell? ⟨G, i, none⟩ = some (.slice (some ⟨g, 0, none⟩) (R.getD i []).length c) ∧ us.getD i nilS = .slice (some ⟨g, 0, none⟩) (R.getD i []).length c ∧ W.cell? ⟨g, k, none⟩ = some (.int .i64 ((R.getD i []).getD k 0)) := by
  subst hn
  obtain ⟨g, c, e, h1, _⟩ := h.write (x := 0) hi hk
  exact ⟨g, c, by rw [← e]; exact h.cell hi, e, h1⟩
end Go.Proofs.Yticekgjgknfloaa
