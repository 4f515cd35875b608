/-
  A loop over an iterator that hands out lists in memory of their own, and whose rounds all go on.
-/
import Derived.RangeFuncBox
import Derived.RangeFuncLeaves
import Derived.WalkKit
import Derived.TacticsInMore
import Derived.LoopNIn
import Derived.LoopIn
import Derived.Test.YtkiadodoehcbmaaBu11
namespace Go.Proofs.Ytkiadodoehcbmaa
open Go.RowKit

/-- What an iterator may do: it lays new blocks, and writes its own from B on that are no cells. -/
structure St (B : Nat) (W W' : World) : Prop where
  b : Below B W W'
  c : ∀ (k : Nat) (o : Obj), W.heap[k]? = some o → o.isCells = true → W'.heap[k]? = some o
theorem St.refl (B : Nat) (W : World) : St B W W := ⟨Below.refl _ _, fun _ _ h _ => h⟩
theorem St.trans {B : Nat} {X Y Z : World} (h : St B X Y) (k : St B Y Z) : St B X Z := ⟨h.b.trans k.b, fun i o hi ho => k.c i o (h.c i o hi ho) ho⟩
theorem St.mono {B B' : Nat} {X Y : World} (h : St B X Y) (hb : B' ≤ B) : St B' X Y := ⟨h.b.mono hb, h.c⟩
theorem St.of_below {B : Nat} {W W' : World} (h : Below W.heap.size W W') (hb : B ≤ W.heap.size) : St B W W' := ⟨h.mono hb, fun k _ hk _ => (h.block k (Array.getElem?_eq_some_iff.1 hk).1).trans hk⟩
theorem St.put {B l : Nat} {W : World} {o o' : Obj} (hl : W.heap[l]? = some o) (ho : o.isCells = false) (hb : B ≤ l) : St B W (W.putObj l o') :=
  ⟨(Below.refl B W).grown (grownBy_putObj' W l o') (by have := (Array.getElem?_eq_some_iff.1 hl).1; omega) (fun k e => by cases e; omega), fun k p hk hp => by
    by_cases e : k = l
    · subst e; rw [hl] at hk; cases hk; rw [ho] at hp; cases hp
    · exact (World.putObj_heap_other e).trans hk⟩
/-- What a round keeps: all that lay from B on. -/
structure Kb (B : Nat) (W W' : World) : Prop where
  size : W.heap.size ≤ W'.heap.size
  same : ∀ (k : Nat) (o : Obj), B ≤ k → W.heap[k]? = some o → W'.heap[k]? = some o
theorem Kb.refl (B : Nat) (W : World) : Kb B W W := ⟨Nat.le_refl _, fun _ _ _ h => h⟩
theorem Kb.trans {B : Nat} {X Y Z : World} (h : Kb B X Y) (k : Kb B Y Z) : Kb B X Z := ⟨Nat.le_trans h.size k.size, fun i o hb hi => k.same i o hb (h.same i o hb hi)⟩
def nPost (R : World → Prop) : Exit → Act → World → Prop
  | .normal, _, W => R W
  | _, _, _ => False
/-- The iterator's word: one after the other, what is handed out lies as T says; all rounds go on. -/
def SeqAll {α : Type} (g : Nat) (lb : Array Value) (T : α → Value → World → Prop) (B : Nat) (S : List α) (w : World) : Prop :=
  ∀ (l : Nat) (J : List α → World → Prop) (W : World), Below w.heap.size w W → (∀ s A C, J s A → St W.heap.size A C → J s C) →
    (∀ pre x v W1, J pre W1 → T x v W1 → YieldAt Fence.wide 0 Try.prog l #[v] W1 fun e W' => e = .returned (.bool true) ∧ J (pre ++ [x]) W' ∧ Kb B W1 W') →
    J [] W → CallsIn Fence.wide 0 Try.prog g (#[.func (.yield l) #[] #[]] ++ lb) W fun e W' => (∃ v, e = .returned v) ∧ J S W'
theorem range_all {α : Type} {g : Operand} {ps : Array Tmp} {assign body : Code} {Q : Exit → Act → World → Prop} {a : Act} {w : World} {gf : Nat} {lb : Array Value}
    (hg : a.eval g = .func (.func gf) #[] lb) (eg : ∀ args w, (callFunc gf args).run Try.prog w = .ok (.enter gf args) w) {T : α → Value → World → Prop} {B : Nat} {S : List α} (hB : B ≤ w.heap.size)
    (hseq : SeqAll gf lb T B S w) (hps : ps.size = 1) (hT : ∀ x v A C, T x v A → St w.heap.size A C → T x v C) (I : List α → World → Prop) (hI : ∀ s A C, I s A → St w.heap.size A C → I s C) (h0 : I [] w)
    (hround : ∀ (l : Nat) (pre : List α) (x : α) (v : Value) (W : World), assign.wpIn (Fence.wide.inRound l) 0 Try.prog (Exit.then (fun a₁ W' => W' = W ∧ ∀ W2, I pre W2 → T x v W2 → body.wpIn (Fence.wide.inRound l) 0 Try.prog (nPost fun W' => Kb B W2 W' ∧ I (pre ++ [x]) W') a₁ W2) (fun _ _ _ => False)) { tmps := (ps.zip #[v]).foldl (fun t (p, v) => t.setIfInBounds p v) a.tmps, defers := [] } W)
    (hdone : ∀ (D : Nat) (W : World), w.heap.size ≤ D → I S W → W.heap[D]? = some (.deferred (some [])) → Q .normal { a with defers := { target := .collected D, args := #[] } :: a.defers } W) :
    (Code.rangeFunc g ps assign body).wpIn Fence.wide 0 Try.prog Q a w := by
  refine wpIn_rangeFunc fun fn hfn => ?_
  obtain ⟨R, hR⟩ : ∃ R : Loop, R = { state := .ready, pending := none, fn, tmps := a.tmps, params := ps, assign, body, defers := w.heap.size } := ⟨_, rfl⟩
  have rs : R.state = .ready := by rw [hR]
  have rp : R.pending = none := by rw [hR]
  have z1 : ((w.alloc (.deferred (some []))).alloc (.loop R)).heap.size = w.heap.size + 2 := by simp
  have b1 : Below w.heap.size w ((w.alloc (.deferred (some []))).alloc (.loop R)) := ((Below.refl _ w).alloc (Nat.le_refl _) _).alloc (by simp) _
  have hL : ((w.alloc (.deferred (some []))).alloc (.loop R)).heap[w.heap.size + 1]? = some (.loop R) := by
    have := World.alloc_heap_new (w.alloc (.deferred (some []))) (.loop R); rwa [World.size_alloc] at this
  have hD : ((w.alloc (.deferred (some []))).alloc (.loop R)).heap[w.heap.size]? = some (.deferred (some [])) :=
    (Below.heap_alloc _ _ _ (by simp)).trans (World.alloc_heap_new w _)
  have he : (Instr.enterLoop fn a.tmps ps assign body Fence.wide.round).run Try.prog w = .ok (w.heap.size + 1, [{ target := .collected w.heap.size, args := #[] }]) ((w.alloc (.deferred (some []))).alloc (.loop R)) := by rw [hR]; exact run_enterLoop_outer _ _ _ _ _
  generalize (w.alloc (.deferred (some []))).alloc (.loop R) = W1 at *
  refine ⟨w.heap.size + 1, [{ target := .collected w.heap.size, args := #[] }], W1, { target := .fn (.func gf) lb, args := #[.func (.yield (w.heap.size + 1)) #[] #[]] }, W1, gf, #[.func (.yield (w.heap.size + 1)) #[] #[]] ++ lb, W1, he, ?_, fun _ _ => trivial, ?_, (fun h => absurd h (by simp [Fence.wide])), ?_⟩
  · simp only [resolve, hg]; simp [go_sem]
  · simp [invoke, go_sem, eg]
  · refine (hseq (w.heap.size + 1) (fun pre W => I pre W ∧ W.heap[w.heap.size + 1]? = some (.loop R) ∧ W.heap[w.heap.size]? = some (.deferred (some []))) W1 b1 ?_ ?_ ⟨hI _ _ _ h0 (St.of_below b1 (Nat.le_refl _)), hL, hD⟩).mono ?_
    · rintro s A C ⟨j1, j2, j3⟩ hst
      exact ⟨hI _ _ _ j1 (hst.mono (by omega)), (hst.b.block _ (by omega)).trans j2, (hst.b.block _ (by omega)).trans j3⟩
    · rintro pre x v W ⟨j1, j2, j3⟩ ht
      have hlt : w.heap.size + 1 < W.heap.size := (Array.getElem?_eq_some_iff.1 j2).1
      have hy := run_yield (P := Try.prog) (args := #[v]) j2 (by rw [hR]; exact hps.symm)
      have s1 : St w.heap.size W (W.putObj (w.heap.size + 1) (.loop { R with state := .busy })) := St.put j2 rfl (by omega)
      refine ⟨R.fn, _, R.assign, R.body, hy, roundIn_of_wpIn trivial ?_⟩
      rw [hR]
      refine wpIn_mono (hround (w.heap.size + 1) pre x v W) ?_
      rintro e a₁ Wx hx
      rw [← hR]
      cases e with
      | ret => exact hx.elim
      | exit id => exact hx.elim
      | goto t => exact hx.elim
      | panic ch => exact hx.elim
      | outgrown => exact hx.elim
      | normal =>
      obtain ⟨hwx, hbody⟩ := hx
      obtain rfl : W = Wx := hwx.symm
      clear hwx
      refine ⟨_, run_beginRound j2 rs, ?_⟩
      have hl2 : (W.putObj (w.heap.size + 1) (.loop { R with state := .busy })).heap[w.heap.size + 1]? = some (.loop { R with state := .busy }) := World.putObj_heap_same hlt
      have hk2 : (W.putObj (w.heap.size + 1) (.loop { R with state := .busy })).heap[w.heap.size]? = some (.deferred (some [])) := (World.putObj_heap_other (by omega)).trans j3
      refine wpIn_mono (by rw [hR]; exact hbody _ (hI _ _ _ j1 (by rw [← hR]; exact s1)) (hT _ _ _ _ ht (by rw [← hR]; exact s1))) ?_
      rintro e a3 W3 hp
      cases e with
      | normal =>
        obtain ⟨hk3, hi3⟩ := hp
        rw [← hR] at hk3
        have hl3 := hk3.same _ _ (by omega) hl2
        have hk4 := hk3.same _ _ (by omega) hk2
        have hr := run_endRound (P := Try.prog) none hl3
        have er : ({ ({ R with state := .busy } : Loop) with state := if (none : Option Code).isNone then .ready else .done, pending := none } : Loop) = R := by
          cases R; simp at rs rp ⊢; exact ⟨rs.symm, rp.symm⟩
        rw [er] at hr
        refine ⟨_, _, hr, rfl, ⟨hI _ _ _ hi3 (St.put hl3 rfl (by omega)), World.putObj_heap_same (Array.getElem?_eq_some_iff.1 hl3).1, (World.putObj_heap_other (by omega)).trans hk4⟩, ?_⟩
        have hsz := hk3.size
        refine ⟨by simp [World.putObj] at hsz ⊢; exact hsz, fun k o hk h => ?_⟩
        by_cases ek : k = w.heap.size + 1
        · subst ek
          rw [j2] at h; cases h
          exact World.putObj_heap_same (Array.getElem?_eq_some_iff.1 hl3).1
        · exact (World.putObj_heap_other ek).trans (hk3.same k o hk ((World.putObj_heap_other ek).trans h))
      | ret => exact hp.elim
      | exit id => exact hp.elim
      | goto t => exact hp.elim
      | panic ch => exact hp.elim
      | outgrown => exact hp.elim
    · rintro e W2 ⟨⟨v, rfl⟩, j1, j2, j3⟩
      have hr := run_endLoop (P := Try.prog) j2 (by rw [rs]; simp)
      rw [rp] at hr
      refine ⟨none, _, hr, hdone _ _ (Nat.le_refl _) (hI _ _ _ j1 (St.put j2 rfl (by omega))) ((World.putObj_heap_other (by omega)).trans j3)⟩
end Go.Proofs.Ytkiadodoehcbmaa
