/-
  The iterator ordersFrom: all orders that begin so, one after the other.
-/
import Derived.Test.YtkiadodoehcbmaaBv11
import Derived.ArgAppend
namespace Go.Proofs.Ytkiadodoehcbmaa
open Go.RowKit

attribute [local go_sem] Oper.semAt_some
def mk11 (D : Nat) : Deferred := { target := .collected D, args := #[] }
theorem leaves_marks {fn : Func} {tmps : Array Value} {R : Ending → World → Prop} {B : Nat} : ∀ (Ds : List Nat) (W : World), Ds.Nodup → (∀ D ∈ Ds, B ≤ D ∧ W.heap[D]? = some (.deferred (some []))) → (∀ W', St B W W' → LeavesInM Fence.wide 0 Try.prog fn tmps R [] .returning W') → LeavesInM Fence.wide 0 Try.prog fn tmps R (Ds.map mk11) .returning W
  | [], W, _, _, h => h W (St.refl _ _)
  | D :: Ds, W, hn, hd, h => by
    have h0 := hd D (by simp)
    have hst : St B W (W.putObj D (.deferred none)) := St.put h0.2 rfl h0.1
    refine ⟨by simp, Or.inl ⟨D, _, rfl, run_takeDeferred h0.2, ?_⟩⟩
    refine leaves_marks Ds _ (List.nodup_cons.1 hn).2 (fun D' hD' => ?_) fun W' h' => h W' (hst.trans h')
    have hne : D' ≠ D := fun e => (List.nodup_cons.1 hn).1 (e ▸ hD')
    exact ⟨(hd D' (by simp [hD'])).1, (World.putObj_heap_other hne).trans (hd D' (by simp [hD'])).2⟩
theorem own_block_cells {w : World} {base n : Nat} {v : Value} {xs : List Value} (h : w.ownsRow base 3 1 v n xs) {g : Nat} (hv : v.ownBlock = some g) : ∃ o : Obj, w.heap[g]? = some o ∧ o.isCells = true := by
  rcases h.2 with ⟨rfl, _⟩ | ⟨g', cap, cur, rfl, _, hg, _⟩
  · simp [Value.ownBlock] at hv
  · simp [Value.ownBlock] at hv; subst hv; exact ⟨_, hg, rfl⟩
theorem own_st {w w' : World} {B base n : Nat} {v : Value} {xs : List Value} (h : w.ownsRow base 3 1 v n xs) (hs : St B w w') : w'.ownsRow base 3 1 v n xs :=
  own_keep h fun g hv _ => by
    obtain ⟨o, ho, hc⟩ := own_block_cells h hv
    rw [hs.c g o ho hc, ho]
theorem own_kb {w w' : World} {B base n : Nat} {v : Value} {xs : List Value} (h : w.ownsRow base 3 1 v n xs) (hs : Kb B w w') (hb : B ≤ base) : w'.ownsRow base 3 1 v n xs :=
  own_keep h fun g hv _ => by
    obtain ⟨o, ho, _⟩ := own_block_cells h hv
    rw [hs.same g o (Nat.le_trans hb (h.lt g hv).1) ho, ho]
/-- An order that is handed out. -/
def TO (n B : Nat) (o : List Nat) (v : Value) (W : World) : Prop := W.ownsRow B 3 1 v n (ints (cst o)) ∧ Rt.Bg n 0 o
/-- One number more, in new memory. -/
theorem push_new {W : World} {g m : Nat} {xs : List Int} {x : Int} (hx : xs.length = m) (hm : m ≤ 1000) (h1 : 1 ≤ m) (h : ARow W (some ⟨g, 0, none⟩) xs) :
    ∃ v' w', (∀ ty, (Builtin.append_ #[36, 36] ty #[.slice (some ⟨g, 0, none⟩) m m, .slice (some ⟨W.heap.size, 0, none⟩) 1 1]).run Try.prog (W.alloc (.cells #[.int .i64 x] 3)) = .ok v' w') ∧ w'.ownsRow W.heap.size 3 1 v' (m + 1) (ints xs ++ [.int .i64 x]) ∧ Below W.heap.size W w' := by
  obtain ⟨i0, hi, hz0, hz1, hz2⟩ := infoI
  have hrow := h.alloc (.cells #[.int .i64 x] 3)
  obtain ⟨v', w', h1', h2, h3⟩ := run_append_arg_grows (P := Try.prog) (w := W.alloc (.cells #[.int .i64 x] 3)) 36 0 3 i0 _ 1 8 Try.underlying36 hi hz0 hz1 hz2 rfl (by decide) ⟨g, 0, none⟩ m m (ints xs) (by rw [ints_len, hx]; omega) (fun j u hj => by
      rcases hrow with e | ⟨b, off, e, _, hc⟩
      · subst e; simp at hx; omega
      · cases e
        have hl : j < xs.length := by have := (List.getElem?_eq_some_iff.1 hj).1; rwa [ints_len] at this
        rw [add_plain', hc j hl]
        rw [ints_get xs j hl] at hj
        exact hj) ⟨W.heap.size, 0, none⟩ 1 1 [.int .i64 x] rfl (fun j u hj => by
      rcases vrow_new W (.int .i64 x) 3 with h | ⟨b, off, e, _, hc⟩
      · cases h
      · cases e; rw [add_plain']; exact hc j u hj) (by omega) (by unfold maxLen; omega) (by omega)
  refine ⟨v', w', fun _ => h1', owns_low h2 (by simp), ?_⟩
  have hA := below_alloc W (.cells #[.int .i64 x] 3)
  exact hA.trans ((grown_under10 h3 (fun b e => by cases e) (Nat.le_refl _)).mono hA.size)
end Go.Proofs.Ytkiadodoehcbmaa
