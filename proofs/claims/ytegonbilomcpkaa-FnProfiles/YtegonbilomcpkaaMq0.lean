/-
  The keys of the program's map: what a range meets, sorted.
-/
import Derived.Test.YtegonbilomcpkaaMp
import Derived.Test.YtegonbilomcpkaaBase
import Derived.Sort.OwnSortedInts
namespace Go.Proofs.Ytegonbilomcpkaa
open Go.RowKit Go.Maps Go.Sort

/-- The numbers below n that are asked for, rising. -/
def Dem.keys (f : Dem) (n : Nat) : List Nat := (List.range n).filter fun i => (f i).isSome
theorem keys_len (f : Dem) (n : Nat) : (f.keys n).length ≤ n := by
  have := List.length_filter_le (fun i => (f i).isSome) (List.range n)
  simpa [Dem.keys] using this
theorem mem_keys {f : Dem} {n i : Nat} : i ∈ f.keys n ↔ i < n ∧ (f i).isSome = true := by simp [Dem.keys]
theorem keys_rise (f : Dem) (n : Nat) : (f.keys n).Pairwise (· < ·) := List.Pairwise.filter _ List.pairwise_lt_range

/-- What has been met so far: each key that is there and no longer to come, once. -/
structure Coll (D : DataW Unit) (left : Lit → Bool) (xs : List Int) : Prop where
  nodup : xs.Nodup
  mem : ∀ x, x ∈ xs ↔ (has D (.int .i64 x) = true ∧ left (.int .i64 x) = false)
theorem Coll.start (D : DataW Unit) : Coll D (has D) [] := ⟨List.nodup_nil, fun x => by simp⟩
theorem Coll.step {D : DataW Unit} {left : Lit → Bool} {xs : List Int} {x : Int} (h : Coll D left xs) (hl : left (.int .i64 x) = true) (hh : has D (.int .i64 x) = true) :
    Coll D (fun z => left z && !z.sameKey (.int .i64 x)) (xs ++ [x]) := by
  have hx : x ∉ xs := fun hm => by have := ((h.mem x).1 hm).2; rw [hl] at this; cases this
  refine ⟨?_, fun y => ?_⟩
  · rw [List.nodup_append]
    exact ⟨h.nodup, by simp, fun a ha b hb e => by simp at hb; subst hb; subst e; exact hx ha⟩
  · rw [List.mem_append, List.mem_singleton, h.mem y]
    by_cases e : y = x
    · subst e; simp [hh, Lit.sameKey]
    · simp [e, Lit.sameKey]
theorem Coll.sorted {D : DataW Unit} {f : Dem} {n : Nat} {left : Lit → Bool} {xs : List Int} (h : Coll D left xs) (hd : Dm D f n) (hl : ∀ kl, left kl = false) : (xs.mergeSort fun x y => decide (x ≤ y)) = nats (f.keys n) := by
  have hperm : xs.Perm (nats (f.keys n)) := by
    refine (List.perm_ext_iff_of_nodup h.nodup ?_).2 fun x => ?_
    · refine List.Pairwise.map _ (fun a b (hab : a < b) => ?_) (keys_rise f n)
      simp; omega
    · rw [h.mem x]
      simp only [hl, and_true, nats, List.mem_map]
      constructor
      · intro hx
        obtain ⟨i, hi, hk⟩ := hd.keys _ hx
        unfold ky at hk
        injection hk with _ hk
        exact ⟨i, mem_keys.2 ⟨hi, by rw [← hd.has_ i]; unfold ky; rw [← hk]; exact hx⟩, hk.symm⟩
      · rintro ⟨i, hi, rfl⟩
        rw [← (mem_keys.1 hi).2, ← hd.has_ i]; rfl
  refine List.Perm.eq_of_pairwise (le := fun a b => decide (a ≤ b) = true) (fun a b _ _ h1 h2 => ?_) (List.pairwise_mergeSort (fun a b c h1 h2 => ?_) (fun a b => ?_) xs) ?_ ((List.mergeSort_perm _ _).trans hperm)
  · simp at h1 h2; omega
  · simp at h1 h2 ⊢; omega
  · simp; omega
  · refine List.Pairwise.map _ (fun a b (hab : a < b) => ?_) (keys_rise f n)
    simp; omega

end Go.Proofs.Ytegonbilomcpkaa
