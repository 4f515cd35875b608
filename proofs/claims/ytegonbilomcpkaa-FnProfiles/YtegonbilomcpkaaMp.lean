/-
  The program's map from a good's number to how much it is asked for, as a plain function; what add answers.
-/
import Derived.Test.YtegonbilomcpkaaBase
import Derived.Maps.RangeWalk
import Derived.Maps.OwnSet
import Derived.Maps.OwnOps
namespace Go.Proofs.Ytegonbilomcpkaa
open Go.RowKit Go.Maps

theorem own_keep' {w w' : World} {base n : Nat} {v : Value} {xs : List Value} (h : w.ownsRow base 3 1 v n xs) (hb : ∀ g, v.ownBlock = some g → g < w.heap.size → w'.heap[g]? = w.heap[g]?) : w'.ownsRow base 3 1 v n xs := by
  rcases h with ⟨h0, h | ⟨g', cap, cur, rfl, h2, h3, h4⟩⟩
  · exact ⟨h0, Or.inl h⟩
  · exact ⟨h0, Or.inr ⟨g', cap, cur, rfl, h2, (hb g' rfl (Array.getElem?_eq_some_iff.1 h3).1).trans h3, h4⟩⟩
abbrev Dem := Nat → Option (Int × Int)
def Dem.get (f : Dem) (i : Nat) : Int × Int := (f i).getD (0, 0)
def Dem.set (f : Dem) (i : Nat) (x : Int × Int) : Dem := fun j => if j = i then some x else f j
def Dem.del (f : Dem) (i : Nat) : Dem := fun j => if j = i then none else f j

/-- How a tally reads. -/
def tal (p q : Int) : DataW Unit := .agg [.lit (.int .i64 p), .lit (.int .i64 q)]
def RT : Value → Option (DataW Unit × List MemPlace)
  | .agg xs => match xs.toList with
    | [.int .i64 p, .int .i64 q] => some (tal p q, [])
    | _ => none
  | _ => none
theorem RT_mk (p q : Int) : RT (.agg #[.int .i64 p, .int .i64 q]) = some (tal p q, []) := rfl
theorem RT_inv {v : Value} {z : DataW Unit × List MemPlace} (h : RT v = some z) : ∃ p q, v = .agg #[.int .i64 p, .int .i64 q] ∧ z = (tal p q, []) := by
  unfold RT at h
  split at h
  · rename_i xs
    split at h
    · rename_i p q hx
      cases h
      refine ⟨p, q, ?_, rfl⟩
      have : xs = #[.int .i64 p, .int .i64 q] := by rw [← hx]
      rw [this]
    · cases h
  · cases h
theorem tal_inj {p q p' q' : Int} (h : tal p q = tal p' q') : p = p' ∧ q = q' := by
  unfold tal at h
  injection h with h
  injection h with h1 h2
  injection h1 with h1
  injection h2 with h2 _
  injection h2 with h2
  injection h1 with _ h1
  injection h2 with _ h2
  exact ⟨h1, h2⟩

def ky (i : Nat) : Lit := .int .i64 (i : Int)
theorem ky_ne {i j : Nat} (h : i ≠ j) : ky i ≠ ky j := fun e => by
  unfold ky at e
  injection e with _ e
  omega
theorem ky_key (i : Nat) : WideAt.IsKeyLit (ky i) := trivial
theorem ky_of {i : Nat} (h : i ≤ 1000000) : keyOf Try.prog 3 (.int .i64 (i : Int)) = some (ky i) := keyOf_int_mk Try.underlying3 (by simp [Lit.wf, IntKind.min, IntKind.max, IntKind.bits, IntKind.signed]; omega)

/-- A datum that reads as the function f, its keys below n. -/
structure Dm (D : DataW Unit) (f : Dem) (n : Nat) : Prop where
  keys : ∀ kl, has D kl = true → ∃ i, i < n ∧ kl = ky i
  has_ : ∀ i, has D (ky i) = (f i).isSome
  at_ : ∀ i p q, f i = some (p, q) → ∀ z, D.atKey (ky i) z = tal p q
theorem Dm.get {D : DataW Unit} {f : Dem} {n : Nat} (h : Dm D f n) (i : Nat) : D.atKey (ky i) (tal 0 0) = tal (f.get i).1 (f.get i).2 := by
  unfold Dem.get
  cases hf : f i with
  | none =>
    have := h.has_ i
    rw [hf] at this
    rw [atKey_of_not_has this]; rfl
  | some x => obtain ⟨p, q⟩ := x; rw [h.at_ i p q hf]; rfl
theorem Dm.empty (n : Nat) : Dm (.map []) (fun _ => none) n := { keys := fun kl h => by simp [Maps.has] at h, has_ := fun _ => rfl, at_ := fun _ _ _ h => by simp at h }
theorem Dm.put {D : DataW Unit} {f : Dem} {n : Nat} (h : Dm D f n) (hD : IsMap D) {i : Nat} (hi : i < n) (p q : Int) : Dm (D.put (ky i) (tal p q)) (f.set i (p, q)) n := by
  refine ⟨fun kl hk => ?_, fun j => ?_, fun j p' q' hf z => ?_⟩
  · by_cases e : kl = ky i
    · exact ⟨i, hi, e⟩
    · rw [has_put_other e] at hk; exact h.keys kl hk
  · unfold Dem.set
    by_cases e : j = i
    · subst e; rw [has_put_same hD (ky_key j)]; simp
    · rw [has_put_other (ky_ne e), h.has_ j]; simp [e]
  · unfold Dem.set at hf
    by_cases e : j = i
    · subst e
      simp at hf
      rw [atKey_put_same hD (ky_key j)]
      rw [hf.1, hf.2]
    · rw [if_neg e] at hf
      rw [atKey_put_other (ky_ne e), h.at_ j p' q' hf]
theorem Dm.drop {D : DataW Unit} {f : Dem} {n : Nat} (h : Dm D f n) (i : Nat) : Dm (D.del (ky i)) (f.del i) n := by
  refine ⟨fun kl hk => ?_, fun j => ?_, fun j p' q' hf z => ?_⟩
  · by_cases e : kl = ky i
    · rw [e, has_del_same] at hk; cases hk
    · rw [has_del_other e] at hk; exact h.keys kl hk
  · unfold Dem.del
    by_cases e : j = i
    · subst e; rw [has_del_same]; simp
    · rw [has_del_other (ky_ne e), h.has_ j]; simp [e]
  · unfold Dem.del at hf
    by_cases e : j = i
    · subst e; simp at hf
    · rw [if_neg e] at hf
      rw [atKey_del_other (ky_ne e), h.at_ j p' q' hf]

/-- Block b is a map of at most nn entries that reads as f, its keys below n. -/
def MO (w : World) (b n nn : Nat) (f : Dem) : Prop := ∃ D, w.ownsMap Try.prog 3 RT b nn D ∧ Dm D f n
theorem MO.lt {w : World} {b n nn : Nat} {f : Dem} (h : MO w b n nn f) : b < w.heap.size := by obtain ⟨D, h, _⟩ := h; exact h.lt
theorem MO.keep {w w' : World} {b n nn : Nat} {f : Dem} (h : MO w b n nn f) (hb : w'.heap[b]? = w.heap[b]?) : MO w' b n nn f := by
  obtain ⟨D, ⟨es, clock, h1, h2⟩, hd⟩ := h
  exact ⟨D, ⟨es, clock, hb.trans h1, h2⟩, hd⟩
theorem MO.below {w w' : World} {b n nn : Nat} {f : Dem} (h : MO w b n nn f) (hb : Below w.heap.size w w') : MO w' b n nn f := h.keep (hb.block b h.lt)
theorem MO.made (w : World) (n : Nat) : MO (w.alloc (.map #[] 0)) w.heap.size n 0 (fun _ => none) := ⟨_, World.ownsMap_made w Try.prog 3 RT, Dm.empty n⟩
theorem zero_tally (w : World) : (zeroValue 85).run Try.prog w = .ok (.agg #[.int .i64 0, .int .i64 0]) w := Try.zeroValue85 w
theorem MO.look {w : World} {b n nn : Nat} {f : Dem} (h : MO w b n nn f) {i : Nat} (hi : i ≤ 1000000) :
    (Instr.lookup 65 (.map (some b)) (.int .i64 (i : Int)) false).run Try.prog w = .ok (.agg #[.int .i64 (f.get i).1, .int .i64 (f.get i).2]) w := by
  obtain ⟨D, h, hd⟩ := h
  obtain ⟨v, ps, hrun, hv⟩ := h.lookup (int_keyed Try.underlying3) Try.underlying65 (zero_tally w) (RT_mk 0 0) (ky_of hi)
  obtain ⟨p, q, rfl, hz⟩ := RT_inv hv
  rw [hd.get i] at hz
  obtain ⟨h1, h2⟩ := tal_inj (show tal (f.get i).1 (f.get i).2 = tal p q from congrArg Prod.fst hz)
  rw [hrun, h1, h2]
set_option maxRecDepth 100000 in
theorem MO.put {w : World} {b n nn : Nat} {f : Dem} (h : MO w b n nn f) {i : Nat} (hi : i < n) (hn : n ≤ 1000000) (hnn : nn < maxLen) (p q : Int) :
    ∃ w', (Instr.mapUpdate 65 (.map (some b)) (.int .i64 (i : Int)) (.agg #[.int .i64 p, .int .i64 q])).run Try.prog w = .ok () w' ∧ MO w' b n (nn + 1) (f.set i (p, q)) ∧ w.grownBy w' (some b) := by
  obtain ⟨D, h, hd⟩ := h
  obtain ⟨w', hrun, h1, h2⟩ := h.update (int_keyed Try.underlying3) Try.underlying65 hnn (ky_of (i := i) (by omega)) (RT_mk p q)
  exact ⟨w', hrun, ⟨_, h1, hd.put h.isMap hi p q⟩, h2⟩

set_option maxHeartbeats 1000000 in
set_option maxRecDepth 100000 in
theorem add_any {w : World} {b n nn i : Nat} {f : Dem} {p q : Int} (h : MO w b n nn f) (hi : i < n) (hn : n ≤ 1000000) (hnn : nn ≤ 1000000) (h1 : 0 ≤ (f.get i).1) (h2 : (f.get i).1 ≤ 1000000000) (h3 : 0 ≤ (f.get i).2) (h4 : (f.get i).2 ≤ 1000000000) (p0 : 0 ≤ p) (p1 : p ≤ 1000000000) (q0 : 0 ≤ q) (q1 : q ≤ 1000000000) :
    Calls Try.prog 35 #[.map (some b), .int .i64 (i : Int), .int .i64 p, .int .i64 q] w fun e w' => e = .returned (.tuple #[]) ∧ MO w' b n (nn + 1) (f.set i ((f.get i).1 + p, (f.get i).2 + q)) ∧ w.grownBy w' (some b) := by
  have hl := h.look (i := i) (by omega)
  have hal := h.keep (w' := w.alloc (.cells #[.int .i64 (f.get i).1, .int .i64 (f.get i).2] 85)) (((Below.refl _ _).alloc (Nat.le_refl _) _).block b h.lt)
  obtain ⟨w2, hr, hm2, hg2⟩ := hal.put hi hn (by unfold maxLen; omega) ((f.get i).1 + p) ((f.get i).2 + q)
  have HM := hide hm2
  have HG := hide hg2
  have HB := hide ((Below.refl w.heap.size w).alloc (Nat.le_refl _) (.cells #[.int .i64 (f.get i).1, .int .i64 (f.get i).2] 85))
  clear hm2 hg2 hal h
  generalize (f.get i).1 = x at *
  generalize (f.get i).2 = y at *
  go_enter Try.func35, Try.ntmps35
  go_wp2_with fail
  go_end0
  refine ⟨rfl, HM.out, ?_⟩
  exact ⟨HG.out.os.trans HB.out.os, HG.out.tape.trans HB.out.tape, HG.out.output.trans HB.out.output, Nat.le_trans HB.out.size HG.out.size, fun k hk hne => (HG.out.block k (by simp; omega) hne).trans (HB.out.block k hk)⟩
end Go.Proofs.Ytegonbilomcpkaa
