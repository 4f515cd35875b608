/-
  Lists of fractions in memory; what eachKind, firstBest and greatestGain of the program, l4Gain and l4Next of the model answer.
-/
import Derived.Test.YtlbagigghpiifaaSb
import Derived.Test.YtlbagigghpiifaaJ
import Derived.OwnWalk
import Derived.Laws.AppendOwn
import Derived.Deep.RegionHeld3
import Derived.Shelf.Abstract
namespace Go.Proofs.Ytlbagigghpiifaa
open Go.RowKit

def fcells : List (Int × Int) → List Value
  | [] => []
  | x :: r => .int .i64 x.1 :: .int .i64 x.2 :: fcells r
theorem fcells_len (xs : List (Int × Int)) : (fcells xs).length = xs.length * 2 := by
  induction xs with
  | nil => rfl
  | cons x r ih => simp [fcells, ih]; omega
theorem fcells_snoc (xs : List (Int × Int)) (p : Int × Int) : fcells (xs ++ [p]) = fcells xs ++ [.int .i64 p.1, .int .i64 p.2] := by
  induction xs with
  | nil => rfl
  | cons x r ih => simp [fcells, ih]
theorem fcells_get (xs : List (Int × Int)) (i : Nat) (h : i < xs.length) : (fcells xs)[i * 2]? = some (.int .i64 (xs.getD i (0, 0)).1) ∧ (fcells xs)[i * 2 + 1]? = some (.int .i64 (xs.getD i (0, 0)).2) := by
  induction xs generalizing i with
  | nil => simp at h
  | cons x r ih =>
    cases i with
    | zero => simp [fcells]
    | succ i =>
      have := ih i (by simpa using h)
      rw [show (i + 1) * 2 = i * 2 + 2 by omega]
      simpa [fcells] using this
/-- A list of fractions that is owned, as it lies. -/
theorem frow_owns {w : World} {base e n : Nat} {v : Value} {xs : List (Int × Int)} (hn : xs.length = n) (h : w.ownsRow base e 2 v n (fcells xs)) :
    (v = .slice none 0 0 ∧ n = 0) ∨ ∃ g cap, v = .slice (some ⟨g, 0, none⟩) n cap ∧ base ≤ g ∧ g < w.heap.size ∧ RowAt w g 0 xs := by
  subst hn
  rcases h.2 with ⟨rfl, hn⟩ | ⟨g, cap, cur, rfl, hb, hg, hn, hm, hsz, htake⟩
  · exact Or.inl ⟨rfl, hn⟩
  · refine Or.inr ⟨g, cap, rfl, hb, ?_, ?_⟩
    · rcases Nat.lt_or_ge g w.heap.size with h' | h'
      · exact h'
      · rw [Array.getElem?_eq_none h'] at hg; cases hg
    · intro i hi
      have hcell : ∀ j, j < xs.length * 2 → w.cell? ⟨g, j, none⟩ = (fcells xs)[j]? := by
        intro j hj
        rw [← htake, List.getElem?_take]
        simp [World.cell?, hg, hj]
      obtain ⟨f0, f1⟩ := fcells_get xs i hi
      refine ⟨?_, ?_⟩
      · rw [Nat.zero_add, hcell _ (by omega), f0]
      · rw [Nat.zero_add, hcell _ (by omega), f1]
theorem own_far {w : World} {base e s n k : Nat} {v : Value} {xs : List Value} (h : w.ownsRow base e s v n xs) (hk : k < base) : some k ≠ v.ownBlock := by
  rcases h.2 with ⟨rfl, _⟩ | ⟨g, cap, cur, rfl, hb, _⟩
  · simp [Value.ownBlock]
  · simp [Value.ownBlock]; omega
/-- What is owned stays over a call that leaves all that was there alone. -/
theorem own_below {w w' : World} {base e s n : Nat} {v : Value} {xs : List Value} (h : w.ownsRow base e s v n xs) (hb : Below w.heap.size w w') : w'.ownsRow base e s v n xs := by
  refine ⟨h.1, ?_⟩
  rcases h.2 with h0 | ⟨g, cap, cur, hv, hbg, hg, r⟩
  · exact Or.inl h0
  · have hlt : g < w.heap.size := by
      rcases Nat.lt_or_ge g w.heap.size with h' | h'
      · exact h'
      · rw [Array.getElem?_eq_none h'] at hg; cases hg
    exact Or.inr ⟨g, cap, cur, hv, hbg, (hb.block g hlt).trans hg, r⟩
theorem own_grow {w w' : World} {o : Obj} {B base e s n : Nat} {v : Value} {xs : List Value} (own : w.ownsRow base e s v n xs) (hg : (w.alloc o).grownBy w' v.ownBlock) (h1 : B ≤ base) (h2 : B ≤ w.heap.size) : Below B w w' :=
  ((Below.refl _ _).alloc h2 o).trans ⟨hg.os, hg.tape, hg.output, hg.size, fun k hk => hg.block k (by simp; omega) (own_far own (by omega))⟩
theorem new_frac (w : World) (p : Int × Int) (t : TypeId) {H : Nat} (hH : w.heap.size = H) : ∀ (j : Nat) (u : Value), ([.int .i64 p.1, .int .i64 p.2] : List Value)[j]? = some u → (w.alloc (.cells #[.int .i64 p.1, .int .i64 p.2] t)).cell? ((⟨H, 0, none⟩ : Addr).add j) = some u := by
  intro j u hj
  subst hH
  match j, hj with
  | 0, hj => simp at hj; subst hj; simp [Addr.add]
  | 1, hj => simp at hj; subst hj; simp [Addr.add]
theorem frac_cells (p : Int × Int) : ∀ u ∈ ([.int .i64 p.1, .int .i64 p.2] : List Value), u.oneCell' = true := by
  intro u hu
  simp at hu
  rcases hu with rfl | rfl <;> rfl
theorem infF : (Try.prog.info? 30).map (fun i => (i.zero, i.size, i.bytes)) = some (some (.agg #[.int .i64 0, .int .i64 0]), 2, 16) := by kernel_rfl
theorem each_take (F : Int → Int → Int × Int) (fs cs : List Int) (k : Nat) (h : k < fs.length) : (Sh.each F fs cs).take (k + 1) = (Sh.each F fs cs).take k ++ [F (fs.getD k 0) (cs.getD k 0)] := by
  have hl : k < (Sh.each F fs cs).length := by rw [Sh.each_len]; exact h
  rw [List.take_succ_eq_append_getElem hl, ← Pf.getD_lt _ (0, 0) hl, Sh.each_at _ _ _ h]

set_option maxHeartbeats 2000000 in
theorem eachK_any {a b : Option Addr} {n c d g : Nat} {fs cs : List Int} {w : World} (F : Int → Int → Int × Int) (eg : ∀ args w, (callFunc g args).run Try.prog w = .ok (.enter g args) w)
    (hF : Hid (∀ f c w, 1 ≤ f → f ≤ 30 → 1 ≤ c → c ≤ 40 → Calls Try.prog g #[.int .i64 f, .int .i64 c] w fun e w' => e = .returned (fv (F f c)) ∧ Below w.heap.size w w'))
    (h : Hid (ARow w a fs)) (hn : Hid (fs.length = n)) (h' : Hid (ARow w b cs)) (hs : Hid (Sh.sharedB fs cs = true)) :
    Calls Try.prog 66 #[.slice a n c, .slice b n d, .func (.func g) #[] #[]] w fun e w' => ∃ v, e = .returned v ∧ Below w.heap.size w w' ∧ w'.ownsRow w.heap.size 30 2 v n (fcells (Sh.each F fs cs)) := by
  obtain ⟨i0, hi, hz0, hz1, hz2⟩ := info_parts infF
  have hm : Hid (cs.length = n) := hide (by rw [(Sh.sharedB_yes hs.out).2.1]; exact hn.out)
  have h8 : n ≤ 8 := by have := Sh.flowB_yes (Sh.sharedB_yes hs.out).1; have := hn.out; omega
  go_enter Try.func66, Try.ntmps66
  go_wp2_with fail
  go_loopw [7, 8, 9, 12] (fun v _ _ s wr => ∃ k : Nat, s = .int .i64 k ∧ k ≤ n ∧ wr.ownsRow w.heap.size 30 2 v k (fcells ((Sh.each F fs cs).take k)) ∧ Below w.heap.size w wr) (fun _ _ _ s _ => n - (intOf s).toNat)
  case atStart => exact ⟨0, rfl, Nat.zero_le _, World.ownsRow_nil _ _ _ _, Below.refl _ _⟩
  case round =>
    obtain ⟨k, rfl, hk, hown, hB⟩ := hrel
    by_cases hlt : k < n
    · obtain ⟨ba, oa, rfl, r1⟩ := (h.out.below hB).at (i := k) (by rw [hn.out]; exact hlt)
      obtain ⟨bb, ob, rfl, r2⟩ := (h'.out.below hB).at (i := k) (by rw [hm.out]; exact hlt)
      have k0 : (0 : Int) ≤ (k : Int) := by omega
      have k1 : (k : Int) < (n : Int) := by omega
      obtain ⟨f0, f1⟩ := Sh.flowB_at (Sh.sharedB_yes hs.out).1 (i := k) (by rw [hn.out]; exact hlt)
      obtain ⟨c0, c1⟩ := Sh.sharedB_at hs.out (i := k) (by rw [hn.out]; exact hlt)
      have HT := hide (each_take F fs cs k (by rw [hn.out]; exact hlt))
      generalize fs.getD k 0 = x at *
      generalize cs.getD k 0 = y at *
      have hcall := hide (hF.out x y wr f0 f1 c0 c1)
      generalize F x y = p at *
      rw [fv_eq] at hcall
      have hown1 := hide hown
      clear hown
      go_wp2_with (first
        | (go_at_fn g; refine hcall.out.mono ?_; rintro e w1 ⟨rfl, hb1⟩; have own1 := own_below hown1.out hb1; have hs1 := hb1.size; have hs2 := hB.size)
        | (at_builtin; refine wpList_append_own _ rfl _ _ 53 rfl w.heap.size 30 i0 (.agg #[.int .i64 0, .int .i64 0]) 2 16 Try.underlying53 hi hz0 hz1 hz2 rfl (by decide) _ _ _ rfl (own1.alloc _) ⟨w1.heap.size, 0, none⟩ 1 1 [.int .i64 p.1, .int .i64 p.2] rfl rfl (new_frac _ _ _ rfl) (frac_cells _) (by unfold maxLen; omega) (by omega) (by simp; omega) ?_))
      intro v' w4 hown' hgrow _
      have hfin := own_grow own1 hgrow (Nat.le_refl _) (by omega)
      rw [← fcells_snoc, ← HT.out] at hown'
      go_wp2_with fail
      go_roundw
      case rel => exact ⟨k + 1, by go_num, by omega, hown', (hB.trans (hb1.mono hs2)).trans hfin⟩
      case measure => simp only [intOf]; omega
    · have hke : k = n := by omega
      subst hke
      have HE : Hid ((Sh.each F fs cs).take k = Sh.each F fs cs) := hide (by rw [List.take_of_length_le]; rw [Sh.each_len, hn.out]; exact Nat.le_refl _)
      rw [HE.out] at hown
      go_wp2_with fail
      go_ret
      exact ⟨_, rfl, hB, hown⟩
end Go.Proofs.Ytlbagigghpiifaa
