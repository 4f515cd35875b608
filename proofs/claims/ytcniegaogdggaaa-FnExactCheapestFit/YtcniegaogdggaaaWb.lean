/-
  What newSearch and see answer.
-/
import Derived.Test.YtcniegaogdggaaaWa
import Derived.Test.YtcniegaogdggaaaQw0
namespace Go.Proofs.Ytcniegaogdggaaa
open Go.RowKit

def mxs (k : Nat) : List Int := Hu.tab 10 fun b => if b < k then Hu.mx else 0
theorem mxs_zero : mxs 0 = z10 := rfl
theorem mxs_set {k : Nat} (hk : k < 10) : (mxs k).set k Hu.mx = mxs (k + 1) := by
  refine Hu.ext10 (by simp [mxs, Hu.tab]) (Hu.tab_len _ _) fun i hi => ?_
  rw [Hu.set_get9 _ _ _ _ (by simp [mxs, Hu.tab]; exact hi), mxs, mxs, Hu.tab_get _ hi, Hu.tab_get _ hi]
  by_cases e : i = k
  · subst e; simp
  · rw [if_neg e]
    by_cases h : i < k
    · rw [if_pos h, if_pos (by omega)]
    · rw [if_neg h, if_neg (by omega)]
theorem cast_range (k : Nat) : Hu.cast (List.range k) ++ [(k : Int)] = Hu.cast (List.range (k + 1)) := by simp [Hu.cast, List.range_succ]
theorem own_one {w : World} {base e s n : Nat} {v : Value} {xs : List Value} (h : w.ownsRow base e s v n xs) : v.oneCell' = true := by
  obtain ⟨a, c, rfl⟩ := own_form h; rfl
theorem grown_block {w w' : World} {k : Option Nat} {b : Nat} (hg : w.grownBy w' k) (hb : b < w.heap.size) (hk : some b ≠ k) : w'.heap[b]? = w.heap[b]? := hg.block b hb hk
set_option maxHeartbeats 4000000 in
theorem ns_any {n : Nat} {w : World} (hn : n ≤ 10) :
    Calls Try.prog 62 #[.int .i64 (n : Int)] w fun e w' => ∃ v, e = .returned (.agg (sl9 (.slice none 0 0) (.slice none 0 0) v (mxs n) z10).toArray) ∧ Below w.heap.size w w' ∧ w'.ownsRow (w.heap.size + 2) 3 1 v n (ints (Hu.cast (List.range n))) := by
  have HZ0 := hide (zsl_new w 81)
  have HZ1 := hide (zsl_new (w.alloc (.cells #[.slice none 0 0, .slice none 0 0, .slice none 0 0, .int .i64 0, .int .i64 0, .int .i64 0, .int .i64 0, .int .i64 0, .int .i64 0, .int .i64 0, .int .i64 0, .int .i64 0, .int .i64 0, .int .i64 0, .int .i64 0, .int .i64 0, .int .i64 0, .int .i64 0, .int .i64 0, .int .i64 0, .int .i64 0, .int .i64 0, .int .i64 0] 81)) 81)
  rw [World.size_alloc] at HZ1
  go_enter Try.func62, Try.ntmps62
  go_wp2_with fail
  go_loopw [4, 6] (fun _ s wr => ∃ (k : Nat) (v : Value), s = .int .i64 k ∧ k ≤ n ∧ Hid (SV wr (w.heap.size + 1) (.slice none 0 0) (.slice none 0 0) v (mxs k) z10) ∧ Hid (SV wr w.heap.size (.slice none 0 0) (.slice none 0 0) (.slice none 0 0) z10 z10) ∧ Hid (wr.ownsRow (w.heap.size + 2) 3 1 v k (ints (Hu.cast (List.range k)))) ∧ Hid (Below w.heap.size w wr)) (fun _ s _ => n - (intOf s).toNat)
  case atStart => exact ⟨0, .slice none 0 0, rfl, Nat.zero_le _, HZ1, hide (HZ0.out.below (below_new _ _)), hide (World.ownsRow_nil _ _ _ _), hide ((below_new _ _).trans ((below_new _ _).mono (by simp)))⟩
  case round =>
    clear HZ0 HZ1
    obtain ⟨k, v, rfl, hk, HS, HR, HO, HB⟩ := hrel
    by_cases hlt : k < n
    · have i0 : (0 : Int) ≤ (k : Int) := by omega
      have i1 : (k : Int) < 10 := by omega
      have c2 := HS.out.c2
      have hsz := HS.out.lt
      obtain ⟨g3, cap3, w3, hr3, own3, hg3, _⟩ := push_9 (t := 27) (x := .int .i64 (k : Int)) Try.underlying27 infoI rfl rfl (by decide) HO.out (by omega) (by omega)
      have hov : ∀ b, b < w.heap.size + 2 → some b ≠ v.ownBlock := fun b hb e => by have := HO.out.lt b e.symm; omega
      have kp : ∀ b, b < w.heap.size + 2 → w3.heap[b]? = wr.heap[b]? := fun b hb => (hg3.block b (by simp; omega) (hov b hb)).trans ((below_new wr _).block b (by omega))
      have hs3 : wr.heap.size ≤ w3.heap.size := Nat.le_trans (by simp) hg3.size
      have A3 := HS.out.keep hs3 (kp _ (by omega))
      have e2 := A3.c2
      have f2 := A3.fz 2 (by omega)
      have A4 := A3.set2 (v := .slice (some ⟨g3, 0, none⟩) (k + 1) cap3) rfl
      have e3 := A4.x (i := k) (by omega)
      have f3 := A4.fz (3 + k) (by omega)
      have A5 := A4.setx (k := k) (by omega) Hu.mx
      rw [mxs_set (by omega)] at A5
      have HA5 := hide A5
      have HR5 := hide ((HR.out.keep hs3 (kp _ (by omega))).keep (w' := (w3.setCell ⟨w.heap.size + 1, 2, none⟩ (.slice (some ⟨g3, 0, none⟩) (k + 1) cap3)).setCell ⟨w.heap.size + 1, 3 + k, none⟩ (.int .i64 Hu.mx)) (by simp) ((Below.heap_setCell _ _ _ _ (by simp)).trans (Below.heap_setCell _ _ _ _ (by simp))))
      have HO5 : Hid (((w3.setCell ⟨w.heap.size + 1, 2, none⟩ (.slice (some ⟨g3, 0, none⟩) (k + 1) cap3)).setCell ⟨w.heap.size + 1, 3 + k, none⟩ (.int .i64 Hu.mx)).ownsRow (w.heap.size + 2) 3 1 (.slice (some ⟨g3, 0, none⟩) (k + 1) cap3) (k + 1) (ints (Hu.cast (List.range (k + 1))))) := hide (by
        rw [← cast_range, ints_snoc]
        exact ownsRow_setCell_below (ownsRow_setCell_below own3 (by show w.heap.size + 1 < _; omega) _) (by show w.heap.size + 1 < _; omega) _)
      have HB5 := hide (((HB.out.trans (((below_new wr _).mono HB.out.size).trans (grown_under' hg3 (HO.out.alloc _) (by omega) (by have := HB.out.size; simp; omega)))).setCell (p := ⟨w.heap.size + 1, 2, none⟩) (by show w.heap.size ≤ w.heap.size + 1; omega) (.slice (some ⟨g3, 0, none⟩) (k + 1) cap3)).setCell (p := ⟨w.heap.size + 1, 3 + k, none⟩) (by show w.heap.size ≤ w.heap.size + 1; omega) (.int .i64 Hu.mx))
      generalize (mxs k).getD k 0 = y at e3
      clear own3 hg3 A3 A4 A5 kp hov
      unfold Hu.mx at *
      go_wp2_with (first | (at_builtin; refine Lib.wpList_append_run _ rfl _ _ _ _ rfl _ _ rfl rfl _ _ (hr3 _) ?_))
      go_roundw
      case rel => exact ⟨k + 1, _, by go_num, by omega, HA5, HR5, HO5, HB5⟩
      case measure => simp only [intOf]; omega
    · have hke : k = n := by omega
      subst hke
      have o1 := own_one HO.out
      go_wp2_with (first | (refine ws_load rfl _ rfl rfl HS ?_) | (refine ws_store rfl _ _ rfl rfl rfl HR HS.out.lx HS.out.ly rfl rfl o1 ?_; intro w2 A2 T2))
      refine bodyPost_ret (v := .agg (sl9 (.slice none 0 0) (.slice none 0 0) v (mxs k) z10).toArray) (res_search Try.results62 rfl A2) rfl ⟨v, rfl, HB.out.trans (T2.2.1 _ (by omega)), ?_⟩
      have := HO.out
      obtain ⟨a, c, rfl⟩ := own_form this
      refine ⟨this.1, ?_⟩
      rcases this.2 with h | ⟨g, cap, cur, hv, hb, hg, r⟩
      · exact Or.inl h
      · exact Or.inr ⟨g, cap, cur, hv, hb, (T2.2.2 g (by omega)).trans hg, r⟩
end Go.Proofs.Ytcniegaogdggaaa
