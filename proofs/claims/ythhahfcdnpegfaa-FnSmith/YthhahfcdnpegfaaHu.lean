/-
  Draws of chapter 7: families of the model's cursor, and the Draw functions.
-/
import Derived.Test.YthhahfcdnpegfaaHt
namespace Go.Proofs.Ythhahfcdnpegfaa
open Go.RowKit

def fce (L : List (Int × Int)) : List Value := L.flatMap fun f => [.int .i64 f.1, .int .i64 f.2]
theorem fce_snoc (L : List (Int × Int)) (f : Int × Int) : fce (L ++ [f]) = fce L ++ [.int .i64 f.1, .int .i64 f.2] := by simp [fce]
theorem fce_get : ∀ (L : List (Int × Int)) (i : Nat), i < L.length → (fce L)[i * 2]? = some (.int .i64 (L.getD i (0, 0)).1) ∧ (fce L)[i * 2 + 1]? = some (.int .i64 (L.getD i (0, 0)).2)
  | [], i, h => by simp at h
  | f :: r, 0, _ => by simp [fce]
  | f :: r, i + 1, h => by
    have ih := fce_get r i (by simpa using h)
    have e : fce (f :: r) = [.int .i64 f.1, .int .i64 f.2] ++ fce r := by simp [fce]
    rw [e, List.getD_cons_succ]
    constructor
    · rw [List.getElem?_append_right (by simp; omega)]
      rw [show (i + 1) * 2 - [Value.int IntKind.i64 f.1, Value.int IntKind.i64 f.2].length = i * 2 by simp; omega]
      exact ih.1
    · rw [List.getElem?_append_right (by simp; omega)]
      rw [show (i + 1) * 2 + 1 - [Value.int IntKind.i64 f.1, Value.int IntKind.i64 f.2].length = i * 2 + 1 by simp; omega]
      exact ih.2
theorem fce_set (f : Int × Int) (r : List (Int × Int)) (z : Int) : (fce (f :: r)).set 1 (.int .i64 z) = fce ((f.1, z) :: r) := by simp [fce]
theorem frow_own {w : World} {base n : Nat} {v : Value} {L : List (Int × Int)} (hx : L.length = n) (h : w.ownsRow base 68 2 v n (fce L)) : ∃ a cap, v = .slice a n cap ∧ FRow w a L := by
  rcases h.2 with ⟨rfl, hn⟩ | ⟨g, cap, cur, rfl, _, hg, _⟩
  · subst hn; exact ⟨none, 0, rfl, Or.inl (List.length_eq_zero_iff.1 hx)⟩
  · refine ⟨_, _, rfl, Or.inr ⟨g, 0, rfl, (Array.getElem?_eq_some_iff.1 hg).1, fun i hi => ?_⟩⟩
    obtain ⟨e1, e2⟩ := fce_get L i hi
    rw [Nat.zero_add, h.cellAt (i * 2) (by omega), h.cellAt (i * 2 + 1) (by omega)]
    exact ⟨e1, e2⟩
theorem push_fam {w : World} {base n : Nat} {v : Value} {xs : List Value} {x y : Int} (hown : w.ownsRow base 68 2 v n xs) (hn : n ≤ 100000) (hb : base ≤ w.heap.size) :
    ∃ v' w', (∀ ty, (Builtin.append_ #[41, 41] ty #[v, .slice (some ⟨w.heap.size, 0, none⟩) 1 1]).run Try.prog (w.alloc (.cells #[.int .i64 x, .int .i64 y] 68)) = .ok v' w') ∧ w'.ownsRow base 68 2 v' (n + 1) (xs ++ [.int .i64 x, .int .i64 y]) ∧ w.grownBy w' v.ownBlock := by
  have h : (Try.prog.info? 68).map (fun i => (i.zero, i.size, i.bytes)) = some (some (.agg #[.int .i64 0, .int .i64 0]), 2, 16) := by kernel_rfl
  obtain ⟨i0, hi, hzz⟩ := Option.map_eq_some_iff.1 h
  simp only [Prod.mk.injEq] at hzz
  obtain ⟨hz0, hz1, hz2⟩ := hzz
  obtain ⟨g, cap, w', h1, h2, h3, _, _⟩ := run_append_lies (P := Try.prog) (w := w.alloc (.cells #[.int .i64 x, .int .i64 y] 68)) 41 0 base 68 i0 _ 2 16 Try.underlying41 hi hz0 hz1 hz2 rfl (by decide) v n xs (hown.alloc _) ⟨w.heap.size, 0, none⟩ 1 1 [.int .i64 x, .int .i64 y] rfl (fun j u hj => by
      have hj2 : j = 0 ∨ j = 1 := by
        have := (List.getElem?_eq_some_iff.1 hj).1
        simp at this; omega
      rw [add_plain']
      rcases hj2 with rfl | rfl
      · simp at hj; subst hj; simp
      · simp at hj; subst hj; simp) (fun u hu => by simp at hu; rcases hu with rfl | rfl <;> rfl) (by omega) (by unfold maxLen; omega) (by omega) (by simp; omega) _ rfl
  refine ⟨_, w', fun _ => h1, h2, ?_⟩
  have hg := World.grownBy_alloc w (.cells #[.int .i64 x, .int .i64 y] 68) v.ownBlock
  exact ⟨h3.os.trans hg.os, h3.tape.trans hg.tape, h3.output.trans hg.output, Nat.le_trans hg.size h3.size, fun b hb hne => (h3.block b (Nat.lt_of_lt_of_le hb hg.size) hne).trans (hg.block b hb hne)⟩
def FPost (w : World) (c : Nat) (a : Option Addr) (len cap M : Nat) (e : Ending) (w' : World) : Prop :=
  ∃ v L, e = .returned v ∧ L.length ≤ 7 ∧ w'.ownsRow w.heap.size 68 2 v L.length (fce L) ∧ Cur w' c a len cap M ∧ Kp c w w'
set_option maxRecDepth 100000 in
set_option maxHeartbeats 4000000 in
theorem families_any {c len cap N : Nat} {a : Option Addr} {w : World} (hc : Cur w c a len cap N) (hN : N ≤ 700000000) :
    Calls Try.prog 47 #[.pointer (some ⟨c, 0, none⟩)] w (FPost w c a len cap (N + 80)) := by
  have hcw := hc.1
  have HOLD := hide hc.old
  have HC := hide hc
  clear hc
  go_enter Try.func47, Try.ntmps47
  go_wp2_with fail
  refine (pick_any 6 (by omega) HC.out (by omega)).mono ?_
  rintro e w1 ⟨r1, rfl, p0, p1, hc1, hk1⟩
  have HC1 := hide hc1
  have HK1 := hide hk1
  clear hc1 hk1
  go_upto_if 8 with (go_at_call 55; refine (one_any 20 (by omega) HC1.out (by omega)).mono ?_; rintro e w2 ⟨r2, rfl, hc2, hk2⟩; have HC2 := hide hc2; have HK2 := hide (HK1.out.trans hk2); clear hc2 hk2)
  go_cut [4] (fun s6 wc => ∃ k : Nat, s6 = .int .i64 k ∧ k ≤ 7 ∧ Hid (Cur wc c a len cap (N + 6)) ∧ Hid (Kp c w wc))
  case first =>
    cases r2
    · go_wp2_with fail
      go_meet
      case rel => exact ⟨r1.toNat, by congr 1; omega, by omega, hide (HC2.out.le (by omega)), HK2⟩
    · go_wp2_with fail
      refine (pick_any 2 (by omega) HC2.out (by omega)).mono ?_
      rintro e w3 ⟨z, rfl, z0, z1, hc3, hk3⟩
      have HK3 := hide (HK2.out.trans hk3)
      have HC3 := hide hc3
      clear hc3 hk3
      go_wp2_with fail
      go_meet
      case rel => exact ⟨(6 + z).toNat, by congr 1; omega, by omega, hide (HC3.out.le (by omega)), HK3⟩
  case rest =>
    obtain ⟨k0, rfl, hk0, HC4, HK4⟩ := hcut
    go_wp2_with fail
    go_loopw [3, 4] (fun v s wr => ∃ (k : Nat) (L : List (Int × Int)), s = .int .i64 k ∧ L.length + k ≤ 7 ∧ wr.ownsRow w.heap.size 68 2 v L.length (fce L) ∧ Hid (Cur wr c a len cap (N + 6 + 4 * L.length)) ∧ Hid (Kp c w wr)) (fun _ s _ => (intOf s).toNat)
    case atStart => exact ⟨k0, [], rfl, by simp; omega, World.ownsRow_nil _ _ _ _, hide (HC4.out.le (by simp)), HK4⟩
    case round =>
      obtain ⟨k, L, rfl, hlen, hown, HCR, HKR⟩ := hrel
      have HO := hide hown
      clear hown
      by_cases hk : 0 < k
      · have k1 : (0 : Int) < (k : Int) := by omega
        go_wp2_with fail
        refine (pick_any 20 (by omega) HCR.out (by omega)).mono ?_
        rintro e w3 ⟨r3, rfl, q0, q1, hc3, hk3⟩
        have HO3 := hide (own_kp HO.out hk3 hcw)
        have HC3 := hide hc3
        have HK3 := hide (HKR.out.trans hk3)
        clear hc3 hk3 HO HCR HKR
        go_wp2_with fail
        refine (pick_any 4 (by omega) HC3.out (by omega)).mono ?_
        rintro e w5 ⟨r5, rfl, q2, q3, hc5, hk5⟩
        have own5 := own_kp HO3.out hk5 hcw
        have HC5 := hide hc5
        have HK5 := hide (HK3.out.trans hk5)
        have hs5 := HK5.out.size
        obtain ⟨v6, w6, hr6, own6, hg6⟩ := push_fam (x := r3) (y := 1 + r5) own5 (by omega) hs5
        rw [← fce_snoc L (r3, 1 + r5)] at own6
        have HO6 := hide own6
        have HK6 := hide (kp_push HK5.out own5 hg6)
        have HC6 := hide (cur_push HC5.out hcw HOLD.out hs5 own5 hg6)
        clear hc5 hk5 own5 own6 hg6 HO3 HC3 HK3 HC5 HK5
        go_wp2_with (first | (at_builtin; refine Lib.wpList_append_run _ rfl _ _ _ _ rfl _ _ rfl rfl _ _ (hr6 _) ?_))
        go_roundw
        case rel => exact ⟨k - 1, L ++ [(r3, 1 + r5)], by congr 1; omega, by simp; omega, by rw [List.length_append]; exact HO6.out, hide (HC6.out.le (by simp; omega)), HK6⟩
        case measure => simp only [intOf]; omega
      · have k1 : ¬ (0 : Int) < (k : Int) := by omega
        obtain ⟨av, cv, rfl⟩ := own_form HO.out
        by_cases hl0 : L.length = 0
        · have z1 : ¬ (0 : Int) < (L.length : Int) := by omega
          clear hl0
          go_wp2_with fail
          go_ret
          exact ⟨_, L, rfl, by omega, HO.out, HCR.out.le (by omega), HKR.out⟩
        · have z1 : (0 : Int) < (L.length : Int) := by omega
          obtain ⟨g, cap', e1, hg0, hg1⟩ := own_some HO.out hl0
          cases e1
          go_wp2_with fail
          refine (one_any 30 (by omega) HCR.out (by omega)).mono ?_
          rintro e w3 ⟨r3, rfl, hc3, hk3⟩
          have HO3 := hide (own_kp HO.out hk3 hcw)
          have HC3 := hide hc3
          have HK3 := hide (HKR.out.trans hk3)
          clear hc3 hk3 HO HCR HKR
          cases r3
          · go_wp2_with fail
            go_ret
            exact ⟨_, L, rfl, by omega, HO3.out, HC3.out.le (by omega), HK3.out⟩
          · go_wp2_with fail
            refine (amongB_any (lo := -1) (hi := 1001) (HC3.out.below (below_alloc w3 _)) (by omega) (by omega) (by omega) (by simp) (by have := HC3.out.1; omega) (three_cells w3 _ (by omega) (by omega) (by omega))).mono ?_
            rintro e w4 ⟨z, rfl, z0, z1', hc4, hk4⟩
            have own4 := own_kp (HO3.out.alloc _) hk4 hcw
            have HC4' := hide hc4
            have HK4' := hide ((HK3.out.alloc _).trans hk4)
            obtain ⟨f, r, hL⟩ : ∃ f r, L = f :: r := by
              cases L with
              | nil => simp at hl0
              | cons f r => exact ⟨f, r, rfl⟩
            have c0 : w4.cell? ⟨g, 1, none⟩ = some (.int .i64 f.2) := by
              rw [own4.cellAt 1 (by omega), hL]; simp [fce]
            have f0 := own4.frozenAt 1
            obtain ⟨st1, _⟩ := own4.stored 1 (.int .i64 z)
            have HST : Hid ((w4.setCell ⟨g, 1, none⟩ (.int .i64 z)).ownsRow w.heap.size 68 2 (.slice (some ⟨g, 0, none⟩) L.length cv) ((f.1, z) :: r).length (fce ((f.1, z) :: r))) := hide (by
              have e : ((f.1, z) :: r).length = L.length := by rw [hL]; simp
              rw [e, ← fce_set, ← hL]; exact st1)
            have HLL : Hid (((f.1, z) :: r).length ≤ 7) := hide (by have := congrArg List.length hL; simp at this ⊢; omega)
            clear hc4 hk4 own4 st1 hL HO3 HC3 HK3
            go_wp2_with fail
            go_ret
            exact ⟨_, (f.1, z) :: r, rfl, HLL.out, HST.out, (cur_set HC4'.out hcw HOLD.out hg0).le (by omega), kp_set HK4'.out hg0⟩
end Go.Proofs.Ythhahfcdnpegfaa
