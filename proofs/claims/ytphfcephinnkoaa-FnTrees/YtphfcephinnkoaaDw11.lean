/-
  Draws of chapter 11: what spot and stops of the model's cursor hand out, and the Draw functions.
-/
import Derived.Test.YtphfcephinnkoaaHt
import Derived.Test.YtphfcephinnkoaaMm11
namespace Go.Proofs.Ytphfcephinnkoaa
open Go.RowKit

def fce (L : List (Int × Int)) : List Value := L.flatMap fun f => [.int .i64 f.1, .int .i64 f.2]
theorem fce_snoc (L : List (Int × Int)) (f : Int × Int) : fce (L ++ [f]) = fce L ++ [.int .i64 f.1, .int .i64 f.2] := by simp [fce]
theorem fce_get : ∀ (L : List (Int × Int)) (i : Nat), i < L.length → (fce L)[i * 2]? = some (.int .i64 (L.getD i (0, 0)).1) ∧ (fce L)[i * 2 + 1]? = some (.int .i64 (L.getD i (0, 0)).2)
  | [], i, h => by simp at h
  | f :: r, 0, _ => by simp [fce]
  | f :: r, i + 1, h => by
    have ih := fce_get r i (by simpa using h)
    have e : fce (f :: r) = [.int .i64 f.1, .int .i64 f.2] ++ fce r := by simp [fce]
    rw [e, List.getD_cons_succ]
    constructor
    · rw [List.getElem?_append_right (by simp; omega)]
      rw [show (i + 1) * 2 - [Value.int IntKind.i64 f.1, Value.int IntKind.i64 f.2].length = i * 2 by simp; omega]
      exact ih.1
    · rw [List.getElem?_append_right (by simp; omega)]
      rw [show (i + 1) * 2 + 1 - [Value.int IntKind.i64 f.1, Value.int IntKind.i64 f.2].length = i * 2 + 1 by simp; omega]
      exact ih.2
theorem frow_own {w : World} {base n : Nat} {v : Value} {L : List (Int × Int)} (hx : L.length = n) (h : w.ownsRow base 35 2 v n (fce L)) : ∃ a cap, v = .slice a n cap ∧ FRow w a L := by
  rcases h.2 with ⟨rfl, hn⟩ | ⟨g, cap, cur, rfl, _, hg, _⟩
  · subst hn; exact ⟨none, 0, rfl, Or.inl (List.length_eq_zero_iff.1 hx)⟩
  · refine ⟨_, _, rfl, Or.inr ⟨g, 0, rfl, (Array.getElem?_eq_some_iff.1 hg).1, fun i hi => ?_⟩⟩
    obtain ⟨e1, e2⟩ := fce_get L i hi
    rw [Nat.zero_add, h.cellAt (i * 2) (by omega), h.cellAt (i * 2 + 1) (by omega)]
    exact ⟨e1, e2⟩
theorem push_sp {w : World} {base n : Nat} {v : Value} {xs : List Value} {x y : Int} (hown : w.ownsRow base 35 2 v n xs) (hn : n ≤ 100000) (hb : base ≤ w.heap.size) :
    ∃ v' w', (∀ ty, (Builtin.append_ #[23, 23] ty #[v, .slice (some ⟨w.heap.size, 0, none⟩) 1 1]).run Try.prog (w.alloc (.cells #[.int .i64 x, .int .i64 y] 35)) = .ok v' w') ∧ w'.ownsRow base 35 2 v' (n + 1) (xs ++ [.int .i64 x, .int .i64 y]) ∧ w.grownBy w' v.ownBlock := by
  have h : (Try.prog.info? 35).map (fun i => (i.zero, i.size, i.bytes)) = some (some (.agg #[.int .i64 0, .int .i64 0]), 2, 16) := by kernel_rfl
  obtain ⟨i0, hi, hzz⟩ := Option.map_eq_some_iff.1 h
  simp only [Prod.mk.injEq] at hzz
  obtain ⟨hz0, hz1, hz2⟩ := hzz
  obtain ⟨g, cap, w', h1, h2, h3, _, _⟩ := run_append_lies (P := Try.prog) (w := w.alloc (.cells #[.int .i64 x, .int .i64 y] 35)) 23 0 base 35 i0 _ 2 16 Try.underlying23 hi hz0 hz1 hz2 rfl (by decide) v n xs (hown.alloc _) ⟨w.heap.size, 0, none⟩ 1 1 [.int .i64 x, .int .i64 y] rfl (fun j u hj => by
      have hj2 : j = 0 ∨ j = 1 := by
        have := (List.getElem?_eq_some_iff.1 hj).1
        simp at this; omega
      rw [add_plain']
      rcases hj2 with rfl | rfl
      · simp at hj; subst hj; simp
      · simp at hj; subst hj; simp) (fun u hu => by simp at hu; rcases hu with rfl | rfl <;> rfl) (by omega) (by unfold maxLen; omega) (by omega) (by simp; omega) _ rfl
  refine ⟨_, w', fun _ => h1, h2, ?_⟩
  have hg := World.grownBy_alloc w (.cells #[.int .i64 x, .int .i64 y] 35) v.ownBlock
  exact ⟨h3.os.trans hg.os, h3.tape.trans hg.tape, h3.output.trans hg.output, Nat.le_trans hg.size h3.size, fun b hb hne => (h3.block b (Nat.lt_of_lt_of_le hb hg.size) hne).trans (hg.block b hb hne)⟩
set_option maxRecDepth 100000 in
set_option maxHeartbeats 1000000 in
theorem spot_any {c len cap N : Nat} {a : Option Addr} {w : World} (hc : Cur w c a len cap N) (hN : N ≤ 800000000) :
    Calls Try.prog 43 #[.pointer (some ⟨c, 0, none⟩)] w fun e w' => ∃ n d : Int, e = .returned (.agg #[.int .i64 n, .int .i64 d]) ∧ Cur w' c a len cap (N + 6) ∧ Kp c w w' := by
  have hcs : c < w.heap.size := hc.1
  have hbb : ∀ b off, a = some ⟨b, off, none⟩ → 0 < len → b ≠ w.heap.size := fun b off e hl => by have := (hc.2.2.2.2.2.2.2 b off e hl).2; omega
  have HB := hide hbb
  have HC := hide (hc.below (below_alloc w (.cells #[.int .i64 0, .int .i64 0] 35)))
  clear hc hbb
  go_enter Try.func43, Try.ntmps43
  go_wp2_with fail
  refine (one_any 40 (by omega) HC.out (by omega)).mono ?_
  rintro e w1 ⟨r, rfl, hc1, hk1⟩
  have HC1 := hide hc1
  have HK1 := hide hk1
  obtain ⟨x0, x1, x2, x3⟩ := hk1.var w.heap.size (by simp) (by omega) (.int .i64 0) (.int .i64 0) (by simp) (by simp) (by simp [go_sem]) (by simp [go_sem])
  have hs1 : w.heap.size < w1.heap.size := by have := hk1.size; simp at this; omega
  clear hc1 hk1
  cases r
  · go_wp2_with fail
    refine (pick_any 4 (by omega) HC1.out (by omega)).mono ?_
    rintro e w2 ⟨z, rfl, z0, z1, hc2, hk2⟩
    have HC2 := hide hc2
    have HK2 := hide hk2
    obtain ⟨y0, y1, y2, y3⟩ := hk2.var w.heap.size hs1 (by omega) _ _ x0 x1 x2 x3
    have hs2 : w.heap.size < w2.heap.size := by have := hk2.size; omega
    clear hc2 hk2
    go_wp2_with fail
    refine (pick_any 21 (by omega) HC2.out (by omega)).mono ?_
    rintro e w3 ⟨y, rfl, q0, q1, hc3, hk3⟩
    have HC3 := hide hc3
    have HK3 := hide hk3
    obtain ⟨u0, u1, u2, u3⟩ := hk3.var w.heap.size hs2 (by omega) _ _ y0 y1 y2 y3
    have hs3 : w.heap.size < w3.heap.size := by have := hk3.size; omega
    clear hc3 hk3
    go_wp2_with fail
    refine bodyPost_ret (v := .agg #[.int .i64 z, .int .i64 y]) (by simp [results, Try.results43, go_sem, *]) rfl ⟨_, _, rfl, ?_, ?_⟩
    · exact ((HC3.out.le (by omega)).set (by omega) HB.out).set (by omega) HB.out
    · exact ((((((Kp.refl c w).alloc _).trans HK1.out).trans HK2.out).trans HK3.out)).setNew (Nat.le_refl _) _ _ |>.setNew (Nat.le_refl _) _ _
  · go_wp2_with fail
    refine (amongB_any (lo := -1) (hi := 10) (HC1.out.below (below_alloc w1 _)) (by omega) (by omega) (by omega) (by simp) (by omega) (three_cells w1 _ (by omega) (by omega) (by omega))).mono ?_
    rintro e w2 ⟨z, rfl, z0, z1, hc2, hk2⟩
    have hk2' : Kp c w1 w2 := ((Kp.refl c w1).alloc _).trans hk2
    have HC2 := hide hc2
    have HK2 := hide hk2'
    obtain ⟨y0, y1, y2, y3⟩ := hk2'.var w.heap.size hs1 (by omega) _ _ x0 x1 x2 x3
    have hs2 : w.heap.size < w2.heap.size := by have := hk2'.size; omega
    clear hc2 hk2 hk2'
    go_wp2_with fail
    refine (amongB_any (lo := 0) (hi := 21) (HC2.out.below (below_alloc w2 _)) (by omega) (by omega) (by omega) (by simp) (by omega) (three_cells w2 _ (by omega) (by omega) (by omega))).mono ?_
    rintro e w3 ⟨y, rfl, z2, z3, hc3, hk3⟩
    have hk3' : Kp c w2 w3 := ((Kp.refl c w2).alloc _).trans hk3
    have HC3 := hide hc3
    have HK3 := hide hk3'
    obtain ⟨u0, u1, u2, u3⟩ := hk3'.var w.heap.size hs2 (by omega) _ _ y0 y1 y2 y3
    have hs3 : w.heap.size < w3.heap.size := by have := hk3'.size; omega
    clear hc3 hk3 hk3'
    go_wp2_with fail
    refine bodyPost_ret (v := .agg #[.int .i64 z, .int .i64 y]) (by simp [results, Try.results43, go_sem, *]) rfl ⟨_, _, rfl, ?_, ?_⟩
    · exact ((HC3.out.le (by omega)).set (by omega) HB.out).set (by omega) HB.out
    · exact ((((((Kp.refl c w).alloc _).trans HK1.out).trans HK2.out).trans HK3.out)).setNew (Nat.le_refl _) _ _ |>.setNew (Nat.le_refl _) _ _
def StPost (w : World) (c : Nat) (a : Option Addr) (len cap M : Nat) (e : Ending) (w' : World) : Prop :=
  ∃ v L, e = .returned v ∧ L.length ≤ 8 ∧ w'.ownsRow w.heap.size 35 2 v L.length (fce L) ∧ Cur w' c a len cap M ∧ Kp c w w'
set_option maxRecDepth 100000 in
set_option maxHeartbeats 2000000 in
theorem stops_any {c len cap N : Nat} {a : Option Addr} {w : World} (hc : Cur w c a len cap N) (hN : N ≤ 700000000) :
    Calls Try.prog 25 #[.pointer (some ⟨c, 0, none⟩)] w (StPost w c a len cap (N + 80)) := by
  have hcw := hc.1
  have HOLD := hide hc.old
  have HC := hide hc
  clear hc
  go_enter Try.func25, Try.ntmps25
  go_wp2_with fail
  refine (pick_any 5 (by omega) HC.out (by omega)).mono ?_
  rintro e w1 ⟨r1, rfl, p0, p1, hc1, hk1⟩
  have HC1 := hide hc1
  have HK1 := hide hk1
  clear hc1 hk1
  go_upto_if 9 with (go_at_call 48; refine (one_any 20 (by omega) HC1.out (by omega)).mono ?_; rintro e w2 ⟨r2, rfl, hc2, hk2⟩; have HC2 := hide hc2; have HK2 := hide (HK1.out.trans hk2); clear hc2 hk2)
  go_cut [4] (fun s6 wc => ∃ k : Nat, s6 = .int .i64 k ∧ k ≤ 8 ∧ Hid (Cur wc c a len cap (N + 6)) ∧ Hid (Kp c w wc))
  case first =>
    cases r2
    · go_wp2_with fail
      go_meet
      case rel => exact ⟨(1 + r1).toNat, by congr 1; omega, by omega, hide (HC2.out.le (by omega)), HK2⟩
    · go_wp2_with fail
      refine (amongB_any (lo := 0) (hi := 8) (HC2.out.below (below_alloc w2 _)) (by omega) (by omega) (by omega) (by simp) (by have := HC2.out.1; omega) (three_cells w2 _ (by omega) (by omega) (by omega))).mono ?_
      rintro e w3 ⟨z, rfl, z0, z1, hc3, hk3⟩
      have HK3 := hide ((HK2.out.alloc _).trans hk3)
      have HC3 := hide hc3
      clear hc3 hk3
      go_wp2_with fail
      go_meet
      case rel => exact ⟨z.toNat, by congr 1; omega, by omega, hide (HC3.out.le (by omega)), HK3⟩
  case rest =>
    obtain ⟨k0, rfl, hk0, HC4, HK4⟩ := hcut
    go_wp2_with fail
    go_loopw [3, 4] (fun v s wr => ∃ (k : Nat) (L : List (Int × Int)), s = .int .i64 k ∧ L.length + k ≤ 8 ∧ wr.ownsRow w.heap.size 35 2 v L.length (fce L) ∧ Hid (Cur wr c a len cap (N + 6 + 6 * L.length)) ∧ Hid (Kp c w wr)) (fun _ s _ => (intOf s).toNat)
    case atStart => exact ⟨k0, [], rfl, by simp; omega, World.ownsRow_nil _ _ _ _, hide (HC4.out.le (by simp)), HK4⟩
    case round =>
      obtain ⟨k, L, rfl, hlen, hown, HCR, HKR⟩ := hrel
      have HO := hide hown
      clear hown
      by_cases hk : 0 < k
      · have k1 : (0 : Int) < (k : Int) := by omega
        go_wp2_with fail
        refine (spot_any HCR.out (by omega)).mono ?_
        rintro e w5 ⟨r3, r5, rfl, hc5, hk5⟩
        have own5 := own_kp HO.out hk5 hcw
        have HC5 := hide hc5
        have HK5 := hide (HKR.out.trans hk5)
        have hs5 := HK5.out.size
        obtain ⟨v6, w6, hr6, own6, hg6⟩ := push_sp (x := r3) (y := r5) own5 (by omega) hs5
        rw [← fce_snoc L (r3, r5)] at own6
        have HO6 := hide own6
        have HK6 := hide (kp_push HK5.out own5 hg6)
        have HC6 := hide (cur_push HC5.out hcw HOLD.out hs5 own5 hg6)
        clear hc5 hk5 own5 own6 hg6 HC5 HK5 HO HCR HKR
        go_wp2_with (first | (at_builtin; refine Lib.wpList_append_run _ rfl _ _ _ _ rfl _ _ rfl rfl _ _ (hr6 _) ?_))
        go_roundw
        case rel => exact ⟨k - 1, L ++ [(r3, r5)], by congr 1; omega, by simp; omega, by rw [List.length_append]; exact HO6.out, hide (HC6.out.le (by simp; omega)), HK6⟩
        case measure => simp only [intOf]; omega
      · have k1 : ¬ (0 : Int) < (k : Int) := by omega
        go_wp2_with fail
        go_ret
        exact ⟨_, L, rfl, by omega, HO.out, HCR.out.le (by omega), HKR.out⟩
theorem cur_below11 {w w1 : World} {o : Obj} (hk : Kp w.heap.size (w.alloc o) w1) : Below w.heap.size w w1 :=
  ((Below.refl w.heap.size w).alloc (Nat.le_refl _) o).trans (hk.below (Nat.le_refl _) (by simp))
/-- Stops, drawn. -/
def DSPost (w : World) (e : Ending) (w' : World) : Prop :=
  ∃ a c L, ∃ n : Nat, e = .returned (.slice a n c) ∧ List.length L = n ∧ n ≤ 8 ∧ FRow w' a L ∧ Below w.heap.size w w'
set_option maxRecDepth 100000 in
set_option maxHeartbeats 1000000 in
theorem drawGS_any {a : Option Addr} {len cap : Nat} {w : World} (hs : Hid (Src w a len)) :
    Calls Try.prog 46 #[.slice a len cap] w (DSPost w) := by
  have HC := hide (cur_new (cap := cap) hs.out)
  go_enter Try.func46, Try.ntmps46
  go_wp2_with fail
  refine (stops_any HC.out (by omega)).mono ?_
  rintro e w1 ⟨v, L, rfl, hl, own1, hc1, hk1⟩
  obtain ⟨a1, c1, rfl, r1⟩ := frow_own rfl own1
  have HB := hide (cur_below11 hk1)
  have HR := hide r1
  clear own1 hc1 hk1 r1
  go_wp2_with fail
  go_ret
  exact ⟨a1, c1, L, _, rfl, rfl, hl, HR.out, HB.out⟩
set_option maxRecDepth 100000 in
set_option maxHeartbeats 1000000 in
theorem drawTO_any {a : Option Addr} {len cap : Nat} {w : World} (hs : Hid (Src w a len)) :
    Calls Try.prog 22 #[.slice a len cap] w (DSPost w) := by
  go_enter Try.func22, Try.ntmps22
  go_wp2_with fail
  refine (drawGS_any hs).mono ?_
  rintro e w1 ⟨a1, c1, L, n, rfl, H⟩
  have H := hide H
  go_wp2_with fail
  go_ret
  exact ⟨a1, c1, L, n, rfl, H.out⟩
end Go.Proofs.Ytphfcephinnkoaa
