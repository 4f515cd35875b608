/-
  Draws of chapter 3: what lines of the model's cursor hands out: some list.
-/
import Derived.Test.YtegonbilomcpkaaDr
import Derived.Test.YtegonbilomcpkaaNa
namespace Go.Proofs.Ytegonbilomcpkaa
open Go.RowKit

/-- The cells of a list of pairs. -/
def pc {α : Type} (f g : α → Value) (xs : List α) : List Value := xs.flatMap fun x => [f x, g x]
theorem pc_snoc {α : Type} (f g : α → Value) (xs : List α) (x : α) : pc f g (xs ++ [x]) = pc f g xs ++ [f x, g x] := by simp [pc]
theorem pc_set {α : Type} (f g : α → Value) (x y : α) (r : List α) : ((pc f g (x :: r)).set 0 (f y)).set 1 (g y) = pc f g (y :: r) := by simp [pc]
theorem pc_get {α : Type} (f g : α → Value) (d : α) : ∀ (xs : List α) (i : Nat), i < xs.length → (pc f g xs)[i * 2]? = some (f (xs.getD i d)) ∧ (pc f g xs)[i * 2 + 1]? = some (g (xs.getD i d))
  | [], i, h => by simp at h
  | x :: r, 0, _ => by simp [pc]
  | x :: r, i + 1, h => by
    have := pc_get f g d r i (by simpa using h)
    rw [show (i + 1) * 2 = i * 2 + 2 by omega]
    simpa [pc] using this
theorem prow_owns {α : Type} {f g : α → Value} (d : α) {w : World} {base e n : Nat} {v : Value} {xs : List α} (hn : xs.length = n) (h : w.ownsRow base e 2 v n (pc f g xs)) :
    (v = .slice none 0 0 ∧ n = 0) ∨ ∃ G cap, v = .slice (some ⟨G, 0, none⟩) n cap ∧ n ≤ cap ∧ base ≤ G ∧ G < w.heap.size ∧ ∀ i, i < n → w.cell? ⟨G, i * 2, none⟩ = some (f (xs.getD i d)) ∧ w.cell? ⟨G, i * 2 + 1, none⟩ = some (g (xs.getD i d)) := by
  rcases h.2 with ⟨rfl, hn⟩ | ⟨G, cap, cur, rfl, hb, hg, hcap, _⟩
  · exact Or.inl ⟨rfl, hn⟩
  · refine Or.inr ⟨G, cap, rfl, hcap, hb, (Array.getElem?_eq_some_iff.1 hg).1, fun i hi => ?_⟩
    obtain ⟨p0, p1⟩ := pc_get f g d xs i (by omega)
    exact ⟨by rw [h.cellAt _ (by omega), p0], by rw [h.cellAt _ (by omega), p1]⟩
theorem own_shG {w : World} {base e s n : Nat} {v : Value} {xs : List Value} (h : w.ownsRow base e s v n xs) : ∃ a cap, v = .slice a n cap := by
  rcases h.2 with ⟨rfl, hn⟩ | ⟨g, cap, cur, rfl, _⟩
  · exact ⟨none, 0, by rw [hn]⟩
  · exact ⟨_, _, rfl⟩
/-- The first pair of an owned list is written anew. -/
theorem own_first {α : Type} {f g : α → Value} {w : World} {base e n G cap : Nat} {xs : List α} (hn : xs.length = n) (h0 : 0 < n) (h : w.ownsRow base e 2 (.slice (some ⟨G, 0, none⟩) n cap) n (pc f g xs)) (y : α) :
    ((w.setCell ⟨G, 0, none⟩ (f y)).setCell ⟨G, 1, none⟩ (g y)).ownsRow base e 2 (.slice (some ⟨G, 0, none⟩) n cap) n (pc f g (y :: xs.tail)) := by
  cases xs with
  | nil => simp at hn; omega
  | cons x r =>
    have h1 := ((h.stored 0 (f y)).1.stored 1 (g y)).1
    rw [pc_set] at h1
    exact h1
def lf (p : Int × Int) : Value := .int .i64 p.1
def lg (p : Int × Int) : Value := .int .i64 p.2
theorem new_pair (w : World) (u0 u1 : Value) (t : TypeId) {H : Nat} (hH : w.heap.size = H) : ∀ (j : Nat) (u : Value), ([u0, u1] : List Value)[j]? = some u → (w.alloc (.cells #[u0, u1] t)).cell? ((⟨H, 0, none⟩ : Addr).add j) = some u := by
  intro j u hj
  subst hH
  match j, hj with
  | 0, hj => simp at hj; subst hj; simp [Addr.add]
  | 1, hj => simp at hj; subst hj; simp [Addr.add]
theorem two_one {u0 u1 : Value} (h0 : u0.oneCell' = true) (h1 : u1.oneCell' = true) : ∀ u ∈ ([u0, u1] : List Value), u.oneCell' = true := by
  intro u hu
  simp at hu
  rcases hu with rfl | rfl <;> assumption
theorem mul_bd2 {r z : Int} {m : Nat} (r0 : 0 ≤ r) (r1 : r < m ∨ r = 0) (hm : m ≤ 13) (z0 : 0 ≤ z) (z1 : z < 2 ∨ z = 0) : 0 ≤ r * z ∧ r * z ≤ 13 := by
  have : z = 0 ∨ z = 1 := by omega
  rcases this with rfl | rfl <;> omega
theorem infL : (Try.prog.info? 35).map (fun i => (i.zero, i.size, i.bytes)) = some (some (.agg #[.int .i64 0, .int .i64 0]), 2, 16) := by kernel_rfl
set_option maxRecDepth 20000 in
set_option maxHeartbeats 4000000 in
theorem lines_any {c len cap N m : Nat} {a : Option Addr} {w : World} (hc : Cur w c a len cap N) (hN : N ≤ 800000000) (hm : m ≤ 13) :
    Calls Try.prog 33 #[.pointer (some ⟨c, 0, none⟩), .int .i64 m] w fun e w' => ∃ v xs, e = .returned v ∧ xs.length ≤ 82 ∧ w'.ownsRow w.heap.size 35 2 v xs.length (pc lf lg xs) ∧ Cur w' c a len cap (N + 600) ∧ Kp c w w' := by
  obtain ⟨i0, hi, hz0, hz1, hz2⟩ := info_parts infL
  have hcw := hc.1
  have HOLD := hide hc.old
  have HC := hide hc
  clear hc
  go_enter Try.func33, Try.ntmps33
  go_wp2_with fail
  refine (pick_any 16 (by omega) HC.out (by omega)).mono ?_
  rintro e w1 ⟨r1, rfl, p0, p1, hc1, hk1⟩
  have HC1 := hide hc1
  have HK1 := hide hk1
  clear hc1 hk1
  go_upto_if 10 with (go_at_call 42; refine (one_any 20 (by omega) HC1.out (by omega)).mono ?_; rintro e w2 ⟨r2, rfl, hc2, hk2⟩; have HC2 := hide hc2; have HK2 := hide (HK1.out.trans hk2); clear hc2 hk2)
  go_cut [6] (fun s6 wc => ∃ k : Nat, s6 = .int .i64 k ∧ k ≤ 82 ∧ Hid (Cur wc c a len cap (N + 6)) ∧ Hid (Kp c w wc))
  case first =>
    cases r2
    · go_wp2_with fail
      go_meet
      case rel => exact ⟨r1.toNat, by rw [Int.toNat_of_nonneg p0], by omega, hide (HC2.out.le (by omega)), HK2⟩
    · go_wp2_with fail
      refine (pick_any 3 (by omega) HC2.out (by omega)).mono ?_
      rintro e w3 ⟨z, rfl, z0, z1, hc3, hk3⟩
      have HK3 := hide (HK2.out.trans hk3)
      have HC3 := hide hc3
      clear hc3 hk3
      go_wp2_with fail
      go_meet
      case rel => exact ⟨(79 + z).toNat, by rw [Int.toNat_of_nonneg (by omega)], by omega, hide (HC3.out.le (by omega)), HK3⟩
  case rest =>
    obtain ⟨k0, rfl, hk0, HC4, HK4⟩ := hcut
    go_wp2_with fail
    go_loopw [5, 6] (fun v s wr => ∃ (k : Nat) (xs : List (Int × Int)), s = .int .i64 k ∧ xs.length + k ≤ 82 ∧ wr.ownsRow w.heap.size 35 2 v xs.length (pc lf lg xs) ∧ Hid (Cur wr c a len cap (N + 6 + 6 * xs.length)) ∧ Hid (Kp c w wr)) (fun _ s _ => (intOf s).toNat)
    case atStart => exact ⟨k0, [], rfl, by simp; omega, World.ownsRow_nil _ _ _ _, hide (HC4.out.le (by simp)), HK4⟩
    case round =>
      obtain ⟨k, xs, rfl, hlen, hown, HCR, HKR⟩ := hrel
      by_cases hk : 0 < k ∧ 0 < m
      · obtain ⟨hk1, hk2⟩ := hk
        go_wp2_with fail
        refine (pick_any (m : Int) (by omega) HCR.out (by omega)).mono ?_
        rintro e w3 ⟨r3, rfl, q0, q1, hc3, hk3⟩
        have own3 := own_kp hown hk3 hcw
        have HC3 := hide hc3
        have HK3 := hide (HKR.out.trans hk3)
        clear hc3 hk3 hown
        go_wp2_with fail
        refine (pick_any 2 (by omega) HC3.out (by omega)).mono ?_
        rintro e w4 ⟨z, rfl, z0, z1, hc4, hk4⟩
        have own4 := own_kp own3 hk4 hcw
        have HC4' := hide hc4
        have HK4' := hide (HK3.out.trans hk4)
        obtain ⟨m0, m1⟩ := mul_bd2 q0 q1 hm z0 z1
        have e1 : wrap64 (r3 * z) = r3 * z := wrap_id' _ (by omega) (by omega)
        have e2 : IntKind.i64.wrap (r3 * z) = r3 * z := by rw [IntKind.wrap_i64]; omega
        clear hc4 hk4 own3
        go_wp2_with fail
        refine (pick_any 9 (by omega) HC4'.out (by omega)).mono ?_
        rintro e w5 ⟨y, rfl, y0, y1, hc5, hk5⟩
        have own5 := own_kp own4 hk5 hcw
        have HC5' := hide hc5
        have HK5' := hide (HK4'.out.trans hk5)
        have hs5 := HK5'.out.size
        clear hc5 hk5 own4 e1 e2
        generalize r3 * z = x at *
        go_wp2_with (first
          | (at_builtin; refine wpList_append_own _ rfl _ _ 24 rfl w.heap.size 35 i0 (.agg #[.int .i64 0, .int .i64 0]) 2 16 Try.underlying24 hi hz0 hz1 hz2 rfl (by decide) _ _ _ rfl (own5.alloc _) ⟨w5.heap.size, 0, none⟩ 1 1 [.int .i64 x, .int .i64 (1 + y)] rfl rfl (new_pair _ _ _ _ rfl) (two_one rfl rfl) (by unfold maxLen; omega) (by omega) (by simp; omega) ?_))
        intro v' w6 hown' hgrow _
        have HK6 := hide (kp_grow HK5'.out own5 hgrow)
        have HC6 := hide (cur_grow HC5'.out hcw HOLD.out hs5 own5 hgrow)
        have HO6 : Hid (w6.ownsRow w.heap.size 35 2 v' (xs ++ [(x, 1 + y)]).length (pc lf lg (xs ++ [(x, 1 + y)]))) := hide (by rw [pc_snoc, List.length_append]; exact hown')
        clear hown' hgrow own5
        go_wp2_with fail
        go_roundw
        case rel => exact ⟨k - 1, xs ++ [(x, 1 + y)], by rw [show ((k - 1 : Nat) : Int) = (k : Int) - 1 by omega], by simp; omega, HO6.out, hide (HC6.out.le (by simp; omega)), HK6⟩
        case measure => simp only [intOf]; omega
      · obtain ⟨av, cv, rfl⟩ := own_shG hown
        have HO := hide hown
        clear hown
        have hkm : k = 0 ∨ (0 < k ∧ m = 0) := by omega
        clear hk
        have HL : Hid (xs.length + k ≤ 82) := hide hlen
        clear hlen
        generalize hL : xs.length = L at *
        have HLL := hide hL
        clear hL
        rcases hkm with rfl | ⟨hk1, rfl⟩
        all_goals
          by_cases hl0 : L = 0
          · subst hl0
            go_wp2_with fail
            go_ret
            exact ⟨_, xs, rfl, by have := HL.out; have := HLL.out; omega, by rw [HLL.out]; exact HO.out, HCR.out.le (by have := HL.out; have := HLL.out; omega), HKR.out⟩
          · have hl1 : (0 : Int) < (L : Int) := by omega
            obtain ⟨g, cap', e1, hg0, hg1⟩ := own_some HO.out hl0
            cases e1
            have hL82 := HL.out
            go_wp2_with fail
            refine (one_any 30 (by omega) HCR.out (by omega)).mono ?_
            rintro e w3 ⟨r3, rfl, hc3, hk3⟩
            have HO3 := hide (own_kp HO.out hk3 hcw)
            have HC3 := hide hc3
            have HK3 := hide (HKR.out.trans hk3)
            clear hc3 hk3
            cases r3
            · go_wp2_with fail
              go_ret
              exact ⟨_, xs, rfl, by have := HLL.out; omega, by rw [HLL.out]; exact HO3.out, HC3.out.le (by have := HLL.out; omega), HK3.out⟩
            · go_wp2_with fail
              refine (pick_any _ (by omega) HC3.out (by omega)).mono ?_
              rintro e w4 ⟨x, rfl, x0, x1, hc4, hk4⟩
              have HO4 := hide (own_kp HO3.out hk4 hcw)
              have HC4' := hide hc4
              have HK4' := hide (HK3.out.trans hk4)
              clear hc4 hk4
              go_wp2_with fail
              refine (amongB_any (lo := 0) (hi := 100) (HC4'.out.below (below_alloc w4 _)) (by omega) (by omega) (by omega) (by simp) (by have := HC4'.out.1; omega) (three_cells w4 _ (by omega) (by omega) (by omega))).mono ?_
              rintro e w5 ⟨z, rfl, z0, z1, hc5, hk5⟩
              have own5 := own_kp (HO4.out.alloc _) hk5 hcw
              have HC5' := hide hc5
              have HK5' := hide ((HK4'.out.alloc _).trans hk5)
              obtain ⟨c0, c1⟩ : (∃ u0, w5.cell? ⟨g, 0, none⟩ = some u0) ∧ (∃ u1, w5.cell? ⟨g, 1, none⟩ = some u1) := by
                obtain ⟨q0, q1⟩ := pc_get lf lg (0, 0) xs 0 (by have := HLL.out; omega)
                exact ⟨⟨_, by rw [own5.cellAt 0 (by omega)]; exact q0⟩, ⟨_, by rw [own5.cellAt 1 (by omega)]; exact q1⟩⟩
              obtain ⟨u0, c0⟩ := c0
              obtain ⟨u1, c1⟩ := c1
              have f0 := own5.frozenAt 0
              have f1 := own5.frozenAt 1
              have HST := hide (own_first HLL.out (by omega) own5 (x - 1, z))
              have HTL : Hid (((x - 1, z) :: xs.tail).length = L) := hide (by have := HLL.out; simp; omega)
              clear hc5 hk5 own5
              go_wp2_with fail
              go_ret
              refine ⟨_, (x - 1, z) :: xs.tail, rfl, by rw [HTL.out]; omega, by rw [HTL.out]; exact HST.out, (cur_set (cur_set HC5'.out hcw HOLD.out hg0) hcw HOLD.out hg0).le (by have := HLL.out; omega), kp_set (kp_set HK5'.out hg0) hg0⟩
end Go.Proofs.Ytegonbilomcpkaa
