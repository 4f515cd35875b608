/-
  Draws of chapter 4: what flow, placesFor and countsFor of the model's cursor, and its Draw functions hand out: some lists, some number.
-/
import Derived.Test.YtljccbnkibfimaaS
import Derived.Test.YtljccbnkibfimaaSi
import Derived.Test.YtljccbnkibfimaaPg
import Derived.Deep.DeepCutAuto
namespace Go.Proofs.Ytljccbnkibfimaa
open Go.RowKit

theorem Cur.blocks {w w' : World} {c len cap N : Nat} {a : Option Addr} (h : Cur w c a len cap N) (hs : w.heap.size ≤ w'.heap.size) (hc : w'.heap[c]? = w.heap[c]?)
    (hb : ∀ b off, a = some ⟨b, off, none⟩ → 0 < len → w'.heap[b]? = w.heap[b]?) : Cur w' c a len cap N := by
  obtain ⟨h0, h1, ⟨x, h2, h2'⟩, ⟨y, h3, h3', h3''⟩, h4, h5, h6, h7⟩ := h
  have ec : ∀ o, w'.cell? ⟨c, o, none⟩ = w.cell? ⟨c, o, none⟩ := fun o => World.cell?_of_block (w := w) hc
  have ef : ∀ o, w'.frozen? ⟨c, o, none⟩ = w.frozen? ⟨c, o, none⟩ := fun o => World.frozen?_of_block (w := w) hc
  refine ⟨Nat.lt_of_lt_of_le h0 hs, (ec 0).trans h1, ⟨x, (ec 1).trans h2, h2'⟩, ⟨y, (ec 2).trans h3, h3', h3''⟩, (ef 1).trans h4, (ef 2).trans h5, ?_, ?_⟩
  · rcases h6 with h | ⟨b, off, rfl, hbb⟩
    · exact Or.inl h
    · refine Or.inr ⟨b, off, rfl, fun i hi => ?_⟩
      obtain ⟨z, hz, hz'⟩ := hbb i hi
      exact ⟨z, (World.cell?_of_block (w := w) (hb b off rfl (by omega))).trans hz, hz'⟩
  · intro b off e hl
    obtain ⟨hne, hlt⟩ := h7 b off e hl
    exact ⟨hne, Nat.lt_of_lt_of_le hlt hs⟩
theorem Cur.old {w : World} {c len cap N : Nat} {a : Option Addr} (h : Cur w c a len cap N) : ∀ b off, a = some ⟨b, off, none⟩ → 0 < len → b < w.heap.size := fun b off e hl => (h.2.2.2.2.2.2.2 b off e hl).2
/-- What is owned, apart from the cursor. -/
theorem own_kp {w w' : World} {c base e s n : Nat} {v : Value} {xs : List Value} (h : w.ownsRow base e s v n xs) (hk : Kp c w w') (hc : c < base) : w'.ownsRow base e s v n xs := by
  refine ⟨h.1, ?_⟩
  rcases h.2 with h0 | ⟨g, cap, cur, hv, hb, hg, r⟩
  · exact Or.inl h0
  · exact Or.inr ⟨g, cap, cur, hv, hb, (hk.block g (Array.getElem?_eq_some_iff.1 hg).1 (by omega)).trans hg, r⟩
theorem kp_grow {w w3 w4 : World} {o : Obj} {c e s n : Nat} {v : Value} {xs : List Value} (h : Kp c w w3) (own : w3.ownsRow w.heap.size e s v n xs) (hg : (w3.alloc o).grownBy w4 v.ownBlock) : Kp c w w4 := by
  have hz := h.size
  refine ⟨hg.os.trans h.os, hg.tape.trans h.tape, hg.output.trans h.output, by have := hg.size; simp at this; omega, fun k hk hne => ?_⟩
  rw [hg.block k (by simp; omega) (own_far own hk), Below.heap_alloc w3 o k (by omega)]
  exact h.block k hk hne
theorem cur_grow {w w3 w4 : World} {o : Obj} {c e s n len cap N : Nat} {a : Option Addr} {v : Value} {xs : List Value} (hc : Cur w3 c a len cap N) (hcw : c < w.heap.size) (hold : ∀ b off, a = some ⟨b, off, none⟩ → 0 < len → b < w.heap.size) (hs : w.heap.size ≤ w3.heap.size)
    (own : w3.ownsRow w.heap.size e s v n xs) (hg : (w3.alloc o).grownBy w4 v.ownBlock) : Cur w4 c a len cap N := by
  have blk : ∀ k, k < w.heap.size → w4.heap[k]? = w3.heap[k]? := fun k hk => by rw [hg.block k (by simp; omega) (own_far own hk), Below.heap_alloc w3 o k (by omega)]
  exact hc.blocks (by have := hg.size; simp at this; omega) (blk c hcw) (fun b off e hl => blk b (hold b off e hl))
theorem kp_set {w w3 : World} {c g o : Nat} {v : Value} (h : Kp c w w3) (hg : w.heap.size ≤ g) : Kp c w (w3.setCell ⟨g, o, none⟩ v) := h.setNew hg o v
theorem cur_set {w w3 : World} {c g o len cap N : Nat} {a : Option Addr} {v : Value} (hc : Cur w3 c a len cap N) (hcw : c < w.heap.size) (hold : ∀ b off, a = some ⟨b, off, none⟩ → 0 < len → b < w.heap.size) (hg : w.heap.size ≤ g) : Cur (w3.setCell ⟨g, o, none⟩ v) c a len cap N :=
  hc.set (by omega) (fun b off e hl => by have := hold b off e hl; omega)
theorem own_slice {w : World} {base n : Nat} {v : Value} {xs : List Int} (hx : xs.length = n) (h : w.ownsRow base 3 1 v n (ints xs)) : ∃ a cap, v = .slice a n cap ∧ ARow w a xs := by
  rcases h.2 with ⟨rfl, hn⟩ | ⟨g, cap, cur, rfl, _⟩
  · subst hn; exact ⟨none, 0, rfl, Or.inl (List.length_eq_zero_iff.1 hx)⟩
  · exact ⟨_, _, rfl, arow_owns hx.symm h⟩

set_option maxRecDepth 100000 in
set_option maxHeartbeats 400000 in
theorem amongB_any {c len cap N b l k : Nat} {lo hi : Int} {a : Option Addr} {w : World} (hc : Cur w c a len cap N) (hN : N ≤ 900000000) (hl : 0 < l) (hl1 : l ≤ 1000000) (hb : b < w.heap.size) (hne : b ≠ c)
    (hz : ∀ i, i < l → ∃ z : Int, w.cell? ⟨b, i, none⟩ = some (.int .i64 z) ∧ lo ≤ z ∧ z ≤ hi) :
    Calls Try.prog 96 #[.pointer (some ⟨c, 0, none⟩), .slice (some ⟨b, 0, none⟩) l k] w fun e w' => ∃ r : Int, e = .returned (.int .i64 r) ∧ lo ≤ r ∧ r ≤ hi ∧ Cur w' c a len cap (N + 2) ∧ Kp c w w' := by
  have HC := hide hc
  have HZ := hide hz
  clear hc hz
  go_enter Try.func96, Try.ntmps96
  go_wp2_with fail
  refine (pick_any (l : Int) (by omega) HC.out hN).mono ?_
  rintro e w1 ⟨r, rfl, r0, r1, hc1, hk1⟩
  have HC1 := hide hc1
  clear hc1
  obtain ⟨i, rfl⟩ := Int.eq_ofNat_of_zero_le r0
  have hi : i < l := by omega
  have hi' : (i : Int) < (l : Int) := by omega
  obtain ⟨z, hcell, z0, z1⟩ := HZ.out i hi
  have hcell' : w1.cell? ⟨b, i, none⟩ = some (.int .i64 z) := (hk1.cell hb hne).trans hcell
  clear r1
  go_wp2_with fail
  go_ret
  exact ⟨_, rfl, z0, z1, HC1.out, hk1⟩
theorem three_cells (w : World) (t : TypeId) {z0 z1 z2 lo hi : Int} (h0 : lo ≤ z0 ∧ z0 ≤ hi) (h1 : lo ≤ z1 ∧ z1 ≤ hi) (h2 : lo ≤ z2 ∧ z2 ≤ hi) : ∀ i, i < 3 → ∃ z : Int, (w.alloc (.cells #[.int .i64 z0, .int .i64 z1, .int .i64 z2] t)).cell? ⟨w.heap.size, i, none⟩ = some (.int .i64 z) ∧ lo ≤ z ∧ z ≤ hi := by
  intro i hi
  have : i = 0 ∨ i = 1 ∨ i = 2 := by omega
  rcases this with rfl | rfl | rfl
  · exact ⟨z0, by simp, h0⟩
  · exact ⟨z1, by simp, h1⟩
  · exact ⟨z2, by simp, h2⟩
theorem two_cells (w : World) (t : TypeId) {z0 z1 lo hi : Int} (h0 : lo ≤ z0 ∧ z0 ≤ hi) (h1 : lo ≤ z1 ∧ z1 ≤ hi) : ∀ i, i < 2 → ∃ z : Int, (w.alloc (.cells #[.int .i64 z0, .int .i64 z1] t)).cell? ⟨w.heap.size, i, none⟩ = some (.int .i64 z) ∧ lo ≤ z ∧ z ≤ hi := by
  intro i hi
  have : i = 0 ∨ i = 1 := by omega
  rcases this with rfl | rfl
  · exact ⟨z0, by simp, h0⟩
  · exact ⟨z1, by simp, h1⟩

set_option maxRecDepth 100000 in
set_option maxHeartbeats 2000000 in
theorem flow_any {c len cap N : Nat} {a : Option Addr} {w : World} (hc : Cur w c a len cap N) (hN : N ≤ 800000000) :
    Calls Try.prog 63 #[.pointer (some ⟨c, 0, none⟩)] w fun e w' => ∃ v xs, e = .returned v ∧ xs.length ≤ 9 ∧ w'.ownsRow w.heap.size 3 1 v xs.length (ints xs) ∧ Cur w' c a len cap (N + 40) ∧ Kp c w w' := by
  obtain ⟨i0, hi, hz0, hz1, hz2⟩ := info_parts infI
  have hcw := hc.1
  have HOLD := hide hc.old
  have HC := hide hc
  clear hc
  go_enter Try.func63, Try.ntmps63
  go_wp2_with fail
  refine (pick_any 4 (by omega) HC.out (by omega)).mono ?_
  rintro e w1 ⟨r1, rfl, p0, p1, hc1, hk1⟩
  have HC1 := hide hc1
  have HK1 := hide hk1
  clear hc1 hk1
  go_upto_if 9 with (go_at_call 95; refine (one_any 12 (by omega) HC1.out (by omega)).mono ?_; rintro e w2 ⟨r2, rfl, hc2, hk2⟩; have HC2 := hide hc2; have HK2 := hide (HK1.out.trans hk2); clear hc2 hk2)
  go_cut [4] (fun s4 wc => ∃ k : Nat, s4 = .int .i64 k ∧ k ≤ 9 ∧ Hid (Cur wc c a len cap (N + 6)) ∧ Hid (Kp c w wc))
  case first =>
    cases r2
    · go_wp2_with fail
      go_meet
      case rel => exact ⟨(1 + r1).toNat, by congr 1; omega, by omega, hide (HC2.out.le (by omega)), HK2⟩
    · go_wp2_with fail
      refine (amongB_any (lo := 0) (hi := 9) (HC2.out.below (below_alloc w2 _)) (by omega) (by omega) (by omega) (by simp) (by have := HC2.out.1; omega) (three_cells w2 _ (by omega) (by omega) (by omega))).mono ?_
      rintro e w3 ⟨z, rfl, z0, z1, hc3, hk3⟩
      have HK3 := hide ((HK2.out.alloc _).trans hk3)
      have HC3 := hide hc3
      clear hc3 hk3
      go_wp2_with fail
      go_meet
      case rel => exact ⟨z.toNat, by congr 1; omega, by omega, hide (HC3.out.le (by omega)), HK3⟩
  case rest =>
    obtain ⟨k0, rfl, hk0, HC4, HK4⟩ := hcut
    go_wp2_with fail
    go_loopw [3, 4] (fun v s wr => ∃ (k : Nat) (xs : List Int), s = .int .i64 k ∧ xs.length + k ≤ 9 ∧ wr.ownsRow w.heap.size 3 1 v xs.length (ints xs) ∧ Hid (Cur wr c a len cap (N + 6 + 2 * xs.length)) ∧ Hid (Kp c w wr)) (fun _ s _ => (intOf s).toNat)
    case atStart => exact ⟨k0, [], rfl, by simp; omega, World.ownsRow_nil _ _ _ _, hide (HC4.out.le (by simp)), HK4⟩
    case round =>
      obtain ⟨k, xs, rfl, hlen, hown, HCR, HKR⟩ := hrel
      by_cases hk : 0 < k
      · go_wp2_with fail
        refine (pick_any 30 (by omega) HCR.out (by omega)).mono ?_
        rintro e w3 ⟨r3, rfl, q0, q1, hc3, hk3⟩
        have own3 := own_kp hown hk3 hcw
        have HC3 := hide hc3
        have HK3 := hide (HKR.out.trans hk3)
        have hs3 := HK3.out.size
        clear hc3 hk3
        go_wp2_with (first
          | (at_builtin; refine wpList_append_own _ rfl _ _ 23 rfl w.heap.size 3 i0 (.int .i64 0) 1 8 Try.underlying23 hi hz0 hz1 hz2 rfl (by decide) _ _ _ rfl (own3.alloc _) ⟨w3.heap.size, 0, none⟩ 1 1 (ints [1 + r3]) rfl rfl (newI_one _ _ rfl) (intI_cells _) (by unfold maxLen; omega) (by omega) (by simp; omega) ?_))
        intro v' w4 hown' hgrow _
        have HK5 := hide (kp_grow HK3.out own3 hgrow)
        have HC5 := hide (cur_grow HC3.out hcw HOLD.out hs3 own3 hgrow)
        have HO5 : Hid (w4.ownsRow w.heap.size 3 1 v' (xs ++ [1 + r3]).length (ints (xs ++ [1 + r3]))) := hide (by rw [ints_snoc, List.length_append]; exact hown')
        clear hown' hgrow own3
        go_wp2_with fail
        go_roundw
        case rel => exact ⟨k - 1, xs ++ [1 + r3], by congr 1; omega, by simp; omega, HO5.out, hide (HC5.out.le (by simp; omega)), HK5⟩
        case measure => simp only [intOf]; omega
      · have hk' : k = 0 := by omega
        subst hk'
        obtain ⟨av, cv, rfl, _⟩ := own_slice rfl hown
        have HO := hide hown
        clear hown
        by_cases hl0 : xs.length = 0
        · rw [hl0]
          have HO' : Hid (wr.ownsRow w.heap.size 3 1 (.slice av 0 cv) 0 (ints xs)) := hide (by have := HO.out; rw [hl0] at this; exact this)
          clear HO
          go_wp2_with fail
          go_ret
          exact ⟨_, xs, rfl, by omega, by rw [hl0]; exact HO'.out, HCR.out.le (by omega), HKR.out⟩
        · have hl1 : (0 : Int) < (xs.length : Int) := by omega
          have hl2 : (xs.length : Int) ≠ 0 := by omega
          obtain ⟨g, cap', e1, hg0, hg1⟩ := own_some HO.out hl0
          cases e1
          go_wp2_with fail
          refine (one_any 30 (by omega) HCR.out (by omega)).mono ?_
          rintro e w3 ⟨r3, rfl, hc3, hk3⟩
          have HO3 := hide (own_kp HO.out hk3 hcw)
          have HC3 := hide hc3
          have HK3 := hide (HKR.out.trans hk3)
          clear hc3 hk3
          cases r3
          · go_wp2_with fail
            go_ret
            exact ⟨_, xs, rfl, by omega, HO3.out, HC3.out.le (by omega), HK3.out⟩
          · go_wp2_with fail
            refine (amongB_any (lo := 0) (hi := 31) (HC3.out.below (below_alloc w3 _)) (by omega) (by omega) (by omega) (by simp) (by have := HC3.out.1; omega) (two_cells w3 _ (by omega) (by omega))).mono ?_
            rintro e w4 ⟨z, rfl, z0, z1, hc4, hk4⟩
            have own4 := own_kp (HO3.out.alloc _) hk4 hcw
            have HC4' := hide hc4
            have HK4' := hide ((HK3.out.alloc _).trans hk4)
            have c0 : w4.cell? ⟨g, 0, none⟩ = some (.int .i64 (xs.getD 0 0)) := by rw [own4.cellAt 0 (by omega), ints_get xs 0 (by omega)]
            have f0 := own4.frozenAt 0
            obtain ⟨st1, _⟩ := own4.stored 0 (.int .i64 z)
            rw [ints_set] at st1
            have HST : Hid ((w4.setCell ⟨g, 0, none⟩ (.int .i64 z)).ownsRow w.heap.size 3 1 (.slice (some ⟨g, 0, none⟩) xs.length cv) (xs.set 0 z).length (ints (xs.set 0 z))) := hide (by rw [List.length_set]; exact st1)
            generalize xs.getD 0 0 = y at *
            clear hc4 hk4 own4 st1
            go_wp2_with fail
            go_ret
            exact ⟨_, xs.set 0 z, rfl, by simp; omega, HST.out, (cur_set HC4'.out hcw HOLD.out hg0).le (by omega), kp_set HK4'.out hg0⟩

set_option maxRecDepth 100000 in
set_option maxHeartbeats 1000000 in
theorem placesFor_any {c len cap N n c' : Nat} {a b : Option Addr} {w : World} (hc : Cur w c a len cap N) (hN : N ≤ 800000000) (hn : n ≤ 9) :
    Calls Try.prog 82 #[.pointer (some ⟨c, 0, none⟩), .slice b n c'] w fun e w' => ∃ p : Int, e = .returned (.int .i64 p) ∧ 0 ≤ p ∧ p ≤ 41 ∧ Cur w' c a len cap (N + 4) ∧ Kp c w w' := by
  have HC := hide hc
  clear hc
  go_enter Try.func82, Try.ntmps82
  go_wp2_with fail
  refine (one_any 12 (by omega) HC.out (by omega)).mono ?_
  rintro e w2 ⟨r2, rfl, hc2, hk2⟩
  have HC2 := hide hc2
  have HK2 := hide hk2
  clear hc2 hk2
  cases r2
  · go_wp2_with fail
    refine (pick_any 9 (by omega) HC2.out (by omega)).mono ?_
    rintro e w3 ⟨r3, rfl, q0, q1, hc3, hk3⟩
    go_wp2_with fail
    go_ret
    exact ⟨_, rfl, by omega, by omega, hc3, HK2.out.trans hk3⟩
  · go_wp2_with fail
    refine (amongB_any (lo := 0) (hi := 41) (HC2.out.below (below_alloc w2 _)) (by omega) (by omega) (by omega) (by simp) (by have := HC2.out.1; omega) (three_cells w2 _ (by omega) (by omega) (by omega))).mono ?_
    rintro e w3 ⟨z, rfl, z0, z1, hc3, hk3⟩
    go_wp2_with fail
    go_ret
    exact ⟨_, rfl, z0, z1, hc3, (HK2.out.alloc _).trans hk3⟩
end Go.Proofs.Ytljccbnkibfimaa
