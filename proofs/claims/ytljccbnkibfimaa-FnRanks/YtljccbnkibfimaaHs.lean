/-
  Draws of chapter 7: what ways, order7 and families of the model's cursor, and its Draw functions hand out: some lists, some numbers.
-/
import Derived.Test.YtljccbnkibfimaaS
import Derived.Test.YtljccbnkibfimaaHv
import Derived.Test.YtljccbnkibfimaaF
import Derived.Test.YtljccbnkibfimaaPg
import Derived.Deep.AppendLies
import Derived.Deep.DeepCutAuto
namespace Go.Proofs.Ytljccbnkibfimaa
open Go.RowKit

theorem own_far {w : World} {base e s n k : Nat} {v : Value} {xs : List Value} (h : w.ownsRow base e s v n xs) (hk : k < base) : some k ≠ v.ownBlock := by
  rcases h.2 with ⟨rfl, _⟩ | ⟨g, cap, cur, rfl, hb, _⟩
  · simp [Value.ownBlock]
  · simp [Value.ownBlock]; omega
theorem own_some {w : World} {base e s n : Nat} {v : Value} {xs : List Value} (h : w.ownsRow base e s v n xs) (hn : n ≠ 0) : ∃ g cap, v = .slice (some ⟨g, 0, none⟩) n cap ∧ base ≤ g ∧ g < w.heap.size := by
  rcases h.2 with ⟨_, h0⟩ | ⟨g, cap, cur, hv, hb, hg, _⟩
  · exact absurd h0 hn
  · exact ⟨g, cap, hv, hb, (Array.getElem?_eq_some_iff.1 hg).1⟩
theorem Cur.blocks {w w' : World} {c len cap N : Nat} {a : Option Addr} (h : Cur w c a len cap N) (hs : w.heap.size ≤ w'.heap.size) (hc : w'.heap[c]? = w.heap[c]?)
    (hb : ∀ b off, a = some ⟨b, off, none⟩ → 0 < len → w'.heap[b]? = w.heap[b]?) : Cur w' c a len cap N := by
  obtain ⟨h0, h1, ⟨x, h2, h2'⟩, ⟨y, h3, h3', h3''⟩, h4, h5, h6, h7⟩ := h
  have ec : ∀ o, w'.cell? ⟨c, o, none⟩ = w.cell? ⟨c, o, none⟩ := fun o => World.cell?_of_block (w := w) hc
  have ef : ∀ o, w'.frozen? ⟨c, o, none⟩ = w.frozen? ⟨c, o, none⟩ := fun o => World.frozen?_of_block (w := w) hc
  refine ⟨Nat.lt_of_lt_of_le h0 hs, (ec 0).trans h1, ⟨x, (ec 1).trans h2, h2'⟩, ⟨y, (ec 2).trans h3, h3', h3''⟩, (ef 1).trans h4, (ef 2).trans h5, ?_, ?_⟩
  · rcases h6 with h | ⟨b, off, rfl, hbb⟩
    · exact Or.inl h
    · refine Or.inr ⟨b, off, rfl, fun i hi => ?_⟩
      obtain ⟨z, hz, hz'⟩ := hbb i hi
      exact ⟨z, (World.cell?_of_block (w := w) (hb b off rfl (by omega))).trans hz, hz'⟩
  · intro b off e hl
    obtain ⟨hne, hlt⟩ := h7 b off e hl
    exact ⟨hne, Nat.lt_of_lt_of_le hlt hs⟩
theorem Cur.old {w : World} {c len cap N : Nat} {a : Option Addr} (h : Cur w c a len cap N) : ∀ b off, a = some ⟨b, off, none⟩ → 0 < len → b < w.heap.size := fun b off e hl => (h.2.2.2.2.2.2.2 b off e hl).2
theorem own_kp {w w' : World} {c base e s n : Nat} {v : Value} {xs : List Value} (h : w.ownsRow base e s v n xs) (hk : Kp c w w') (hc : c < base) : w'.ownsRow base e s v n xs := by
  refine ⟨h.1, ?_⟩
  rcases h.2 with h0 | ⟨g, cap, cur, hv, hb, hg, r⟩
  · exact Or.inl h0
  · exact Or.inr ⟨g, cap, cur, hv, hb, (hk.block g (Array.getElem?_eq_some_iff.1 hg).1 (by omega)).trans hg, r⟩
theorem kp_set {w w3 : World} {c g o : Nat} {v : Value} (h : Kp c w w3) (hg : w.heap.size ≤ g) : Kp c w (w3.setCell ⟨g, o, none⟩ v) := h.setNew hg o v
theorem cur_set {w w3 : World} {c g o len cap N : Nat} {a : Option Addr} {v : Value} (hc : Cur w3 c a len cap N) (hcw : c < w.heap.size) (hold : ∀ b off, a = some ⟨b, off, none⟩ → 0 < len → b < w.heap.size) (hg : w.heap.size ≤ g) : Cur (w3.setCell ⟨g, o, none⟩ v) c a len cap N :=
  hc.set (by omega) (fun b off e hl => by have := hold b off e hl; omega)
set_option maxRecDepth 100000 in
set_option maxHeartbeats 400000 in
theorem amongB_any {c len cap N b l k : Nat} {lo hi : Int} {a : Option Addr} {w : World} (hc : Cur w c a len cap N) (hN : N ≤ 900000000) (hl : 0 < l) (hl1 : l ≤ 1000000) (hb : b < w.heap.size) (hne : b ≠ c)
    (hz : ∀ i, i < l → ∃ z : Int, w.cell? ⟨b, i, none⟩ = some (.int .i64 z) ∧ lo ≤ z ∧ z ≤ hi) :
    Calls Try.prog 96 #[.pointer (some ⟨c, 0, none⟩), .slice (some ⟨b, 0, none⟩) l k] w fun e w' => ∃ r : Int, e = .returned (.int .i64 r) ∧ lo ≤ r ∧ r ≤ hi ∧ Cur w' c a len cap (N + 2) ∧ Kp c w w' := by
  have HC := hide hc
  have HZ := hide hz
  clear hc hz
  go_enter Try.func96, Try.ntmps96
  go_wp2_with fail
  refine (pick_any (l : Int) (by omega) HC.out hN).mono ?_
  rintro e w1 ⟨r, rfl, r0, r1, hc1, hk1⟩
  have HC1 := hide hc1
  clear hc1
  obtain ⟨i, rfl⟩ := Int.eq_ofNat_of_zero_le r0
  have hi : i < l := by omega
  have hi' : (i : Int) < (l : Int) := by omega
  obtain ⟨z, hcell, z0, z1⟩ := HZ.out i hi
  have hcell' : w1.cell? ⟨b, i, none⟩ = some (.int .i64 z) := (hk1.cell hb hne).trans hcell
  clear r1
  go_wp2_with fail
  go_ret
  exact ⟨_, rfl, z0, z1, HC1.out, hk1⟩
theorem three_cells (w : World) (t : TypeId) {z0 z1 z2 lo hi : Int} (h0 : lo ≤ z0 ∧ z0 ≤ hi) (h1 : lo ≤ z1 ∧ z1 ≤ hi) (h2 : lo ≤ z2 ∧ z2 ≤ hi) : ∀ i, i < 3 → ∃ z : Int, (w.alloc (.cells #[.int .i64 z0, .int .i64 z1, .int .i64 z2] t)).cell? ⟨w.heap.size, i, none⟩ = some (.int .i64 z) ∧ lo ≤ z ∧ z ≤ hi := by
  intro i hi
  have : i = 0 ∨ i = 1 ∨ i = 2 := by omega
  rcases this with rfl | rfl | rfl
  · exact ⟨z0, by simp, h0⟩
  · exact ⟨z1, by simp, h1⟩
  · exact ⟨z2, by simp, h2⟩
theorem kp_push {w w3 w4 : World} {c e s n : Nat} {v : Value} {xs : List Value} (h : Kp c w w3) (own : w3.ownsRow w.heap.size e s v n xs) (hg : w3.grownBy w4 v.ownBlock) : Kp c w w4 := by
  have hz := h.size
  refine ⟨hg.os.trans h.os, hg.tape.trans h.tape, hg.output.trans h.output, by have := hg.size; omega, fun k hk hne => ?_⟩
  rw [hg.block k (by omega) (own_far own hk)]
  exact h.block k hk hne
theorem cur_push {w w3 w4 : World} {c e s n len cap N : Nat} {a : Option Addr} {v : Value} {xs : List Value} (hc : Cur w3 c a len cap N) (hcw : c < w.heap.size) (hold : ∀ b off, a = some ⟨b, off, none⟩ → 0 < len → b < w.heap.size) (hs : w.heap.size ≤ w3.heap.size)
    (own : w3.ownsRow w.heap.size e s v n xs) (hg : w3.grownBy w4 v.ownBlock) : Cur w4 c a len cap N := by
  have blk : ∀ k, k < w.heap.size → w4.heap[k]? = w3.heap[k]? := fun k hk => hg.block k (by omega) (own_far own hk)
  exact hc.blocks (by have := hg.size; omega) (blk c hcw) (fun b off e hl => blk b (hold b off e hl))
/-- One number more, and where the list lies then. -/
theorem push_lies {w : World} {base n : Nat} {v : Value} {xs : List Value} {x : Int} (hown : w.ownsRow base 3 1 v n xs) (hn : n ≤ 100000) (hb : base ≤ w.heap.size) :
    ∃ g cap w', (∀ ty, (Builtin.append_ #[23, 23] ty #[v, .slice (some ⟨w.heap.size, 0, none⟩) 1 1]).run Try.prog (w.alloc (.cells #[.int .i64 x] 3)) = .ok (.slice (some ⟨g, 0, none⟩) (n + 1) cap) w') ∧ w'.ownsRow base 3 1 (.slice (some ⟨g, 0, none⟩) (n + 1) cap) (n + 1) (xs ++ [.int .i64 x]) ∧ w.grownBy w' v.ownBlock ∧ (v.ownBlock = some g ∨ w.heap.size ≤ g) := by
  obtain ⟨i0, hi, hz0, hz1, hz2⟩ := infoI
  obtain ⟨g, cap, w', h1, h2, h3, h4, _⟩ := run_append_lies (P := Try.prog) (w := w.alloc (.cells #[.int .i64 x] 3)) 23 0 base 3 i0 _ 1 8 Try.underlying23 hi hz0 hz1 hz2 rfl (by decide) v n xs (hown.alloc _) ⟨w.heap.size, 0, none⟩ 1 1 [.int .i64 x] rfl (fun j u hj => by
      rcases vrow_new w (.int .i64 x) 3 with h | ⟨b, off, e, _, hc⟩
      · cases h
      · cases e; rw [add_plain']; exact hc j u hj) (fun u hu => by simp at hu; subst hu; rfl) (by omega) (by unfold maxLen; omega) (by omega) (by simp; omega) _ rfl
  refine ⟨g, cap, w', fun _ => h1, h2, ?_, ?_⟩
  · have hg := World.grownBy_alloc w (.cells #[.int .i64 x] 3) v.ownBlock
    exact ⟨h3.os.trans hg.os, h3.tape.trans hg.tape, h3.output.trans hg.output, Nat.le_trans hg.size h3.size, fun b hb hne => (h3.block b (Nat.lt_of_lt_of_le hb hg.size) hne).trans (hg.block b hb hne)⟩
  · rcases h4 with h | h
    · exact Or.inl h
    · right; simp at h; omega
theorem own_cap {w : World} {base n : Nat} {v : Value} {xs : List Int} (hx : xs.length = n) (h : w.ownsRow base 3 1 v n (ints xs)) : ∃ a cap, v = .slice a n cap ∧ n ≤ cap ∧ ARow w a xs := by
  rcases h.2 with ⟨rfl, hn⟩ | ⟨g, cap, cur, rfl, _, _, hc, _⟩
  · subst hn; exact ⟨none, 0, rfl, Nat.le_refl _, Or.inl (List.length_eq_zero_iff.1 hx)⟩
  · exact ⟨_, _, rfl, hc, arow_owns hx.symm h⟩
set_option maxRecDepth 100000 in
set_option maxHeartbeats 4000000 in
theorem order7_any {c len cap N m : Nat} {a : Option Addr} {w : World} (hc : Cur w c a len cap N) (hN : N ≤ 700000000) (hm : m ≤ 12) :
    Calls Try.prog 69 #[.pointer (some ⟨c, 0, none⟩), .int .i64 m] w fun e w' => ∃ v xs, e = .returned v ∧ xs.length = m ∧ w'.ownsRow w.heap.size 3 1 v m (ints xs) ∧ Cur w' c a len cap (N + 40) ∧ Kp c w w' := by
  have hcw := hc.1
  have HOLD := hide hc.old
  have HC := hide hc
  clear hc
  go_enter Try.func69, Try.ntmps69
  go_wp2_with fail
  go_loopw [5, 6] (fun v s wr => ∃ (k : Nat) (xs : List Int), s = .int .i64 k ∧ k ≤ m ∧ xs.length = k ∧ wr.ownsRow w.heap.size 3 1 v k (ints xs) ∧ Hid (Cur wr c a len cap N) ∧ Hid (Kp c w wr)) (fun _ s _ => m - (intOf s).toNat)
  case atStart => exact ⟨0, [], rfl, Nat.zero_le _, rfl, World.ownsRow_nil _ _ _ _, HC, hide (Kp.refl _ _)⟩
  case round =>
    obtain ⟨k, xs, rfl, hk, hx, hown, HCR, HKR⟩ := hrel
    by_cases hlt : k < m
    · have k1 : (k : Int) < (m : Int) := by omega
      have hs := HKR.out.size
      obtain ⟨v', w3, hr3, own3, hg3⟩ := push_int (x := (k : Int)) hown (by omega) hs
      rw [← ints_snoc] at own3
      have HO3 := hide own3
      have HK3 := hide (kp_push HKR.out hown hg3)
      have HC3 := hide (cur_push HCR.out hcw HOLD.out hs hown hg3)
      clear own3 hg3 hown
      go_wp2_with (first | (at_builtin; refine Lib.wpList_append_run _ rfl _ _ _ _ rfl _ _ rfl rfl _ _ (hr3 _) ?_))
      go_roundw
      case rel => exact ⟨k + 1, xs ++ [(k : Int)], by go_num, by omega, by simp [hx], HO3.out, HC3, HK3⟩
      case measure => simp only [intOf]; omega
    · have hke : k = m := by omega
      subst hke
      have HO := hide hown
      clear hown
      go_wp2_with fail
      refine (pick_any 6 (by omega) HCR.out (by omega)).mono ?_
      rintro e w1 ⟨r1, rfl, p0, p1, hc1, hk1⟩
      obtain ⟨n0, rfl⟩ := Int.eq_ofNat_of_zero_le p0
      have HO1 := hide (own_kp HO.out hk1 hcw)
      have HC1 := hide hc1
      have HK1 := hide (HKR.out.trans hk1)
      have hn0 : n0 ≤ 5 := by omega
      clear hc1 hk1 HO HKR HCR p1
      go_wp2_with fail
      go_loopw [7, 8, 9, 10] (fun s _ _ _ wr => ∃ (n : Nat) (ys : List Int), s = .int .i64 n ∧ n ≤ 5 ∧ ys.length = k ∧ wr.ownsRow w.heap.size 3 1 _ k (ints ys) ∧ Hid (Cur wr c a len cap (N + 2 + 4 * (5 - n))) ∧ Hid (Kp c w wr)) (fun s _ _ _ _ => (intOf s).toNat)
      case atStart => exact ⟨n0, xs, rfl, hn0, hx, HO1.out, hide (HC1.out.le (by omega)), HK1⟩
      case round =>
        obtain ⟨n, ys, rfl, hn, hy, hown, HCR, HKR⟩ := hrel
        by_cases hn1 : 0 < n
        · have z1 : (0 : Int) < (n : Int) := by omega
          by_cases hk1 : 1 < k
          · have z2 : (1 : Int) < (k : Int) := by omega
            have HO := hide hown
            clear hown
            obtain ⟨g, cp, e1, hg0, hg1⟩ := own_some HO.out (by omega)
            subst e1
            go_wp2_with fail
            refine (pick_any (k : Int) (by omega) HCR.out (by omega)).mono ?_
            rintro e w3 ⟨r3, rfl, q0, q1, hc3, hk3⟩
            obtain ⟨i, rfl⟩ := Int.eq_ofNat_of_zero_le q0
            have hi : i < k := by omega
            have HO3 := hide (own_kp HO.out hk3 hcw)
            have HC3 := hide hc3
            have HK3 := hide (HKR.out.trans hk3)
            clear hc3 hk3 HO HCR HKR q1
            go_wp2_with fail
            refine (pick_any (k : Int) (by omega) HC3.out (by omega)).mono ?_
            rintro e w4 ⟨r4, rfl, q2, q3, hc4, hk4⟩
            obtain ⟨j, rfl⟩ := Int.eq_ofNat_of_zero_le q2
            have hj : j < k := by omega
            have own4 := own_kp HO3.out hk4 hcw
            have HC4 := hide hc4
            have HK4 := hide (HK3.out.trans hk4)
            clear hc4 hk4 HO3 HC3 HK3 q3
            have i0 : (0 : Int) ≤ (i : Int) := by omega
            have i1 : (i : Int) < (k : Int) := by omega
            have j0 : (0 : Int) ≤ (j : Int) := by omega
            have j1 : (j : Int) < (k : Int) := by omega
            have c1 : w4.cell? ⟨g, i, none⟩ = some (.int .i64 (ys.getD i 0)) := by rw [own4.cellAt i (by omega), ints_get ys i (by omega)]
            have c2 : w4.cell? ⟨g, j, none⟩ = some (.int .i64 (ys.getD j 0)) := by rw [own4.cellAt j (by omega), ints_get ys j (by omega)]
            have f1 := own4.frozenAt i
            obtain ⟨st1, _⟩ := own4.stored i (.int .i64 (ys.getD j 0))
            rw [ints_set] at st1
            have c3 : (w4.setCell ⟨g, i, none⟩ (.int .i64 (ys.getD j 0))).cell? ⟨g, j, none⟩ = some (.int .i64 ((ys.set i (ys.getD j 0)).getD j 0)) := by rw [st1.cellAt j (by omega), ints_get _ j (by simp; omega)]
            have f2 := st1.frozenAt j
            obtain ⟨st2, _⟩ := st1.stored j (.int .i64 (ys.getD i 0))
            rw [ints_set] at st2
            have HST := hide st2
            have HC5 := hide (cur_set (o := j) (v := .int .i64 (ys.getD i 0)) (cur_set (o := i) (v := .int .i64 (ys.getD j 0)) HC4.out hcw HOLD.out hg0) hcw HOLD.out hg0)
            have HK5 := hide (kp_set (o := j) (v := .int .i64 (ys.getD i 0)) (kp_set (o := i) (v := .int .i64 (ys.getD j 0)) HK4.out hg0) hg0)
            have hyl : ((ys.set i (ys.getD j 0)).set j (ys.getD i 0)).length = k := by simpa using hy
            generalize hys : (ys.set i (ys.getD j 0)).set j (ys.getD i 0) = zs at *
            generalize (ys.set i (ys.getD j 0)).getD j 0 = y3 at *
            generalize ys.getD i 0 = y1 at *
            generalize ys.getD j 0 = y2 at *
            clear hys own4 st1 st2 HC4 HK4
            go_wp2_with fail
            go_roundw
            case rel => exact ⟨n - 1, zs, by congr 1; omega, by omega, hyl, HST.out, hide (HC5.out.le (by omega)), HK5⟩
            case measure => simp only [intOf]; omega
          · have z2 : ¬ (1 : Int) < (k : Int) := by omega
            have HO := hide hown
            clear hown
            by_cases hk0 : k = 0
            · have hz1 : ¬ (0 : Int) < (k : Int) := by omega
              clear hk0
              go_wp2_with fail
              go_ret
              exact ⟨_, rfl, ys, hy, HO.out, HCR.out.le (by omega), HKR.out⟩
            · have hz1 : (0 : Int) < (k : Int) := by omega
              obtain ⟨g, cp, e1, hg0, hg1⟩ := own_some HO.out hk0
              subst e1
              go_wp2_with fail
              refine (one_any 20 (by omega) HCR.out (by omega)).mono ?_
              rintro e w3 ⟨r3, rfl, hc3, hk3⟩
              have HO3 := hide (own_kp HO.out hk3 hcw)
              have HC3 := hide hc3
              have HK3 := hide (HKR.out.trans hk3)
              clear hc3 hk3 HO HCR HKR
              cases r3
              · go_wp2_with fail
                go_ret
                exact ⟨_, ys, rfl, hy, HO3.out, HC3.out.le (by omega), HK3.out⟩
              · go_wp2_with fail
                refine (pick_any ((k : Int) + 2) (by omega) HC3.out (by omega)).mono ?_
                rintro e w4 ⟨r4, rfl, q0, q1, hc4, hk4⟩
                have own4 := own_kp HO3.out hk4 hcw
                have HC4 := hide hc4
                have HK4 := hide (HK3.out.trans hk4)
                have c0 : w4.cell? ⟨g, 0, none⟩ = some (.int .i64 (ys.getD 0 0)) := by rw [own4.cellAt 0 (by omega), ints_get ys 0 (by omega)]
                have f0 := own4.frozenAt 0
                obtain ⟨st1, _⟩ := own4.stored 0 (.int .i64 (r4 - 1))
                rw [ints_set] at st1
                have HST := hide st1
                generalize ys.getD 0 0 = y0 at *
                clear hc4 hk4 own4 st1 HO3 HC3 HK3
                go_wp2_with fail
                go_ret
                exact ⟨_, ys.set 0 (r4 - 1), rfl, by simpa using hy, HST.out, (cur_set HC4.out hcw HOLD.out hg0).le (by omega), kp_set HK4.out hg0⟩
        · have z1 : ¬ (0 : Int) < (n : Int) := by omega
          have HO := hide hown
          clear hown
          by_cases hk0 : k = 0
          · have hz1 : ¬ (0 : Int) < (k : Int) := by omega
            clear hk0
            go_wp2_with fail
            go_ret
            exact ⟨_, rfl, ys, hy, HO.out, HCR.out.le (by omega), HKR.out⟩
          · have hz1 : (0 : Int) < (k : Int) := by omega
            obtain ⟨g, cp, e1, hg0, hg1⟩ := own_some HO.out hk0
            subst e1
            go_wp2_with fail
            refine (one_any 20 (by omega) HCR.out (by omega)).mono ?_
            rintro e w3 ⟨r3, rfl, hc3, hk3⟩
            have HO3 := hide (own_kp HO.out hk3 hcw)
            have HC3 := hide hc3
            have HK3 := hide (HKR.out.trans hk3)
            clear hc3 hk3 HO HCR HKR
            cases r3
            · go_wp2_with fail
              go_ret
              exact ⟨_, ys, rfl, hy, HO3.out, HC3.out.le (by omega), HK3.out⟩
            · go_wp2_with fail
              refine (pick_any ((k : Int) + 2) (by omega) HC3.out (by omega)).mono ?_
              rintro e w4 ⟨r4, rfl, q0, q1, hc4, hk4⟩
              have own4 := own_kp HO3.out hk4 hcw
              have HC4 := hide hc4
              have HK4 := hide (HK3.out.trans hk4)
              have c0 : w4.cell? ⟨g, 0, none⟩ = some (.int .i64 (ys.getD 0 0)) := by rw [own4.cellAt 0 (by omega), ints_get ys 0 (by omega)]
              have f0 := own4.frozenAt 0
              obtain ⟨st1, _⟩ := own4.stored 0 (.int .i64 (r4 - 1))
              rw [ints_set] at st1
              have HST := hide st1
              generalize ys.getD 0 0 = y0 at *
              clear hc4 hk4 own4 st1 HO3 HC3 HK3
              go_wp2_with fail
              go_ret
              exact ⟨_, ys.set 0 (r4 - 1), rfl, by simpa using hy, HST.out, (cur_set HC4.out hcw HOLD.out hg0).le (by omega), kp_set HK4.out hg0⟩
end Go.Proofs.Ytljccbnkibfimaa
