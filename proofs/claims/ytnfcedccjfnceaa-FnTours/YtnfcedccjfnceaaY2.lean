/-
  In one: Pg, Hs, Ht, Hl11, Jc0, Pm, Pn, Jm10, Sk, Mm11, Dw11, Dz11, Ns11, Hb, Hc, Rb11, Rc11, Re11, Rh11, Ri11, Rj11.
-/
import Derived.Test.YtnfcedccjfnceaaY1
import Derived.Deep.AppendLies
import Derived.Deep.DeepCutAuto
import Derived.OwnWalk
import Derived.Deep.RegionHeld3
import Derived.BigQuiet
import Derived.Shelf.Abstract
namespace Go.Proofs.Ytnfcedccjfnceaa
open Go.RowKit

theorem owns_keep {w w' : World} {base e s n c g : Nat} {xs : List Value} (h : w.ownsRow base e s (.slice (some ⟨g, 0, none⟩) n c) n xs) (hb : w'.heap[g]? = w.heap[g]?) : w'.ownsRow base e s (.slice (some ⟨g, 0, none⟩) n c) n xs := by
  rcases h with ⟨h0, h | ⟨g', cap, cur, h1, h2, h3, h4⟩⟩
  · cases h.1
  · cases h1; exact ⟨h0, Or.inr ⟨g, c, cur, rfl, h2, hb.trans h3, h4⟩⟩
theorem owns_low {w : World} {base base' e s n : Nat} {v : Value} {xs : List Value} (h : w.ownsRow base e s v n xs) (hb : base' ≤ base) : w.ownsRow base' e s v n xs := by
  rcases h with ⟨h0, h | ⟨g, cap, cur, h1, h2, h3⟩⟩
  · exact ⟨h0, Or.inl h⟩
  · exact ⟨h0, Or.inr ⟨g, cap, cur, h1, Nat.le_trans hb h2, h3⟩⟩
/-- A variable of two fields in a block of its own. -/
def PBox (w : World) (B : Nat) (v0 v1 : Value) : Prop := w.cell? ⟨B, 0, none⟩ = some v0 ∧ w.cell? ⟨B, 1, none⟩ = some v1 ∧ B < w.heap.size
theorem PBox.below {w w' : World} {B : Nat} {v0 v1 : Value} (h : PBox w B v0 v1) (hb : Below w.heap.size w w') : PBox w' B v0 v1 :=
  ⟨(hb.cell (p := ⟨B, 0, none⟩) h.2.2).trans h.1, (hb.cell (p := ⟨B, 1, none⟩) h.2.2).trans h.2.1, Nat.lt_of_lt_of_le h.2.2 hb.size⟩
theorem PBox.new (w : World) (v0 v1 : Value) (t : TypeId) : PBox (w.alloc (.cells #[v0, v1] t)) w.heap.size v0 v1 := ⟨by simp [go_sem], by simp [go_sem], by simp⟩
theorem PBox.drewN {w : World} {B : Nat} {v0 v1 : Value} (h : PBox w B v0 v1) (q : Nat) : PBox (w.drewN q) B v0 v1 := h
theorem grown_below' {w w' : World} {g k : Nat} (hg : w.grownBy w' (some g)) (h : k ≤ g) (hk : k ≤ w.heap.size) : Below k w w' :=
  ⟨hg.os, hg.tape, hg.output, hg.size, fun b hb => hg.block b (by omega) (by simp; omega)⟩
theorem below_new (w : World) (o : Obj) : Below w.heap.size w (w.alloc o) := (Below.refl _ _).alloc (Nat.le_refl _) o
end Go.Proofs.Ytnfcedccjfnceaa
namespace Go.Proofs.Ytnfcedccjfnceaa
open Go.RowKit

theorem own_far {w : World} {base e s n k : Nat} {v : Value} {xs : List Value} (h : w.ownsRow base e s v n xs) (hk : k < base) : some k ≠ v.ownBlock := by
  rcases h.2 with ⟨rfl, _⟩ | ⟨g, cap, cur, rfl, hb, _⟩
  · simp [Value.ownBlock]
  · simp [Value.ownBlock]; omega
theorem own_some {w : World} {base e s n : Nat} {v : Value} {xs : List Value} (h : w.ownsRow base e s v n xs) (hn : n ≠ 0) : ∃ g cap, v = .slice (some ⟨g, 0, none⟩) n cap ∧ base ≤ g ∧ g < w.heap.size := by
  rcases h.2 with ⟨_, h0⟩ | ⟨g, cap, cur, hv, hb, hg, _⟩
  · exact absurd h0 hn
  · exact ⟨g, cap, hv, hb, (Array.getElem?_eq_some_iff.1 hg).1⟩
theorem Cur.blocks {w w' : World} {c len cap N : Nat} {a : Option Addr} (h : Cur w c a len cap N) (hs : w.heap.size ≤ w'.heap.size) (hc : w'.heap[c]? = w.heap[c]?)
    (hb : ∀ b off, a = some ⟨b, off, none⟩ → 0 < len → w'.heap[b]? = w.heap[b]?) : Cur w' c a len cap N := by
  obtain ⟨h0, h1, ⟨x, h2, h2'⟩, ⟨y, h3, h3', h3''⟩, h4, h5, h6, h7⟩ := h
  have ec : ∀ o, w'.cell? ⟨c, o, none⟩ = w.cell? ⟨c, o, none⟩ := fun o => World.cell?_of_block (w := w) hc
  have ef : ∀ o, w'.frozen? ⟨c, o, none⟩ = w.frozen? ⟨c, o, none⟩ := fun o => World.frozen?_of_block (w := w) hc
  refine ⟨Nat.lt_of_lt_of_le h0 hs, (ec 0).trans h1, ⟨x, (ec 1).trans h2, h2'⟩, ⟨y, (ec 2).trans h3, h3', h3''⟩, (ef 1).trans h4, (ef 2).trans h5, ?_, ?_⟩
  · rcases h6 with h | ⟨b, off, rfl, hbb⟩
    · exact Or.inl h
    · refine Or.inr ⟨b, off, rfl, fun i hi => ?_⟩
      obtain ⟨z, hz, hz'⟩ := hbb i hi
      exact ⟨z, (World.cell?_of_block (w := w) (hb b off rfl (by omega))).trans hz, hz'⟩
  · intro b off e hl
    obtain ⟨hne, hlt⟩ := h7 b off e hl
    exact ⟨hne, Nat.lt_of_lt_of_le hlt hs⟩
theorem Cur.old {w : World} {c len cap N : Nat} {a : Option Addr} (h : Cur w c a len cap N) : ∀ b off, a = some ⟨b, off, none⟩ → 0 < len → b < w.heap.size := fun b off e hl => (h.2.2.2.2.2.2.2 b off e hl).2
theorem own_kp {w w' : World} {c base e s n : Nat} {v : Value} {xs : List Value} (h : w.ownsRow base e s v n xs) (hk : Kp c w w') (hc : c < base) : w'.ownsRow base e s v n xs := by
  refine ⟨h.1, ?_⟩
  rcases h.2 with h0 | ⟨g, cap, cur, hv, hb, hg, r⟩
  · exact Or.inl h0
  · exact Or.inr ⟨g, cap, cur, hv, hb, (hk.block g (Array.getElem?_eq_some_iff.1 hg).1 (by omega)).trans hg, r⟩
theorem kp_set {w w3 : World} {c g o : Nat} {v : Value} (h : Kp c w w3) (hg : w.heap.size ≤ g) : Kp c w (w3.setCell ⟨g, o, none⟩ v) := h.setNew hg o v
theorem cur_set {w w3 : World} {c g o len cap N : Nat} {a : Option Addr} {v : Value} (hc : Cur w3 c a len cap N) (hcw : c < w.heap.size) (hold : ∀ b off, a = some ⟨b, off, none⟩ → 0 < len → b < w.heap.size) (hg : w.heap.size ≤ g) : Cur (w3.setCell ⟨g, o, none⟩ v) c a len cap N :=
  hc.set (by omega) (fun b off e hl => by have := hold b off e hl; omega)
set_option maxRecDepth 100000 in
set_option maxHeartbeats 400000 in
theorem amongB_any {c len cap N b l k : Nat} {lo hi : Int} {a : Option Addr} {w : World} (hc : Cur w c a len cap N) (hN : N ≤ 900000000) (hl : 0 < l) (hl1 : l ≤ 1000000) (hb : b < w.heap.size) (hne : b ≠ c)
    (hz : ∀ i, i < l → ∃ z : Int, w.cell? ⟨b, i, none⟩ = some (.int .i64 z) ∧ lo ≤ z ∧ z ≤ hi) :
    Calls Try.prog 49 #[.pointer (some ⟨c, 0, none⟩), .slice (some ⟨b, 0, none⟩) l k] w fun e w' => ∃ r : Int, e = .returned (.int .i64 r) ∧ lo ≤ r ∧ r ≤ hi ∧ Cur w' c a len cap (N + 2) ∧ Kp c w w' := by
  have HC := hide hc
  have HZ := hide hz
  clear hc hz
  go_enter Try.func49, Try.ntmps49
  go_wp2_with fail
  refine (pick_any (l : Int) (by omega) HC.out hN).mono ?_
  rintro e w1 ⟨r, rfl, r0, r1, hc1, hk1⟩
  have HC1 := hide hc1
  clear hc1
  obtain ⟨i, rfl⟩ := Int.eq_ofNat_of_zero_le r0
  have hi : i < l := by omega
  have hi' : (i : Int) < (l : Int) := by omega
  obtain ⟨z, hcell, z0, z1⟩ := HZ.out i hi
  have hcell' : w1.cell? ⟨b, i, none⟩ = some (.int .i64 z) := (hk1.cell hb hne).trans hcell
  clear r1
  go_wp2_with fail
  go_ret
  exact ⟨_, rfl, z0, z1, HC1.out, hk1⟩
theorem three_cells (w : World) (t : TypeId) {z0 z1 z2 lo hi : Int} (h0 : lo ≤ z0 ∧ z0 ≤ hi) (h1 : lo ≤ z1 ∧ z1 ≤ hi) (h2 : lo ≤ z2 ∧ z2 ≤ hi) : ∀ i, i < 3 → ∃ z : Int, (w.alloc (.cells #[.int .i64 z0, .int .i64 z1, .int .i64 z2] t)).cell? ⟨w.heap.size, i, none⟩ = some (.int .i64 z) ∧ lo ≤ z ∧ z ≤ hi := by
  intro i hi
  have : i = 0 ∨ i = 1 ∨ i = 2 := by omega
  rcases this with rfl | rfl | rfl
  · exact ⟨z0, by simp, h0⟩
  · exact ⟨z1, by simp, h1⟩
  · exact ⟨z2, by simp, h2⟩
theorem kp_push {w w3 w4 : World} {c e s n : Nat} {v : Value} {xs : List Value} (h : Kp c w w3) (own : w3.ownsRow w.heap.size e s v n xs) (hg : w3.grownBy w4 v.ownBlock) : Kp c w w4 := by
  have hz := h.size
  refine ⟨hg.os.trans h.os, hg.tape.trans h.tape, hg.output.trans h.output, by have := hg.size; omega, fun k hk hne => ?_⟩
  rw [hg.block k (by omega) (own_far own hk)]
  exact h.block k hk hne
theorem cur_push {w w3 w4 : World} {c e s n len cap N : Nat} {a : Option Addr} {v : Value} {xs : List Value} (hc : Cur w3 c a len cap N) (hcw : c < w.heap.size) (hold : ∀ b off, a = some ⟨b, off, none⟩ → 0 < len → b < w.heap.size) (hs : w.heap.size ≤ w3.heap.size)
    (own : w3.ownsRow w.heap.size e s v n xs) (hg : w3.grownBy w4 v.ownBlock) : Cur w4 c a len cap N := by
  have blk : ∀ k, k < w.heap.size → w4.heap[k]? = w3.heap[k]? := fun k hk => hg.block k (by omega) (own_far own hk)
  exact hc.blocks (by have := hg.size; omega) (blk c hcw) (fun b off e hl => blk b (hold b off e hl))
/-- One number more, and where the list lies then. -/
theorem push_lies {w : World} {base n : Nat} {v : Value} {xs : List Value} {x : Int} (hown : w.ownsRow base 3 1 v n xs) (hn : n ≤ 100000) (hb : base ≤ w.heap.size) :
    ∃ g cap w', (∀ ty, (Builtin.append_ #[24, 24] ty #[v, .slice (some ⟨w.heap.size, 0, none⟩) 1 1]).run Try.prog (w.alloc (.cells #[.int .i64 x] 3)) = .ok (.slice (some ⟨g, 0, none⟩) (n + 1) cap) w') ∧ w'.ownsRow base 3 1 (.slice (some ⟨g, 0, none⟩) (n + 1) cap) (n + 1) (xs ++ [.int .i64 x]) ∧ w.grownBy w' v.ownBlock ∧ (v.ownBlock = some g ∨ w.heap.size ≤ g) := by
  obtain ⟨i0, hi, hz0, hz1, hz2⟩ := infoI
  obtain ⟨g, cap, w', h1, h2, h3, h4, _⟩ := run_append_lies (P := Try.prog) (w := w.alloc (.cells #[.int .i64 x] 3)) 24 0 base 3 i0 _ 1 8 Try.underlying24 hi hz0 hz1 hz2 rfl (by decide) v n xs (hown.alloc _) ⟨w.heap.size, 0, none⟩ 1 1 [.int .i64 x] rfl (fun j u hj => by
      rcases vrow_new w (.int .i64 x) 3 with h | ⟨b, off, e, _, hc⟩
      · cases h
      · cases e; rw [add_plain']; exact hc j u hj) (fun u hu => by simp at hu; subst hu; rfl) (by omega) (by unfold maxLen; omega) (by omega) (by simp; omega) _ rfl
  refine ⟨g, cap, w', fun _ => h1, h2, ?_, ?_⟩
  · have hg := World.grownBy_alloc w (.cells #[.int .i64 x] 3) v.ownBlock
    exact ⟨h3.os.trans hg.os, h3.tape.trans hg.tape, h3.output.trans hg.output, Nat.le_trans hg.size h3.size, fun b hb hne => (h3.block b (Nat.lt_of_lt_of_le hb hg.size) hne).trans (hg.block b hb hne)⟩
  · rcases h4 with h | h
    · exact Or.inl h
    · right; simp at h; omega
theorem own_cap {w : World} {base n : Nat} {v : Value} {xs : List Int} (hx : xs.length = n) (h : w.ownsRow base 3 1 v n (ints xs)) : ∃ a cap, v = .slice a n cap ∧ n ≤ cap ∧ ARow w a xs := by
  rcases h.2 with ⟨rfl, hn⟩ | ⟨g, cap, cur, rfl, _, _, hc, _⟩
  · subst hn; exact ⟨none, 0, rfl, Nat.le_refl _, Or.inl (List.length_eq_zero_iff.1 hx)⟩
  · exact ⟨_, _, rfl, hc, arow_owns hx.symm h⟩
set_option maxRecDepth 100000 in
set_option maxHeartbeats 4000000 in
theorem order7_any {c len cap N m : Nat} {a : Option Addr} {w : World} (hc : Cur w c a len cap N) (hN : N ≤ 700000000) (hm : m ≤ 12) :
    Calls Try.prog 26 #[.pointer (some ⟨c, 0, none⟩), .int .i64 m] w fun e w' => ∃ v xs, e = .returned v ∧ xs.length = m ∧ w'.ownsRow w.heap.size 3 1 v m (ints xs) ∧ Cur w' c a len cap (N + 40) ∧ Kp c w w' := by
  have hcw := hc.1
  have HOLD := hide hc.old
  have HC := hide hc
  clear hc
  go_enter Try.func26, Try.ntmps26
  go_wp2_with fail
  go_loopw [5, 6] (fun v s wr => ∃ (k : Nat) (xs : List Int), s = .int .i64 k ∧ k ≤ m ∧ xs.length = k ∧ wr.ownsRow w.heap.size 3 1 v k (ints xs) ∧ Hid (Cur wr c a len cap N) ∧ Hid (Kp c w wr)) (fun _ s _ => m - (intOf s).toNat)
  case atStart => exact ⟨0, [], rfl, Nat.zero_le _, rfl, World.ownsRow_nil _ _ _ _, HC, hide (Kp.refl _ _)⟩
  case round =>
    obtain ⟨k, xs, rfl, hk, hx, hown, HCR, HKR⟩ := hrel
    by_cases hlt : k < m
    · have k1 : (k : Int) < (m : Int) := by omega
      have hs := HKR.out.size
      obtain ⟨v', w3, hr3, own3, hg3⟩ := push_int (x := (k : Int)) hown (by omega) hs
      rw [← ints_snoc] at own3
      have HO3 := hide own3
      have HK3 := hide (kp_push HKR.out hown hg3)
      have HC3 := hide (cur_push HCR.out hcw HOLD.out hs hown hg3)
      clear own3 hg3 hown
      go_wp2_with (first | (at_builtin; refine Lib.wpList_append_run _ rfl _ _ _ _ rfl _ _ rfl rfl _ _ (hr3 _) ?_))
      go_roundw
      case rel => exact ⟨k + 1, xs ++ [(k : Int)], by go_num, by omega, by simp [hx], HO3.out, HC3, HK3⟩
      case measure => simp only [intOf]; omega
    · have hke : k = m := by omega
      subst hke
      have HO := hide hown
      clear hown
      go_wp2_with fail
      refine (pick_any 6 (by omega) HCR.out (by omega)).mono ?_
      rintro e w1 ⟨r1, rfl, p0, p1, hc1, hk1⟩
      obtain ⟨n0, rfl⟩ := Int.eq_ofNat_of_zero_le p0
      have HO1 := hide (own_kp HO.out hk1 hcw)
      have HC1 := hide hc1
      have HK1 := hide (HKR.out.trans hk1)
      have hn0 : n0 ≤ 5 := by omega
      clear hc1 hk1 HO HKR HCR p1
      go_wp2_with fail
      go_loopw [7, 8, 9, 10] (fun s _ _ _ wr => ∃ (n : Nat) (ys : List Int), s = .int .i64 n ∧ n ≤ 5 ∧ ys.length = k ∧ wr.ownsRow w.heap.size 3 1 _ k (ints ys) ∧ Hid (Cur wr c a len cap (N + 2 + 4 * (5 - n))) ∧ Hid (Kp c w wr)) (fun s _ _ _ _ => (intOf s).toNat)
      case atStart => exact ⟨n0, xs, rfl, hn0, hx, HO1.out, hide (HC1.out.le (by omega)), HK1⟩
      case round =>
        obtain ⟨n, ys, rfl, hn, hy, hown, HCR, HKR⟩ := hrel
        by_cases hn1 : 0 < n
        · have z1 : (0 : Int) < (n : Int) := by omega
          by_cases hk1 : 1 < k
          · have z2 : (1 : Int) < (k : Int) := by omega
            have HO := hide hown
            clear hown
            obtain ⟨g, cp, e1, hg0, hg1⟩ := own_some HO.out (by omega)
            subst e1
            go_wp2_with fail
            refine (pick_any (k : Int) (by omega) HCR.out (by omega)).mono ?_
            rintro e w3 ⟨r3, rfl, q0, q1, hc3, hk3⟩
            obtain ⟨i, rfl⟩ := Int.eq_ofNat_of_zero_le q0
            have hi : i < k := by omega
            have HO3 := hide (own_kp HO.out hk3 hcw)
            have HC3 := hide hc3
            have HK3 := hide (HKR.out.trans hk3)
            clear hc3 hk3 HO HCR HKR q1
            go_wp2_with fail
            refine (pick_any (k : Int) (by omega) HC3.out (by omega)).mono ?_
            rintro e w4 ⟨r4, rfl, q2, q3, hc4, hk4⟩
            obtain ⟨j, rfl⟩ := Int.eq_ofNat_of_zero_le q2
            have hj : j < k := by omega
            have own4 := own_kp HO3.out hk4 hcw
            have HC4 := hide hc4
            have HK4 := hide (HK3.out.trans hk4)
            clear hc4 hk4 HO3 HC3 HK3 q3
            have i0 : (0 : Int) ≤ (i : Int) := by omega
            have i1 : (i : Int) < (k : Int) := by omega
            have j0 : (0 : Int) ≤ (j : Int) := by omega
            have j1 : (j : Int) < (k : Int) := by omega
            have c1 : w4.cell? ⟨g, i, none⟩ = some (.int .i64 (ys.getD i 0)) := by rw [own4.cellAt i (by omega), ints_get ys i (by omega)]
            have c2 : w4.cell? ⟨g, j, none⟩ = some (.int .i64 (ys.getD j 0)) := by rw [own4.cellAt j (by omega), ints_get ys j (by omega)]
            have f1 := own4.frozenAt i
            obtain ⟨st1, _⟩ := own4.stored i (.int .i64 (ys.getD j 0))
            rw [ints_set] at st1
            have c3 : (w4.setCell ⟨g, i, none⟩ (.int .i64 (ys.getD j 0))).cell? ⟨g, j, none⟩ = some (.int .i64 ((ys.set i (ys.getD j 0)).getD j 0)) := by rw [st1.cellAt j (by omega), ints_get _ j (by simp; omega)]
            have f2 := st1.frozenAt j
            obtain ⟨st2, _⟩ := st1.stored j (.int .i64 (ys.getD i 0))
            rw [ints_set] at st2
            have HST := hide st2
            have HC5 := hide (cur_set (o := j) (v := .int .i64 (ys.getD i 0)) (cur_set (o := i) (v := .int .i64 (ys.getD j 0)) HC4.out hcw HOLD.out hg0) hcw HOLD.out hg0)
            have HK5 := hide (kp_set (o := j) (v := .int .i64 (ys.getD i 0)) (kp_set (o := i) (v := .int .i64 (ys.getD j 0)) HK4.out hg0) hg0)
            have hyl : ((ys.set i (ys.getD j 0)).set j (ys.getD i 0)).length = k := by simpa using hy
            generalize hys : (ys.set i (ys.getD j 0)).set j (ys.getD i 0) = zs at *
            generalize (ys.set i (ys.getD j 0)).getD j 0 = y3 at *
            generalize ys.getD i 0 = y1 at *
            generalize ys.getD j 0 = y2 at *
            clear hys own4 st1 st2 HC4 HK4
            go_wp2_with fail
            go_roundw
            case rel => exact ⟨n - 1, zs, by congr 1; omega, by omega, hyl, HST.out, hide (HC5.out.le (by omega)), HK5⟩
            case measure => simp only [intOf]; omega
          · have z2 : ¬ (1 : Int) < (k : Int) := by omega
            have HO := hide hown
            clear hown
            by_cases hk0 : k = 0
            · have hz1 : ¬ (0 : Int) < (k : Int) := by omega
              clear hk0
              go_wp2_with fail
              go_ret
              exact ⟨_, rfl, ys, hy, HO.out, HCR.out.le (by omega), HKR.out⟩
            · have hz1 : (0 : Int) < (k : Int) := by omega
              obtain ⟨g, cp, e1, hg0, hg1⟩ := own_some HO.out hk0
              subst e1
              go_wp2_with fail
              refine (one_any 20 (by omega) HCR.out (by omega)).mono ?_
              rintro e w3 ⟨r3, rfl, hc3, hk3⟩
              have HO3 := hide (own_kp HO.out hk3 hcw)
              have HC3 := hide hc3
              have HK3 := hide (HKR.out.trans hk3)
              clear hc3 hk3 HO HCR HKR
              cases r3
              · go_wp2_with fail
                go_ret
                exact ⟨_, ys, rfl, hy, HO3.out, HC3.out.le (by omega), HK3.out⟩
              · go_wp2_with fail
                refine (pick_any ((k : Int) + 2) (by omega) HC3.out (by omega)).mono ?_
                rintro e w4 ⟨r4, rfl, q0, q1, hc4, hk4⟩
                have own4 := own_kp HO3.out hk4 hcw
                have HC4 := hide hc4
                have HK4 := hide (HK3.out.trans hk4)
                have c0 : w4.cell? ⟨g, 0, none⟩ = some (.int .i64 (ys.getD 0 0)) := by rw [own4.cellAt 0 (by omega), ints_get ys 0 (by omega)]
                have f0 := own4.frozenAt 0
                obtain ⟨st1, _⟩ := own4.stored 0 (.int .i64 (r4 - 1))
                rw [ints_set] at st1
                have HST := hide st1
                generalize ys.getD 0 0 = y0 at *
                clear hc4 hk4 own4 st1 HO3 HC3 HK3
                go_wp2_with fail
                go_ret
                exact ⟨_, ys.set 0 (r4 - 1), rfl, by simpa using hy, HST.out, (cur_set HC4.out hcw HOLD.out hg0).le (by omega), kp_set HK4.out hg0⟩
        · have z1 : ¬ (0 : Int) < (n : Int) := by omega
          have HO := hide hown
          clear hown
          by_cases hk0 : k = 0
          · have hz1 : ¬ (0 : Int) < (k : Int) := by omega
            clear hk0
            go_wp2_with fail
            go_ret
            exact ⟨_, rfl, ys, hy, HO.out, HCR.out.le (by omega), HKR.out⟩
          · have hz1 : (0 : Int) < (k : Int) := by omega
            obtain ⟨g, cp, e1, hg0, hg1⟩ := own_some HO.out hk0
            subst e1
            go_wp2_with fail
            refine (one_any 20 (by omega) HCR.out (by omega)).mono ?_
            rintro e w3 ⟨r3, rfl, hc3, hk3⟩
            have HO3 := hide (own_kp HO.out hk3 hcw)
            have HC3 := hide hc3
            have HK3 := hide (HKR.out.trans hk3)
            clear hc3 hk3 HO HCR HKR
            cases r3
            · go_wp2_with fail
              go_ret
              exact ⟨_, ys, rfl, hy, HO3.out, HC3.out.le (by omega), HK3.out⟩
            · go_wp2_with fail
              refine (pick_any ((k : Int) + 2) (by omega) HC3.out (by omega)).mono ?_
              rintro e w4 ⟨r4, rfl, q0, q1, hc4, hk4⟩
              have own4 := own_kp HO3.out hk4 hcw
              have HC4 := hide hc4
              have HK4 := hide (HK3.out.trans hk4)
              have c0 : w4.cell? ⟨g, 0, none⟩ = some (.int .i64 (ys.getD 0 0)) := by rw [own4.cellAt 0 (by omega), ints_get ys 0 (by omega)]
              have f0 := own4.frozenAt 0
              obtain ⟨st1, _⟩ := own4.stored 0 (.int .i64 (r4 - 1))
              rw [ints_set] at st1
              have HST := hide st1
              generalize ys.getD 0 0 = y0 at *
              clear hc4 hk4 own4 st1 HO3 HC3 HK3
              go_wp2_with fail
              go_ret
              exact ⟨_, ys.set 0 (r4 - 1), rfl, by simpa using hy, HST.out, (cur_set HC4.out hcw HOLD.out hg0).le (by omega), kp_set HK4.out hg0⟩
end Go.Proofs.Ytnfcedccjfnceaa
namespace Go.Proofs.Ytnfcedccjfnceaa
open Go.RowKit

/-- Two lists apart. -/
def Aprt (v u : Value) : Prop := ∀ b, v.ownBlock = some b → u.ownBlock ≠ some b
theorem aprt_keep {w w' : World} {base e s n : Nat} {v u : Value} {xs : List Value} (h : w.ownsRow base e s u n xs) (hg : w.grownBy w' v.ownBlock) (hne : Aprt v u) : w'.ownsRow base e s u n xs := by
  refine h.kept hg ?_
  cases hb : u.ownBlock with
  | none => exact Or.inl rfl
  | some b => exact Or.inr fun e => hne b (e.symm) hb
theorem aprt_first {w : World} {base e s n g k cap : Nat} {v u : Value} {xs : List Value} (hu : w.ownsRow base e s u n xs) (hat : v.ownBlock = some g ∨ w.heap.size ≤ g) (hne : Aprt v u) : Aprt (.slice (some ⟨g, 0, none⟩) k cap) u := by
  intro b hb hub
  have hbg : g = b := by simpa [Value.ownBlock] using hb
  subst hbg
  rcases hat with h | h
  · exact hne _ h hub
  · have := (hu.lt _ hub).2; omega
theorem aprt_symm {v u : Value} (h : Aprt v u) : Aprt u v := fun b h1 h2 => h b h2 h1
end Go.Proofs.Ytnfcedccjfnceaa
namespace Go.Proofs.Ytnfcedccjfnceaa
open Go.RowKit

def FRow (w : World) (a : Option Addr) (ls : List (Int × Int)) : Prop :=
  ls = [] ∨ ∃ b o, a = some ⟨b, o, none⟩ ∧ b < w.heap.size ∧ ∀ i, i < ls.length → w.cell? ⟨b, o + i * 2, none⟩ = some (.int .i64 (ls.getD i (0, 0)).1) ∧ w.cell? ⟨b, o + i * 2 + 1, none⟩ = some (.int .i64 (ls.getD i (0, 0)).2)
theorem FRow.below {w w' : World} {a : Option Addr} {ls : List (Int × Int)} (h : FRow w a ls) (hb : Below w.heap.size w w') : FRow w' a ls := by
  rcases h with h | ⟨b, o, rfl, hl, hc⟩
  · exact Or.inl h
  · exact Or.inr ⟨b, o, rfl, Nat.lt_of_lt_of_le hl hb.size, fun i hi => ⟨(hb.cell (p := ⟨b, o + i * 2, none⟩) hl).trans (hc i hi).1, (hb.cell (p := ⟨b, o + i * 2 + 1, none⟩) hl).trans (hc i hi).2⟩⟩
theorem FRow.at {w : World} {a : Option Addr} {ls : List (Int × Int)} (h : FRow w a ls) {i : Nat} (hi : i < ls.length) : ∃ b o, a = some ⟨b, o, none⟩ ∧ b < w.heap.size ∧ w.cell? ⟨b, o + i * 2, none⟩ = some (.int .i64 (ls.getD i (0, 0)).1) ∧ w.cell? ⟨b, o + i * 2 + 1, none⟩ = some (.int .i64 (ls.getD i (0, 0)).2) := by
  rcases h with rfl | ⟨b, o, rfl, hl, hc⟩
  · exact absurd hi (Nat.not_lt_zero _)
  · exact ⟨b, o, rfl, hl, (hc i hi).1, (hc i hi).2⟩

/-- Cells of a block that are there, and can be written. -/
def LooseF (w : World) (B m : Nat) : Prop := ∀ j, j < m → (w.cell? ⟨B, j, none⟩).isSome = true ∧ w.frozen? ⟨B, j, none⟩ = false
theorem LooseF.below {w w' : World} {B m : Nat} (h : LooseF w B m) (hb : Below w.heap.size w w') : LooseF w' B m := fun j hj => by
  obtain ⟨h1, h2⟩ := h j hj
  have hl : B < w.heap.size := by
    obtain ⟨v, hv⟩ := Option.isSome_iff_exists.1 h1
    exact World.block_lt_of_cell? w _ hv
  exact ⟨by rw [hb.cell (p := ⟨B, j, none⟩) hl]; exact h1, by rw [hb.frozen (p := ⟨B, j, none⟩) hl]; exact h2⟩
theorem LooseF.set {w : World} {B m i : Nat} {v : Value} (h : LooseF w B m) : LooseF (w.setCell ⟨B, i, none⟩ v) B m := fun j hj => by
  obtain ⟨h1, h2⟩ := h j hj
  refine ⟨?_, by rw [World.frozen?_setCell]; exact h2⟩
  by_cases e : j = i
  · subst e
    obtain ⟨u, hu⟩ := Option.isSome_iff_exists.1 h1
    rw [World.cell?_setCell_same _ _ _ hu]; rfl
  · rw [World.cell?_setCell_other _ _ _ _ (fun e' => e (by injection e' with _ e2; exact e2.symm))]; exact h1
theorem LooseF.lt {w : World} {B m : Nat} (h : LooseF w B m) (hm : 0 < m) : B < w.heap.size := by
  obtain ⟨v, hv⟩ := Option.isSome_iff_exists.1 (h 0 hm).1
  exact World.block_lt_of_cell? w _ hv
theorem grownF_set {a w : World} {B o : Nat} {v : Value} (h : a.grownBy w (some B)) : a.grownBy (w.setCell ⟨B, o, none⟩ v) (some B) :=
  ⟨h.os, h.tape, h.output, by simpa using h.size, fun k hk hne => (Below.heap_setCell _ _ _ k (by intro e; exact hne (by rw [e]))).trans (h.block k hk hne)⟩
theorem grownF_of {a w w' : World} {B : Nat} (h : a.grownBy w (some B)) (hb : Below w.heap.size w w') : a.grownBy w' (some B) :=
  ⟨hb.os.trans h.os, hb.tape.trans h.tape, hb.output.trans h.output, Nat.le_trans h.size hb.size, fun k hk hne => (hb.block k (Nat.lt_of_lt_of_le hk h.size)).trans (h.block k hk hne)⟩
def FAt (w : World) (b off : Nat) (xs : List (Int × Int)) : Prop :=
  ∀ i, i < xs.length → w.cell? ⟨b, off + i * 2, none⟩ = some (.int .i64 (xs.getD i (0, 0)).1) ∧ w.cell? ⟨b, off + i * 2 + 1, none⟩ = some (.int .i64 (xs.getD i (0, 0)).2)
theorem FAt.below {w w' : World} {B b off : Nat} {xs : List (Int × Int)} (h : FAt w b off xs) (hb : Below B w w') (hlt : b < B) : FAt w' b off xs :=
  fun i hi => ⟨(hb.cell (p := ⟨b, off + i * 2, none⟩) hlt).trans (h i hi).1, (hb.cell (p := ⟨b, off + i * 2 + 1, none⟩) hlt).trans (h i hi).2⟩
theorem FAt.row {w : World} {b off : Nat} {xs : List (Int × Int)} (h : FAt w b off xs) (hb : b < w.heap.size) : FRow w (some ⟨b, off, none⟩) xs := Or.inr ⟨b, off, rfl, hb, h⟩
theorem setF1 {W : World} {b i : Nat} {x : Value} (h : (W.cell? ⟨b, i, none⟩).isSome = true) : (W.setCell ⟨b, i, none⟩ x).cell? ⟨b, i, none⟩ = some x := by
  obtain ⟨v, hv⟩ := Option.isSome_iff_exists.1 h
  exact World.cell?_setCell_same _ _ _ hv
theorem makeF_run (n : Nat) (hn : n ≤ 1048576) (w : World) : (Instr.makeSlice 23 (.int .i64 (n : Int)) (.int .i64 (n : Int))).run Try.prog w = .ok (.slice (some ⟨w.heap.size, 0, none⟩) n n) (w.alloc (.cells (madeCells #[.int .i64 0, .int .i64 0] (n * 2)) 35)) := by
  have h : (Try.prog.info? 35).map (fun i => (i.zero, i.size, i.bytes)) = some (some (.agg #[.int .i64 0, .int .i64 0]), 2, 16) := by kernel_rfl
  obtain ⟨i, hi, hzz⟩ := Option.map_eq_some_iff.1 h
  simp only [Prod.mk.injEq] at hzz
  obtain ⟨hz, hs, hb⟩ := hzz
  have := run_make (P := Try.prog) w 23 35 i _ Try.underlying23 hi hz .i64 .i64 (n : Int) (n : Int) (by omega) (by omega) (by rw [hb]; omega) (by omega)
  simpa [hs, Value.cells] using this
theorem madeF_cell (w : World) (n j : Nat) (t : TypeId) (hj : j < n * 2) : (w.alloc (.cells (madeCells #[.int .i64 0, .int .i64 0] (n * 2)) t)).cell? ⟨w.heap.size, j, none⟩ = some (.int .i64 0) := by
  have h2 : j % 2 = 0 ∨ j % 2 = 1 := by omega
  have h3 : (madeCells #[.int .i64 0, .int .i64 0] (n * 2))[j]? = some (.int .i64 0) := by
    rcases h2 with h2 | h2 <;> simp [madeCells, hj, h2]
  simp only [World.cell?, (MapKept.heap_alloc w _).1]
  simpa using h3
theorem putF2 {W : World} {B i : Nat} {x y : Value} (h0 : (W.cell? ⟨B, i, none⟩).isSome = true) (h1 : (W.cell? ⟨B, i + 1, none⟩).isSome = true) :
    ((W.setCell ⟨B, i, none⟩ x).setCell ⟨B, i + 1, none⟩ y).cell? ⟨B, i, none⟩ = some x ∧ ((W.setCell ⟨B, i, none⟩ x).setCell ⟨B, i + 1, none⟩ y).cell? ⟨B, i + 1, none⟩ = some y ∧
    (∀ j, j ≠ i → j ≠ i + 1 → ((W.setCell ⟨B, i, none⟩ x).setCell ⟨B, i + 1, none⟩ y).cell? ⟨B, j, none⟩ = W.cell? ⟨B, j, none⟩) ∧ (∀ a, ((W.setCell ⟨B, i, none⟩ x).setCell ⟨B, i + 1, none⟩ y).frozen? a = W.frozen? a) := by
  refine ⟨?_, ?_, ?_, ?_⟩
  · rw [World.cell?_setCell_other _ _ _ _ (by simp)]; exact setF1 h0
  · exact setF1 (by rw [World.cell?_setCell_other _ _ _ _ (by simp)]; exact h1)
  · intro j hj hj'
    rw [World.cell?_setCell_other _ _ _ _ (fun e => hj' (by injection e with _ e2; exact e2.symm)), World.cell?_setCell_other _ _ _ _ (fun e => hj (by injection e with _ e2; exact e2.symm))]
  · intro a; rw [World.frozen?_setCell, World.frozen?_setCell]
theorem madeF_frozen (w : World) (c : Array Value) (j : Nat) (t : TypeId) : (w.alloc (.cells c t)).frozen? ⟨w.heap.size, j, none⟩ = false := by simp [go_sem]

theorem takeF_row {w : World} {b off : Nat} {xs : List (Int × Int)} {k : Nat} (h : FAt w b off (xs.take k)) (hk : k < xs.length) (x1 x2 : Int) (hx : xs.getD k (0, 0) = (x1, x2)) {w' : World}
    (hw : ∀ j, j < off + k * 2 → w'.cell? ⟨b, j, none⟩ = w.cell? ⟨b, j, none⟩) (h0 : w'.cell? ⟨b, off + k * 2, none⟩ = some (.int .i64 x1)) (h1 : w'.cell? ⟨b, off + k * 2 + 1, none⟩ = some (.int .i64 x2)) : FAt w' b off (xs.take (k + 1)) := by
  intro i hi
  simp only [List.length_take] at hi
  by_cases e : i < k
  · have hh := h i (by simp only [List.length_take]; omega)
    have eq : (xs.take (k + 1)).getD i (0, 0) = (xs.take k).getD i (0, 0) := by
      simp [e, show i < k + 1 by omega]
    rw [eq]
    exact ⟨(hw _ (by omega)).trans hh.1, (hw _ (by omega)).trans hh.2⟩
  · have e2 : i = k := by omega
    subst e2
    have eq : (xs.take (i + 1)).getD i (0, 0) = (x1, x2) := by
      rw [← hx]; simp
    rw [eq]
    exact ⟨h0, h1⟩


end Go.Proofs.Ytnfcedccjfnceaa
namespace Go.Proofs.Ytnfcedccjfnceaa
open Go.RowKit

theorem g_own {w w' : World} {base e s n : Nat} {v : Value} {xs : List Value} (h : w.ownsRow base e s v n xs) (hb : Below w.heap.size w w') : w'.ownsRow base e s v n xs := by
  refine ⟨h.1, ?_⟩
  rcases h.2 with h0 | ⟨g, cap, cur, hv, hbg, hg, r⟩
  · exact Or.inl h0
  · exact Or.inr ⟨g, cap, cur, hv, hbg, (hb.block g (Array.getElem?_eq_some_iff.1 hg).1).trans hg, r⟩
/-- Nothing is turned but blocks from lo on and below hi. -/
def Rng (lo hi : Nat) (w w' : World) : Prop := w'.os = w.os ∧ w'.tape = w.tape ∧ w'.output = w.output ∧ w.heap.size ≤ w'.heap.size ∧ ∀ b, b < w.heap.size → (b < lo ∨ hi ≤ b) → w'.heap[b]? = w.heap[b]?
theorem Rng.refl (lo hi : Nat) (w : World) : Rng lo hi w w := ⟨rfl, rfl, rfl, Nat.le_refl _, fun _ _ _ => rfl⟩
theorem Rng.below {lo hi k : Nat} {w w' : World} (h : Rng lo hi w w') (hk : k ≤ lo) (hs : k ≤ w.heap.size) : Below k w w' := ⟨h.1, h.2.1, h.2.2.1, h.2.2.2.1, fun b hb => h.2.2.2.2 b (by omega) (Or.inl (by omega))⟩
theorem Rng.grown {lo hi g : Nat} {w w1 w2 : World} (h : Rng lo hi w w1) (hg : w1.grownBy w2 (some g)) (h1 : lo ≤ g) (h2 : g < hi) : Rng lo hi w w2 :=
  ⟨hg.os.trans h.1, hg.tape.trans h.2.1, hg.output.trans h.2.2.1, Nat.le_trans h.2.2.2.1 hg.size, fun b hb hh => (hg.block b (Nat.lt_of_lt_of_le hb h.2.2.2.1) (by simp; omega)).trans (h.2.2.2.2 b hb hh)⟩
theorem two_call8 {w w1 w2 : World} {b c o p : Nat} {v0 v1 : Value} (hb : b < w.heap.size) (hc : c < w.heap.size)
    (s : w1.cell? ⟨b, o, none⟩ = some v0 ∧ w1.cell? ⟨c, p, none⟩ = some v1 ∧ Below w.heap.size w w1 ∧ w.heap.size ≤ w1.heap.size) (hb2 : Below w1.heap.size w1 w2) :
    w2.cell? ⟨b, o, none⟩ = some v0 ∧ w2.cell? ⟨c, p, none⟩ = some v1 ∧ Below w.heap.size w w2 ∧ w.heap.size ≤ w2.heap.size := by
  obtain ⟨s0, s1, s4, s5⟩ := s
  exact ⟨(hb2.cell (p := ⟨b, o, none⟩) (Nat.lt_of_lt_of_le hb s5)).trans s0, (hb2.cell (p := ⟨c, p, none⟩) (Nat.lt_of_lt_of_le hc s5)).trans s1, s4.trans (hb2.mono s5), Nat.le_trans s5 hb2.size⟩
theorem lt_of_pw8 {gs : List Nat} (h : gs.Pairwise (· < ·)) {i t : Nat} (hi : i < t) (ht : t < gs.length) : gs.getD i 0 < gs.getD t 0 := by
  rw [Pf.getD_lt _ _ (show i < gs.length by omega), Pf.getD_lt _ _ ht]
  exact List.pairwise_iff_getElem.1 h i t (by omega) ht hi
end Go.Proofs.Ytnfcedccjfnceaa
namespace Go.Proofs.Ytnfcedccjfnceaa
open Go.RowKit

/-- Nothing has turned but the blocks x and y; new blocks may be there. -/
structure Off2 (w w' : World) (x y : Nat) : Prop where
  os : w'.os = w.os
  tape : w'.tape = w.tape
  output : w'.output = w.output
  size : w.heap.size ≤ w'.heap.size
  block : ∀ b, b < w.heap.size → b ≠ x → b ≠ y → w'.heap[b]? = w.heap[b]?
theorem Off2.below {w w' : World} {x y k : Nat} (h : Off2 w w' x y) (hx : k ≤ x) (hy : k ≤ y) (hk : k ≤ w.heap.size) : Below k w w' :=
  ⟨h.os, h.tape, h.output, h.size, fun b hb => h.block b (by omega) (by omega) (by omega)⟩
theorem own_near {w : World} {base n g cap : Nat} {xs : List Value} (h : w.ownsRow base 3 1 (.slice (some ⟨g, 0, none⟩) n cap) n xs) : g < w.heap.size := by
  rcases h.2 with ⟨h0, _⟩ | ⟨g', cap', cur, hv, h2, h3, _⟩
  · cases h0
  · cases hv; exact (Array.getElem?_eq_some_iff.1 h3).1

end Go.Proofs.Ytnfcedccjfnceaa
namespace Go.Proofs.Ytnfcedccjfnceaa
open Go.RowKit

/-- The list that a value owns holds k, k + 1, .. -/
def HeldV (w : World) (v : Value) (n : Nat) (k : Int) : Prop :=
  (v = .slice none 0 0 ∧ n = 0) ∨ ∃ g cap, v = .slice (some ⟨g, 0, none⟩) n cap ∧ g < w.heap.size ∧ ∀ j : Nat, j < n → w.cell? ⟨g, j, none⟩ = some (.int .i64 (k + j))
theorem HeldV.keep {w w' : World} {v : Value} {n : Nat} {k : Int} (h : HeldV w v n k) (hs : w.heap.size ≤ w'.heap.size) (hb : ∀ g, v.ownBlock = some g → w'.heap[g]? = w.heap[g]?) : HeldV w' v n k := by
  rcases h with h | ⟨g, cap, rfl, hl, hc⟩
  · exact Or.inl h
  · exact Or.inr ⟨g, cap, rfl, Nat.lt_of_lt_of_le hl hs, fun j hj => (World.cell?_of_block (w := w) (a := ⟨g, j, none⟩) (hb g rfl)).trans (hc j hj)⟩
theorem HeldV.below {w w' : World} {v : Value} {n : Nat} {k : Int} (h : HeldV w v n k) (hb : Below w.heap.size w w') : HeldV w' v n k := by
  rcases h with h | ⟨g, cap, rfl, hl, hc⟩
  · exact Or.inl h
  · exact Or.inr ⟨g, cap, rfl, Nat.lt_of_lt_of_le hl hb.size, fun j hj => (hb.cell (p := ⟨g, j, none⟩) hl).trans (hc j hj)⟩
theorem own_keep {w w' : World} {base n : Nat} {v : Value} {xs : List Value} (h : w.ownsRow base 3 1 v n xs) (hb : ∀ g, v.ownBlock = some g → g < w.heap.size → w'.heap[g]? = w.heap[g]?) : w'.ownsRow base 3 1 v n xs := by
  rcases h with ⟨h0, h | ⟨g', cap, cur, rfl, h2, h3, h4⟩⟩
  · exact ⟨h0, Or.inl h⟩
  · exact ⟨h0, Or.inr ⟨g', cap, cur, rfl, h2, (hb g' rfl (Array.getElem?_eq_some_iff.1 h3).1).trans h3, h4⟩⟩
theorem own_below {w w' : World} {base n : Nat} {v : Value} {xs : List Value} (h : w.ownsRow base 3 1 v n xs) (hb : Below w.heap.size w w') : w'.ownsRow base 3 1 v n xs := own_keep h fun _ _ hl => hb.block _ hl
theorem own_row {w : World} {base n : Nat} {v : Value} {xs : List Int} (hx : xs.length = n) (h : w.ownsRow base 3 1 v n (ints xs)) : ∃ a cap, v = .slice a n cap ∧ ARow w a xs := by
  rcases h.2 with ⟨rfl, hn⟩ | ⟨g, cap, cur, rfl, _⟩
  · subst hn; exact ⟨none, 0, rfl, Or.inl (List.length_eq_zero_iff.1 hx)⟩
  · exact ⟨_, _, rfl, arow_owns hx.symm h⟩
theorem grown_under {w w' : World} {base n k : Nat} {v : Value} {xs : List Value} (hg : w.grownBy w' v.ownBlock) (h : w.ownsRow base 3 1 v n xs) (hk : k ≤ base) (hs : k ≤ w.heap.size) : Below k w w' :=
  ⟨hg.os, hg.tape, hg.output, hg.size, fun b hb => hg.block b (by omega) (fun he => by have := h.lt b he.symm; omega)⟩

end Go.Proofs.Ytnfcedccjfnceaa
namespace Go.Proofs.Ytnfcedccjfnceaa
open Go.RowKit

/-- A list that a call made, from lo on and below hi. -/
def AV (w : World) (lo hi : Nat) (v : Value) (n : Nat) (xs : List Int) : Prop := w.ownsRow lo 3 1 v n (ints xs) ∧ (∀ g, v.ownBlock = some g → g < hi) ∧ hi ≤ w.heap.size
theorem AV.new {w : World} {lo n : Nat} {v : Value} {xs : List Int} (h : w.ownsRow lo 3 1 v n (ints xs)) : AV w lo w.heap.size v n xs := ⟨h, fun g hg => (h.lt g hg).2, Nat.le_refl _⟩
theorem AV.below {w w' : World} {lo hi n : Nat} {v : Value} {xs : List Int} (h : AV w lo hi v n xs) (hb : Below w.heap.size w w') : AV w' lo hi v n xs := ⟨own_below h.1 hb, h.2.1, Nat.le_trans h.2.2 hb.size⟩
theorem AV.rng {w w' : World} {lo hi n a b : Nat} {v : Value} {xs : List Int} (h : AV w lo hi v n xs) (hr : Rng a b w w') (hd : hi ≤ a ∨ b ≤ lo) : AV w' lo hi v n xs :=
  ⟨own_keep h.1 fun g hg hl => hr.2.2.2.2 g hl (by have := h.1.lt g hg; have := h.2.1 g hg; omega), h.2.1, Nat.le_trans h.2.2 hr.2.2.2.1⟩
theorem AV.grown {w w' : World} {lo hi n lo' hi' n' : Nat} {v v' : Value} {xs ys : List Int} (h : AV w lo hi v n xs) (h' : AV w lo' hi' v' n' ys) (hg : w.grownBy w' v'.ownBlock) (hd : hi ≤ lo' ∨ v.ownBlock = none ∨ v.ownBlock ≠ v'.ownBlock) : AV w' lo hi v n xs := by
  refine ⟨own_keep h.1 fun g hv hl => hg.block g hl fun e => ?_, h.2.1, Nat.le_trans h.2.2 hg.size⟩
  have h1 := h'.1.lt g e.symm
  have h2 := h.2.1 g hv
  rcases hd with hd | hd | hd
  · omega
  · rw [hd] at hv; cases hv
  · exact hd (hv.trans e)
theorem AV.under {w w' : World} {lo hi n k : Nat} {v : Value} {xs : List Int} (h : AV w lo hi v n xs) (hg : w.grownBy w' v.ownBlock) (hk : k ≤ lo) (hs : k ≤ w.heap.size) : Below k w w' := grown_under hg h.1 hk hs
/-- What is held from k on, in a list that lies from lo on and below hi. -/
def HV (w : World) (v : Value) (n : Nat) (k : Int) : Prop := HeldV w v n k
theorem HV.below {w w' : World} {v : Value} {n : Nat} {k : Int} (h : HV w v n k) (hb : Below w.heap.size w w') : HV w' v n k := HeldV.below h hb
theorem HV.grown {w w' : World} {v v' : Value} {n : Nat} {k : Int} (h : HV w v n k) (hg : w.grownBy w' v'.ownBlock) (hd : v.ownBlock = none ∨ v.ownBlock ≠ v'.ownBlock) : HV w' v n k := by
  rcases h with h | ⟨g, cap, rfl, hl, hc⟩
  · exact Or.inl h
  · refine Or.inr ⟨g, cap, rfl, Nat.lt_of_lt_of_le hl hg.size, fun j hj => (World.cell?_of_block (w := w) (a := ⟨g, j, none⟩) (hg.block g hl fun e => ?_)).trans (hc j hj)⟩
    rcases hd with hd | hd
    · cases hd
    · exact hd e
end Go.Proofs.Ytnfcedccjfnceaa
namespace Go.Proofs.Ytnfcedccjfnceaa
open Go.RowKit

def Car (w0 w : World) (a b : Option Addr) (xs ys : List Int) : Prop := ARow w a xs ∧ ARow w b ys ∧ Below w0.heap.size w0 w
theorem Car.step {w0 w w' : World} {a b : Option Addr} {xs ys : List Int} (h : Car w0 w a b xs ys) (hb : Below w.heap.size w w') : Car w0 w' a b xs ys :=
  ⟨h.1.below hb, h.2.1.below hb, h.2.2.trans (hb.mono h.2.2.size)⟩
theorem Car.alloc {w0 w : World} {a b : Option Addr} {xs ys : List Int} (h : Car w0 w a b xs ys) (o : Obj) : Car w0 (w.alloc o) a b xs ys := h.step (below_alloc _ _)
end Go.Proofs.Ytnfcedccjfnceaa
namespace Go.Proofs.Ytnfcedccjfnceaa
open Go.RowKit

/-- A list of spots in a block from lo on and below hi, or none. -/
def MO (w : World) (lo hi : Nat) (v : Value) (n : Nat) (L : List (Int × Int)) : Prop :=
  hi ≤ w.heap.size ∧ L.length = n ∧ ((n = 0 ∧ ∃ a c, v = .slice a 0 c) ∨ ∃ g cap, v = .slice (some ⟨g, 0, none⟩) n cap ∧ lo ≤ g ∧ g < hi ∧ FAt w g 0 L ∧ LooseF w g (n * 2))
theorem MO.below {w w' : World} {lo hi n : Nat} {v : Value} {L : List (Int × Int)} (h : MO w lo hi v n L) (hb : Below w.heap.size w w') : MO w' lo hi v n L := by
  obtain ⟨h1, h2, h3⟩ := h
  refine ⟨Nat.le_trans h1 hb.size, h2, ?_⟩
  rcases h3 with h3 | ⟨g, cap, e, a1, a2, a3, a4⟩
  · exact Or.inl h3
  · exact Or.inr ⟨g, cap, e, a1, a2, a3.below hb (by omega), a4.below hb⟩
theorem FAt.keep {w w' : World} {b off : Nat} {xs : List (Int × Int)} (h : FAt w b off xs) (hb : w'.heap[b]? = w.heap[b]?) : FAt w' b off xs :=
  fun i hi => ⟨(World.cell?_of_block (w := w) (a := ⟨b, off + i * 2, none⟩) hb).trans (h i hi).1, (World.cell?_of_block (w := w) (a := ⟨b, off + i * 2 + 1, none⟩) hb).trans (h i hi).2⟩
theorem LooseF.keep {w w' : World} {B m : Nat} (h : LooseF w B m) (hb : w'.heap[B]? = w.heap[B]?) : LooseF w' B m := fun j hj =>
  ⟨by rw [World.cell?_of_block (w := w) (a := ⟨B, j, none⟩) hb]; exact (h j hj).1, (World.frozen?_of_block (w := w) (a := ⟨B, j, none⟩) hb).trans (h j hj).2⟩
/-- Another one's block has been written. -/
theorem MO.grown {w w' : World} {lo hi n : Nat} {v : Value} {L : List (Int × Int)} {q : Option Nat} (h : MO w lo hi v n L) (hg : w.grownBy w' q) (hq : ∀ b, q = some b → hi ≤ b ∨ b < lo) : MO w' lo hi v n L := by
  obtain ⟨h1, h2, h3⟩ := h
  refine ⟨Nat.le_trans h1 hg.size, h2, ?_⟩
  rcases h3 with h3 | ⟨g, cap, e, a1, a2, a3, a4⟩
  · exact Or.inl h3
  · have hb : w'.heap[g]? = w.heap[g]? := hg.block g (by omega) (fun e => by have := hq g e.symm; omega)
    exact Or.inr ⟨g, cap, e, a1, a2, a3.keep hb, a4.keep hb⟩
theorem MO.row {w : World} {lo hi n : Nat} {v : Value} {L : List (Int × Int)} (h : MO w lo hi v n L) : ∃ a c, v = .slice a n c ∧ FRow w a L := by
  obtain ⟨h1, h2, h3⟩ := h
  rcases h3 with ⟨h0, a, c, rfl⟩ | ⟨g, cap, rfl, a1, a2, a3, _⟩
  · subst h0; exact ⟨a, c, rfl, Or.inl (List.length_eq_zero_iff.1 h2)⟩
  · exact ⟨_, cap, rfl, a3.row (by omega)⟩
theorem AV.grownQ {w w' : World} {lo hi n : Nat} {v : Value} {xs : List Int} {q : Option Nat} (h : AV w lo hi v n xs) (hg : w.grownBy w' q) (hq : ∀ b, q = some b → hi ≤ b ∨ b < lo) : AV w' lo hi v n xs :=
  ⟨own_keep h.1 fun g hv hl => hg.block g hl fun e => by have h1 := h.1.lt g hv; have h2 := h.2.1 g hv; have := hq g e.symm; omega, h.2.1, Nat.le_trans h.2.2 hg.size⟩
theorem AV.at_ {w : World} {lo hi n : Nat} {v : Value} {xs : List Int} (h : AV w lo hi v n xs) : ∀ b, v.ownBlock = some b → lo ≤ b ∧ b < hi := fun b e => ⟨(h.1.lt b e).1, h.2.1 b e⟩
theorem AV.row {w : World} {lo hi n : Nat} {v : Value} {xs : List Int} (hx : xs.length = n) (h : AV w lo hi v n xs) : ∃ a c, v = .slice a n c ∧ ARow w a xs := own_row hx h.1
/-- Where a list of spots may be written. -/
def moB (v : Value) (n : Nat) : Option Nat := if n = 0 then none else v.ownBlock
theorem MO.at_ {w : World} {lo hi n : Nat} {v : Value} {L : List (Int × Int)} (h : MO w lo hi v n L) : ∀ b, moB v n = some b → lo ≤ b ∧ b < hi := fun b e => by
  unfold moB at e
  split at e
  · cases e
  · rename_i h0
    rcases h.2.2 with ⟨h3, _⟩ | ⟨g, cap, rfl, a1, a2, _⟩
    · exact absurd h3 h0
    · simp [Value.ownBlock] at e; omega
theorem grown_under10 {w w' : World} {q : Option Nat} {k : Nat} (hg : w.grownBy w' q) (hq : ∀ b, q = some b → k ≤ b) (hs : k ≤ w.heap.size) : Below k w w' :=
  ⟨hg.os, hg.tape, hg.output, hg.size, fun b hb => hg.block b (by omega) fun e => by have := hq b e.symm; omega⟩
/-- What is held: it counts on from k. -/
def MH (w : World) (v : Value) (n : Nat) (k : Int) : Prop := (n = 0 ∧ ∃ a c, v = .slice a 0 c) ∨ ∃ g cap, v = .slice (some ⟨g, 0, none⟩) n cap ∧ g < w.heap.size ∧ ∀ j : Nat, j < n * 2 → w.cell? ⟨g, j, none⟩ = some (.int .i64 (k + (j : Int)))
theorem MH.below {w w' : World} {v : Value} {n : Nat} {k : Int} (h : MH w v n k) (hb : Below w.heap.size w w') : MH w' v n k := by
  rcases h with h | ⟨g, cap, e, hl, hc⟩
  · exact Or.inl h
  · exact Or.inr ⟨g, cap, e, Nat.lt_of_lt_of_le hl hb.size, fun j hj => (hb.cell (p := ⟨g, j, none⟩) hl).trans (hc j hj)⟩
end Go.Proofs.Ytnfcedccjfnceaa
namespace Go.Proofs.Ytnfcedccjfnceaa
open Go.RowKit

def fce (L : List (Int × Int)) : List Value := L.flatMap fun f => [.int .i64 f.1, .int .i64 f.2]
theorem fce_snoc (L : List (Int × Int)) (f : Int × Int) : fce (L ++ [f]) = fce L ++ [.int .i64 f.1, .int .i64 f.2] := by simp [fce]
theorem fce_get : ∀ (L : List (Int × Int)) (i : Nat), i < L.length → (fce L)[i * 2]? = some (.int .i64 (L.getD i (0, 0)).1) ∧ (fce L)[i * 2 + 1]? = some (.int .i64 (L.getD i (0, 0)).2)
  | [], i, h => by simp at h
  | f :: r, 0, _ => by simp [fce]
  | f :: r, i + 1, h => by
    have ih := fce_get r i (by simpa using h)
    have e : fce (f :: r) = [.int .i64 f.1, .int .i64 f.2] ++ fce r := by simp [fce]
    rw [e, List.getD_cons_succ]
    constructor
    · rw [List.getElem?_append_right (by simp; omega)]
      rw [show (i + 1) * 2 - [Value.int IntKind.i64 f.1, Value.int IntKind.i64 f.2].length = i * 2 by simp; omega]
      exact ih.1
    · rw [List.getElem?_append_right (by simp; omega)]
      rw [show (i + 1) * 2 + 1 - [Value.int IntKind.i64 f.1, Value.int IntKind.i64 f.2].length = i * 2 + 1 by simp; omega]
      exact ih.2
theorem frow_own {w : World} {base n : Nat} {v : Value} {L : List (Int × Int)} (hx : L.length = n) (h : w.ownsRow base 35 2 v n (fce L)) : ∃ a cap, v = .slice a n cap ∧ FRow w a L := by
  rcases h.2 with ⟨rfl, hn⟩ | ⟨g, cap, cur, rfl, _, hg, _⟩
  · subst hn; exact ⟨none, 0, rfl, Or.inl (List.length_eq_zero_iff.1 hx)⟩
  · refine ⟨_, _, rfl, Or.inr ⟨g, 0, rfl, (Array.getElem?_eq_some_iff.1 hg).1, fun i hi => ?_⟩⟩
    obtain ⟨e1, e2⟩ := fce_get L i hi
    rw [Nat.zero_add, h.cellAt (i * 2) (by omega), h.cellAt (i * 2 + 1) (by omega)]
    exact ⟨e1, e2⟩
theorem push_sp {w : World} {base n : Nat} {v : Value} {xs : List Value} {x y : Int} (hown : w.ownsRow base 35 2 v n xs) (hn : n ≤ 100000) (hb : base ≤ w.heap.size) :
    ∃ v' w', (∀ ty, (Builtin.append_ #[23, 23] ty #[v, .slice (some ⟨w.heap.size, 0, none⟩) 1 1]).run Try.prog (w.alloc (.cells #[.int .i64 x, .int .i64 y] 35)) = .ok v' w') ∧ w'.ownsRow base 35 2 v' (n + 1) (xs ++ [.int .i64 x, .int .i64 y]) ∧ w.grownBy w' v.ownBlock := by
  have h : (Try.prog.info? 35).map (fun i => (i.zero, i.size, i.bytes)) = some (some (.agg #[.int .i64 0, .int .i64 0]), 2, 16) := by kernel_rfl
  obtain ⟨i0, hi, hzz⟩ := Option.map_eq_some_iff.1 h
  simp only [Prod.mk.injEq] at hzz
  obtain ⟨hz0, hz1, hz2⟩ := hzz
  obtain ⟨g, cap, w', h1, h2, h3, _, _⟩ := run_append_lies (P := Try.prog) (w := w.alloc (.cells #[.int .i64 x, .int .i64 y] 35)) 23 0 base 35 i0 _ 2 16 Try.underlying23 hi hz0 hz1 hz2 rfl (by decide) v n xs (hown.alloc _) ⟨w.heap.size, 0, none⟩ 1 1 [.int .i64 x, .int .i64 y] rfl (fun j u hj => by
      have hj2 : j = 0 ∨ j = 1 := by
        have := (List.getElem?_eq_some_iff.1 hj).1
        simp at this; omega
      rw [add_plain']
      rcases hj2 with rfl | rfl
      · simp at hj; subst hj; simp
      · simp at hj; subst hj; simp) (fun u hu => by simp at hu; rcases hu with rfl | rfl <;> rfl) (by omega) (by unfold maxLen; omega) (by omega) (by simp; omega) _ rfl
  refine ⟨_, w', fun _ => h1, h2, ?_⟩
  have hg := World.grownBy_alloc w (.cells #[.int .i64 x, .int .i64 y] 35) v.ownBlock
  exact ⟨h3.os.trans hg.os, h3.tape.trans hg.tape, h3.output.trans hg.output, Nat.le_trans hg.size h3.size, fun b hb hne => (h3.block b (Nat.lt_of_lt_of_le hb hg.size) hne).trans (hg.block b hb hne)⟩
set_option maxRecDepth 100000 in
set_option maxHeartbeats 1000000 in
theorem spot_any {c len cap N : Nat} {a : Option Addr} {w : World} (hc : Cur w c a len cap N) (hN : N ≤ 800000000) :
    Calls Try.prog 43 #[.pointer (some ⟨c, 0, none⟩)] w fun e w' => ∃ n d : Int, e = .returned (.agg #[.int .i64 n, .int .i64 d]) ∧ Cur w' c a len cap (N + 6) ∧ Kp c w w' := by
  have hcs : c < w.heap.size := hc.1
  have hbb : ∀ b off, a = some ⟨b, off, none⟩ → 0 < len → b ≠ w.heap.size := fun b off e hl => by have := (hc.2.2.2.2.2.2.2 b off e hl).2; omega
  have HB := hide hbb
  have HC := hide (hc.below (below_alloc w (.cells #[.int .i64 0, .int .i64 0] 35)))
  clear hc hbb
  go_enter Try.func43, Try.ntmps43
  go_wp2_with fail
  refine (one_any 40 (by omega) HC.out (by omega)).mono ?_
  rintro e w1 ⟨r, rfl, hc1, hk1⟩
  have HC1 := hide hc1
  have HK1 := hide hk1
  obtain ⟨x0, x1, x2, x3⟩ := hk1.var w.heap.size (by simp) (by omega) (.int .i64 0) (.int .i64 0) (by simp) (by simp) (by simp [go_sem]) (by simp [go_sem])
  have hs1 : w.heap.size < w1.heap.size := by have := hk1.size; simp at this; omega
  clear hc1 hk1
  cases r
  · go_wp2_with fail
    refine (pick_any 4 (by omega) HC1.out (by omega)).mono ?_
    rintro e w2 ⟨z, rfl, z0, z1, hc2, hk2⟩
    have HC2 := hide hc2
    have HK2 := hide hk2
    obtain ⟨y0, y1, y2, y3⟩ := hk2.var w.heap.size hs1 (by omega) _ _ x0 x1 x2 x3
    have hs2 : w.heap.size < w2.heap.size := by have := hk2.size; omega
    clear hc2 hk2
    go_wp2_with fail
    refine (pick_any 21 (by omega) HC2.out (by omega)).mono ?_
    rintro e w3 ⟨y, rfl, q0, q1, hc3, hk3⟩
    have HC3 := hide hc3
    have HK3 := hide hk3
    obtain ⟨u0, u1, u2, u3⟩ := hk3.var w.heap.size hs2 (by omega) _ _ y0 y1 y2 y3
    have hs3 : w.heap.size < w3.heap.size := by have := hk3.size; omega
    clear hc3 hk3
    go_wp2_with fail
    refine bodyPost_ret (v := .agg #[.int .i64 z, .int .i64 y]) (by simp [results, Try.results43, go_sem, *]) rfl ⟨_, _, rfl, ?_, ?_⟩
    · exact ((HC3.out.le (by omega)).set (by omega) HB.out).set (by omega) HB.out
    · exact ((((((Kp.refl c w).alloc _).trans HK1.out).trans HK2.out).trans HK3.out)).setNew (Nat.le_refl _) _ _ |>.setNew (Nat.le_refl _) _ _
  · go_wp2_with fail
    refine (amongB_any (lo := -1) (hi := 10) (HC1.out.below (below_alloc w1 _)) (by omega) (by omega) (by omega) (by simp) (by omega) (three_cells w1 _ (by omega) (by omega) (by omega))).mono ?_
    rintro e w2 ⟨z, rfl, z0, z1, hc2, hk2⟩
    have hk2' : Kp c w1 w2 := ((Kp.refl c w1).alloc _).trans hk2
    have HC2 := hide hc2
    have HK2 := hide hk2'
    obtain ⟨y0, y1, y2, y3⟩ := hk2'.var w.heap.size hs1 (by omega) _ _ x0 x1 x2 x3
    have hs2 : w.heap.size < w2.heap.size := by have := hk2'.size; omega
    clear hc2 hk2 hk2'
    go_wp2_with fail
    refine (amongB_any (lo := 0) (hi := 21) (HC2.out.below (below_alloc w2 _)) (by omega) (by omega) (by omega) (by simp) (by omega) (three_cells w2 _ (by omega) (by omega) (by omega))).mono ?_
    rintro e w3 ⟨y, rfl, z2, z3, hc3, hk3⟩
    have hk3' : Kp c w2 w3 := ((Kp.refl c w2).alloc _).trans hk3
    have HC3 := hide hc3
    have HK3 := hide hk3'
    obtain ⟨u0, u1, u2, u3⟩ := hk3'.var w.heap.size hs2 (by omega) _ _ y0 y1 y2 y3
    have hs3 : w.heap.size < w3.heap.size := by have := hk3'.size; omega
    clear hc3 hk3 hk3'
    go_wp2_with fail
    refine bodyPost_ret (v := .agg #[.int .i64 z, .int .i64 y]) (by simp [results, Try.results43, go_sem, *]) rfl ⟨_, _, rfl, ?_, ?_⟩
    · exact ((HC3.out.le (by omega)).set (by omega) HB.out).set (by omega) HB.out
    · exact ((((((Kp.refl c w).alloc _).trans HK1.out).trans HK2.out).trans HK3.out)).setNew (Nat.le_refl _) _ _ |>.setNew (Nat.le_refl _) _ _
def StPost (w : World) (c : Nat) (a : Option Addr) (len cap M : Nat) (e : Ending) (w' : World) : Prop :=
  ∃ v L, e = .returned v ∧ L.length ≤ 8 ∧ w'.ownsRow w.heap.size 35 2 v L.length (fce L) ∧ Cur w' c a len cap M ∧ Kp c w w'
set_option maxRecDepth 100000 in
set_option maxHeartbeats 2000000 in
theorem stops_any {c len cap N : Nat} {a : Option Addr} {w : World} (hc : Cur w c a len cap N) (hN : N ≤ 700000000) :
    Calls Try.prog 25 #[.pointer (some ⟨c, 0, none⟩)] w (StPost w c a len cap (N + 80)) := by
  have hcw := hc.1
  have HOLD := hide hc.old
  have HC := hide hc
  clear hc
  go_enter Try.func25, Try.ntmps25
  go_wp2_with fail
  refine (pick_any 5 (by omega) HC.out (by omega)).mono ?_
  rintro e w1 ⟨r1, rfl, p0, p1, hc1, hk1⟩
  have HC1 := hide hc1
  have HK1 := hide hk1
  clear hc1 hk1
  go_upto_if 9 with (go_at_call 48; refine (one_any 20 (by omega) HC1.out (by omega)).mono ?_; rintro e w2 ⟨r2, rfl, hc2, hk2⟩; have HC2 := hide hc2; have HK2 := hide (HK1.out.trans hk2); clear hc2 hk2)
  go_cut [4] (fun s6 wc => ∃ k : Nat, s6 = .int .i64 k ∧ k ≤ 8 ∧ Hid (Cur wc c a len cap (N + 6)) ∧ Hid (Kp c w wc))
  case first =>
    cases r2
    · go_wp2_with fail
      go_meet
      case rel => exact ⟨(1 + r1).toNat, by congr 1; omega, by omega, hide (HC2.out.le (by omega)), HK2⟩
    · go_wp2_with fail
      refine (amongB_any (lo := 0) (hi := 8) (HC2.out.below (below_alloc w2 _)) (by omega) (by omega) (by omega) (by simp) (by have := HC2.out.1; omega) (three_cells w2 _ (by omega) (by omega) (by omega))).mono ?_
      rintro e w3 ⟨z, rfl, z0, z1, hc3, hk3⟩
      have HK3 := hide ((HK2.out.alloc _).trans hk3)
      have HC3 := hide hc3
      clear hc3 hk3
      go_wp2_with fail
      go_meet
      case rel => exact ⟨z.toNat, by congr 1; omega, by omega, hide (HC3.out.le (by omega)), HK3⟩
  case rest =>
    obtain ⟨k0, rfl, hk0, HC4, HK4⟩ := hcut
    go_wp2_with fail
    go_loopw [3, 4] (fun v s wr => ∃ (k : Nat) (L : List (Int × Int)), s = .int .i64 k ∧ L.length + k ≤ 8 ∧ wr.ownsRow w.heap.size 35 2 v L.length (fce L) ∧ Hid (Cur wr c a len cap (N + 6 + 6 * L.length)) ∧ Hid (Kp c w wr)) (fun _ s _ => (intOf s).toNat)
    case atStart => exact ⟨k0, [], rfl, by simp; omega, World.ownsRow_nil _ _ _ _, hide (HC4.out.le (by simp)), HK4⟩
    case round =>
      obtain ⟨k, L, rfl, hlen, hown, HCR, HKR⟩ := hrel
      have HO := hide hown
      clear hown
      by_cases hk : 0 < k
      · have k1 : (0 : Int) < (k : Int) := by omega
        go_wp2_with fail
        refine (spot_any HCR.out (by omega)).mono ?_
        rintro e w5 ⟨r3, r5, rfl, hc5, hk5⟩
        have own5 := own_kp HO.out hk5 hcw
        have HC5 := hide hc5
        have HK5 := hide (HKR.out.trans hk5)
        have hs5 := HK5.out.size
        obtain ⟨v6, w6, hr6, own6, hg6⟩ := push_sp (x := r3) (y := r5) own5 (by omega) hs5
        rw [← fce_snoc L (r3, r5)] at own6
        have HO6 := hide own6
        have HK6 := hide (kp_push HK5.out own5 hg6)
        have HC6 := hide (cur_push HC5.out hcw HOLD.out hs5 own5 hg6)
        clear hc5 hk5 own5 own6 hg6 HC5 HK5 HO HCR HKR
        go_wp2_with (first | (at_builtin; refine Lib.wpList_append_run _ rfl _ _ _ _ rfl _ _ rfl rfl _ _ (hr6 _) ?_))
        go_roundw
        case rel => exact ⟨k - 1, L ++ [(r3, r5)], by congr 1; omega, by simp; omega, by rw [List.length_append]; exact HO6.out, hide (HC6.out.le (by simp; omega)), HK6⟩
        case measure => simp only [intOf]; omega
      · have k1 : ¬ (0 : Int) < (k : Int) := by omega
        go_wp2_with fail
        go_ret
        exact ⟨_, L, rfl, by omega, HO.out, HCR.out.le (by omega), HKR.out⟩
theorem cur_below11 {w w1 : World} {o : Obj} (hk : Kp w.heap.size (w.alloc o) w1) : Below w.heap.size w w1 :=
  ((Below.refl w.heap.size w).alloc (Nat.le_refl _) o).trans (hk.below (Nat.le_refl _) (by simp))
/-- Stops, drawn. -/
def DSPost (w : World) (e : Ending) (w' : World) : Prop :=
  ∃ a c L, ∃ n : Nat, e = .returned (.slice a n c) ∧ List.length L = n ∧ n ≤ 8 ∧ FRow w' a L ∧ Below w.heap.size w w'
set_option maxRecDepth 100000 in
set_option maxHeartbeats 1000000 in
theorem drawGS_any {a : Option Addr} {len cap : Nat} {w : World} (hs : Hid (Src w a len)) :
    Calls Try.prog 46 #[.slice a len cap] w (DSPost w) := by
  have HC := hide (cur_new (cap := cap) hs.out)
  go_enter Try.func46, Try.ntmps46
  go_wp2_with fail
  refine (stops_any HC.out (by omega)).mono ?_
  rintro e w1 ⟨v, L, rfl, hl, own1, hc1, hk1⟩
  obtain ⟨a1, c1, rfl, r1⟩ := frow_own rfl own1
  have HB := hide (cur_below11 hk1)
  have HR := hide r1
  clear own1 hc1 hk1 r1
  go_wp2_with fail
  go_ret
  exact ⟨a1, c1, L, _, rfl, rfl, hl, HR.out, HB.out⟩
set_option maxRecDepth 100000 in
set_option maxHeartbeats 1000000 in
theorem drawTO_any {a : Option Addr} {len cap : Nat} {w : World} (hs : Hid (Src w a len)) :
    Calls Try.prog 22 #[.slice a len cap] w (DSPost w) := by
  go_enter Try.func22, Try.ntmps22
  go_wp2_with fail
  refine (drawGS_any hs).mono ?_
  rintro e w1 ⟨a1, c1, L, n, rfl, H⟩
  have H := hide H
  go_wp2_with fail
  go_ret
  exact ⟨a1, c1, L, n, rfl, H.out⟩
end Go.Proofs.Ytnfcedccjfnceaa
namespace Go.Proofs.Ytnfcedccjfnceaa
open Go.RowKit

theorem frow_keep {w w' : World} {g : Nat} {L : List (Int × Int)} (h : FRow w (some ⟨g, 0, none⟩) L) (hs : w.heap.size ≤ w'.heap.size) (hb : g < w.heap.size → w'.heap[g]? = w.heap[g]?) : FRow w' (some ⟨g, 0, none⟩) L := by
  rcases h with h | ⟨b, o, e, hl, hc⟩
  · exact Or.inl h
  · cases e
    exact Or.inr ⟨g, 0, rfl, Nat.lt_of_lt_of_le hl hs, FAt.keep hc (hb hl)⟩
def DTPost (w : World) (e : Ending) (w' : World) : Prop :=
  ∃ a c L a2 c2 xs, ∃ n : Nat, e = .returned (.tuple #[.slice a n c, .slice a2 n c2]) ∧ List.length L = n ∧ List.length xs = n ∧ n ≤ 8 ∧ FRow w' a L ∧ ARow w' a2 xs ∧ n ≤ c2 ∧ Below w.heap.size w w'
set_option maxRecDepth 100000 in
set_option maxHeartbeats 1000000 in
theorem drawTC_any {a : Option Addr} {len cap : Nat} {w : World} (hs : Hid (Src w a len)) :
    Calls Try.prog 5 #[.slice a len cap] w (DTPost w) := by
  have HC := hide (cur_new (cap := cap) hs.out)
  go_enter Try.func5, Try.ntmps5
  go_wp2_with fail
  refine (stops_any HC.out (by omega)).mono ?_
  rintro e w1 ⟨v, L, rfl, hl, own1, hc1, hk1⟩
  have HO1 := hide own1
  obtain ⟨a1, c1, rfl, _⟩ := frow_own rfl own1
  have HC1 := hide hc1
  have HK1 := hide hk1
  generalize hn : L.length = n at *
  have HN := hide hn
  clear own1 hc1 hk1 HC hn
  go_wp2_with fail
  refine (order7_any HC1.out (by omega) (by omega)).mono ?_
  rintro e w2 ⟨v2, xs, rfl, hx, own2, hc2, hk2⟩
  obtain ⟨a2, c2, rfl, hcap, r2⟩ := own_cap hx own2
  have own3 := own_kp HO1.out hk2 (by simp)
  obtain ⟨a3, c3, e3, r3⟩ := frow_own HN.out own3
  cases e3
  have HB := hide (cur_below11 (HK1.out.trans hk2))
  have HR := hide r2
  have HF := hide r3
  clear own2 own3 hc2 hk2 r2 r3 HO1 HK1 HC1
  go_wp2_with fail
  refine bodyPost_ret (v := .tuple #[.slice a1 n c1, .slice a2 n c2]) (by simp [results, Try.results5, go_sem]) rfl ?_
  exact ⟨a1, c1, L, a2, c2, xs, n, rfl, HN.out, hx, hl, HF.out, HR.out, hcap, HB.out⟩
end Go.Proofs.Ytnfcedccjfnceaa
namespace Go.Proofs.Ytnfcedccjfnceaa
open Go.RowKit

set_option maxRecDepth 100000 in
set_option maxHeartbeats 400000 in
theorem si10_zero (a b : Option Addr) (c d : Nat) (w : World) :
    Calls Try.prog 14 #[.slice a 0 c, .slice b 0 d] w fun e w' => e = .returned (.bool true) ∧ w' = w := by
  go_enter Try.func14, Try.ntmps14
  go_wp2_with fail
  go_loop [13] (fun s => s = .int .i64 0) (fun s => 0)
  case atStart => rfl
  case round =>
    subst hrel
    go_wp2_with fail
    go_ret
    exact ⟨rfl, rfl⟩
theorem eq_upto {xs ys : List Int} {n : Nat} (hx : xs.length = n) (hy : ys.length = n) (h : ∀ j, j < n → xs.getD j 0 = ys.getD j 0) : xs = ys := by
  refine List.ext_getElem (by omega) fun i hi hi' => ?_
  have := h i (by omega)
  simp only [List.getD_eq_getElem?_getD, List.getElem?_eq_getElem hi, List.getElem?_eq_getElem hi', Option.getD_some] at this
  exact this
set_option maxRecDepth 100000 in
set_option maxHeartbeats 1000000 in
theorem si10_some (xs ys : List Int) (b o c b' o' c' n : Nat) (w : World) (hx : Hid (xs.length = n)) (hy : Hid (ys.length = n)) (hl : n ≤ 4000000000000) (h1 : ∀ i, i < xs.length → w.cell? ⟨b, o + i, none⟩ = some (.int .i64 (xs.getD i 0))) (h2 : ∀ i, i < ys.length → w.cell? ⟨b', o' + i, none⟩ = some (.int .i64 (ys.getD i 0))) :
    Calls Try.prog 14 #[.slice (some ⟨b, o, none⟩) n c, .slice (some ⟨b', o', none⟩) n c'] w fun e w' => e = .returned (.bool (decide (xs = ys))) ∧ ∃ m, w' = w.drewN m := by
  have hne : ((n : Int) != (n : Int)) = false := by simp
  rw [hx.out] at h1
  rw [hy.out] at h2
  have H1 := hide h1
  have H2 := hide h2
  clear h1 h2
  go_enter Try.func14, Try.ntmps14
  go_wp2_with fail
  go_loopw [13] (fun s wr => ∃ k : Nat, s = .int .i64 k ∧ k ≤ n ∧ Hid (∀ j, j < k → xs.getD j 0 = ys.getD j 0) ∧ ∃ m, wr = w.drewN m) (fun s _ => n - (intOf s).toNat)
  case atStart => exact ⟨0, rfl, Nat.zero_le _, hide (fun j h => by omega), 0, rfl⟩
  case round =>
    obtain ⟨k, rfl, hk, HE, m, rfl⟩ := hrel
    by_cases hlt : k < n
    · have r1 := H1.out k hlt
      have r2 := H2.out k hlt
      have i0 : (0 : Int) ≤ (k : Int) := by omega
      have i1 : (k : Int) < (n : Int) := by omega
      by_cases he : xs.getD k 0 = ys.getD k 0
      · have HE2 : Hid (∀ j, j < k + 1 → xs.getD j 0 = ys.getD j 0) := hide (fun j hj => by
          by_cases e : j = k
          · subst e; exact he
          · exact HE.out j (by omega))
        rw [← he] at r2
        generalize xs.getD k 0 = x at *
        have hxx : (x != x) = false := by simp
        clear he HE
        go_wp2_with fail
        go_region
        go_wp2_with fail
        exact ⟨⟨k + 1, by go_num, by omega, HE2, m + 1, rfl⟩, by simp only [intOf]; omega⟩
      · have HD : Hid (false = decide (xs = ys)) := hide (by
          symm; rw [decide_eq_false_iff_not]
          exact fun e => he (by rw [e]))
        have hxx : (xs.getD k 0 != ys.getD k 0) = true := by simpa using he
        generalize xs.getD k 0 = x at *
        generalize ys.getD k 0 = y at *
        clear he HE
        go_wp2_with fail
        go_region
        go_wp2_with fail
        go_ret
        exact ⟨ret_bool HD.out, m + 1, rfl⟩
    · have HD : Hid (true = decide (xs = ys)) := hide (by
        symm; rw [decide_eq_true_eq]
        exact eq_upto hx.out hy.out (fun j hj => HE.out j (by omega)))
      go_wp2_with fail
      go_ret
      exact ⟨ret_bool HD.out, m, rfl⟩
theorem si10 {a b : Option Addr} {c d n : Nat} {xs ys : List Int} {w : World} (hx : Hid (xs.length = n)) (hy : Hid (ys.length = n)) (hl : n ≤ 1048576) (h1 : ARow w a xs) (h2 : ARow w b ys) :
    Calls Try.prog 14 #[.slice a n c, .slice b n d] w fun e w' => e = .returned (.bool (decide (xs = ys))) ∧ Below w.heap.size w w' := by
  by_cases h0 : n = 0
  · subst h0
    have e1 := List.length_eq_zero_iff.1 hx.out
    have e2 := List.length_eq_zero_iff.1 hy.out
    subst e1 e2
    exact (si10_zero a b c d w).mono fun e w' ⟨h, hw⟩ => ⟨h, hw ▸ Below.refl _ _⟩
  · have lx := hx.out
    have ly := hy.out
    rcases h1 with rfl | ⟨b1, o1, rfl, hb1, c1⟩
    · simp at lx; omega
    · rcases h2 with rfl | ⟨b2, o2, rfl, hb2, c2⟩
      · simp at ly; omega
      · exact (si10_some xs ys b1 o1 c b2 o2 d n w hx hy (by omega) c1 c2).mono fun e w' ⟨h, m, hw⟩ => ⟨h, hw ▸ below_drewN (Below.refl _ _) m⟩
/-- Bytes as numbers. -/
def YRow (w : World) (a : Option Addr) (zs : List Int) : Prop := zs = [] ∨ ∃ b off, a = some ⟨b, off, none⟩ ∧ b < w.heap.size ∧ ∀ i, i < zs.length → w.cell? ⟨b, off + i, none⟩ = some (.int .u8 (zs.getD i 0)) ∧ 0 ≤ zs.getD i 0 ∧ zs.getD i 0 ≤ 255
theorem YRow.below {w w' : World} {a : Option Addr} {zs : List Int} (h : YRow w a zs) (hb : Below w.heap.size w w') : YRow w' a zs := by
  rcases h with h | ⟨b, off, ha, hl, hc⟩
  · exact Or.inl h
  · exact Or.inr ⟨b, off, ha, Nat.lt_of_lt_of_le hl hb.size, fun i hi => ⟨(hb.cell (p := ⟨b, off + i, none⟩) hl).trans (hc i hi).1, (hc i hi).2⟩⟩
def numY (zs : List Int) : Nat → Int
  | 0 => 0
  | k + 1 => (31 * numY zs k + zs.getD k 0) % 1000003
theorem numY_bd {zs : List Int} {n : Nat} : 0 ≤ numY zs n ∧ numY zs n < 1000003 := by
  cases n with
  | zero => exact ⟨by unfold numY; omega, by unfold numY; omega⟩
  | succ k => unfold numY; omega
theorem src_rowY {w : World} {a : Option Addr} {len : Nat} (h : Src w a len) : ∃ zs : List Int, zs.length = len ∧ YRow w a zs := by
  obtain ⟨hb, hl⟩ := h
  rcases hb with h0 | ⟨b, off, rfl, hc⟩
  · subst h0; exact ⟨[], rfl, Or.inl rfl⟩
  · by_cases h0 : len = 0
    · subst h0; exact ⟨[], rfl, Or.inl rfl⟩
    · refine ⟨(List.range len).map fun i => if hi : i < len then (hc i hi).choose else 0, by simp, Or.inr ⟨b, off, rfl, hl b off rfl (by omega), ?_⟩⟩
      intro i hi
      have hi' : i < len := by simpa using hi
      have e : ((List.range len).map fun i => if hi : i < len then (hc i hi).choose else 0).getD i 0 = (hc i hi').choose := by
        simp [List.getD_eq_getElem?_getD, hi']
      rw [e]
      exact (hc i hi').choose_spec
set_option maxRecDepth 100000 in
set_option maxHeartbeats 1000000 in
theorem num_y {a : Option Addr} {c n : Nat} {zs : List Int} {w : World} (hn : zs.length = n) (h : YRow w a zs) (hl : n ≤ 1048576) :
    Calls Try.prog 24 #[.slice a n c] w fun e w' => e = .returned (.int .i64 (numY zs n)) ∧ w' = w := by
  have H := hide h
  have HN := hide hn
  clear h hn
  go_enter Try.func24, Try.ntmps24
  go_wp2_with fail
  go_loop [3, 5, 8] (fun s3 _ s => ∃ (k : Nat) (x : Int), s3 = .int .i64 x ∧ s = .int .i64 k ∧ k ≤ n ∧ Hid (x = numY zs k) ∧ 0 ≤ x ∧ x ≤ 1000003) (fun _ _ s => n - (intOf s).toNat)
  case atStart => exact ⟨0, 0, rfl, rfl, Nat.zero_le _, hide rfl, by omega, by omega⟩
  case round =>
    obtain ⟨k, x, rfl, rfl, hk, HX, hx0, hx1⟩ := hrel
    by_cases hlt : k < n
    · rcases H.out with h0 | ⟨b, off, rfl, hb, hc⟩
      · have := HN.out; rw [h0] at this; simp at this; omega
      · obtain ⟨r1, y0, y1⟩ := hc k (by rw [HN.out]; exact hlt)
        have i0 : (0 : Int) ≤ (k : Int) := by omega
        have i1 : (k : Int) < (n : Int) := by omega
        have HS : Hid (numY zs (k + 1) = (31 * x + zs.getD k 0) % 1000003) := hide (by rw [HX.out]; rfl)
        generalize zs.getD k 0 = y at *
        have e1 : (31 * x + y).tmod 1000003 = (31 * x + y) % 1000003 := Int.tmod_eq_emod_of_nonneg (by omega)
        have e2 : IntKind.i64.wrap y = y := by rw [IntKind.wrap_i64]; omega
        have m0 := Int.emod_nonneg (31 * x + y) (show (1000003 : Int) ≠ 0 by omega)
        have m1 := Int.emod_lt_of_pos (31 * x + y) (show (0 : Int) < 1000003 by omega)
        clear hc
        go_wp2_with fail
        go_round
        case rel => exact ⟨k + 1, (31 * x + y) % 1000003, by go_num, by go_num, by omega, hide HS.out.symm, m0, by omega⟩
        case measure => simp only [intOf]; omega
    · have hke : k = n := by omega
      subst hke
      go_wp2_with fail
      go_ret
      exact ⟨ret_int HX.out, rfl⟩
/-- Some number: the same at each call. -/
theorem num_srcY {a : Option Addr} {len : Nat} {w : World} (h : Src w a len) (hl : len ≤ 1048576) : ∃ N : Int, 0 ≤ N ∧ N < 1000003 ∧ ∀ (W : World) (cap : Nat), Below w.heap.size w W → Calls Try.prog 24 #[.slice a len cap] W fun e w' => e = .returned (.int .i64 N) ∧ w' = W := by
  obtain ⟨zs, hz, hr⟩ := src_rowY h
  exact ⟨_, numY_bd.1, numY_bd.2, fun W cap hb => num_y hz (hr.below hb) hl⟩
theorem si_same {a b : Option Addr} {c d n : Nat} {xs : List Int} {w : World} (hx : Hid (xs.length = n)) (hl : n ≤ 1048576) (h1 : ARow w a xs) (h2 : ARow w b xs) :
    Calls Try.prog 14 #[.slice a n c, .slice b n d] w fun e w' => e = .returned (.bool true) ∧ Below w.heap.size w w' := by
  refine (si10 hx hx hl h1 h2).mono ?_
  rintro e w' ⟨rfl, hb⟩
  exact ⟨by simp, hb⟩
end Go.Proofs.Ytnfcedccjfnceaa
namespace Go.Proofs.Ytnfcedccjfnceaa
open Go.RowKit

def bls (bs : List Bool) : List Value := bs.map fun b => .bool b
theorem bls_len (bs : List Bool) : (bls bs).length = bs.length := by simp [bls]
theorem bls_get (bs : List Bool) (j : Nat) (h : j < bs.length) (d : Bool) : (bls bs)[j]? = some (.bool (bs.getD j d)) := by simp [bls, h]
theorem bls_set (bs : List Bool) (j : Nat) (x : Bool) : (bls bs).set j (.bool x) = bls (bs.set j x) := by simp [bls, List.map_set]
theorem makeB_run (n : Nat) (hn : n ≤ 1048576) (w : World) : (Instr.makeSlice 64 (.int .i64 (n : Int)) (.int .i64 (n : Int))).run Try.prog w = .ok (.slice (some ⟨w.heap.size, 0, none⟩) n n) (w.alloc (.cells (madeCells #[.bool false] n) 4)) := by
  have h : (Try.prog.info? 4).map (fun i => (i.zero, i.size, i.bytes)) = some (some (.bool false), 1, 1) := by kernel_rfl
  obtain ⟨i, hi, hzz⟩ := Option.map_eq_some_iff.1 h
  simp only [Prod.mk.injEq] at hzz
  obtain ⟨hz, hs, hb⟩ := hzz
  have := run_make (P := Try.prog) w 64 4 i _ Try.underlying64 hi hz .i64 .i64 (n : Int) (n : Int) (by omega) (by omega) (by rw [hb]; omega) (by omega)
  simpa [hs, Value.cells] using this
theorem madeB_own (w : World) (n : Nat) (hn : n ≤ 1048576) : (w.alloc (.cells (madeCells #[.bool false] n) 4)).ownsRow w.heap.size 4 1 (.slice (some ⟨w.heap.size, 0, none⟩) n n) n (bls (List.replicate n false)) := by
  have h := World.ownsRow_lit (base := w.heap.size) (e := 4) (size := 1) w (madeCells #[.bool false] n) n (Nat.le_refl _) (by unfold maxLen; omega) (by simp [madeCells])
  rw [toList_madeCells_one] at h
  simpa [bls] using h


set_option maxRecDepth 100000 in
set_option maxHeartbeats 1000000 in
theorem eo_ne {a : Option Addr} {n m c : Nat} {w : World} (h : m ≠ n) :
    Calls Try.prog 27 #[.slice a m c, .int .i64 n] w fun e w' => e = .returned (.bool false) ∧ Below w.heap.size w w' := by
  have h1 : ((m : Int) != (n : Int)) = true := by simp; omega
  go_enter Try.func27, Try.ntmps27
  go_wp2_with fail
  go_ret
  exact ⟨rfl, Below.refl _ _⟩
set_option maxRecDepth 100000 in
set_option maxHeartbeats 2000000 in
theorem eo_same {a : Option Addr} {n c : Nat} {xs : List Int} {w : World} (hx : xs.length = n) (hn : n ≤ 10) (ha : ARow w a xs) :
    Calls Try.prog 27 #[.slice a n c, .int .i64 n] w fun e w' => e = .returned (.bool (Od.ordB xs n)) ∧ Below w.heap.size w w' := by
  have h1 : ((n : Int) != (n : Int)) = false := by simp
  have hmk := makeB_run n (by omega)
  have HA := hide ha
  have HX := hide hx
  have HO := hide (madeB_own w n (by omega))
  clear ha hx
  go_enter Try.func27, Try.ntmps27
  go_wp2_with fail
  go_loopw [4, 7, 16] (fun s4 _ s wr => ∃ (k : Nat), s4 = .bool false ∧ s = .int .i64 k ∧ k ≤ n ∧ Hid (∀ i, i < k → Od.okAt xs n i = true) ∧ wr.ownsRow w.heap.size 4 1 (.slice (some ⟨w.heap.size, 0, none⟩) n n) n (bls (Od.seen xs k n)) ∧ Below w.heap.size w wr) (fun _ _ s _ => n - (intOf s).toNat)
  case atStart => exact ⟨0, rfl, rfl, Nat.zero_le _, hide fun i hi => absurd hi (Nat.not_lt_zero _), by rw [Od.seen_zero]; exact HO.out, (Below.refl _ _).alloc (Nat.le_refl _) _⟩
  case round =>
    obtain ⟨k, rfl, rfl, hk, HK, hown, hB⟩ := hrel
    clear hmk HO
    by_cases hlt : k < n
    · obtain ⟨b, off, rfl, r1⟩ := (HA.out.below hB).at (i := k) (by rw [HX.out]; exact hlt)
      have i0 : (0 : Int) ≤ (k : Int) := by omega
      have i1 : (k : Int) < (n : Int) := by omega
      generalize hx : xs.getD k 0 = x at r1
      cases hb : Pf.inB x 0 ((n : Int) - 1)
      · have HN := hide (Od.ordB_not hlt (show Od.okAt xs n k = false by simp only [Od.okAt]; rw [hx, hb]; rfl))
        clear hx hown
        go_wp2_with fail
        refine (between_eq hb).mono ?_
        rintro e w1 ⟨rfl, rfl⟩
        go_wp2_with fail
        go_ret
        exact ⟨ret_bool HN.out.symm, hB⟩
      · obtain ⟨j, rfl⟩ : ∃ j : Nat, x = (j : Int) := ⟨x.toNat, by have := Pf.inB_yes hb; omega⟩
        have hj : j < n := by have := Pf.inB_yes hb; omega
        have j0 : (0 : Int) ≤ (j : Int) := by omega
        have j1 : (j : Int) < (n : Int) := by omega
        have c0 : wr.cell? ⟨w.heap.size, j, none⟩ = some (.bool ((xs.take k).contains (j : Int))) := by
          rw [hown.cellAt j (by rw [Nat.mul_one]; exact hj), bls_get _ j (by rw [Od.seen_len]; exact hj) false, Od.seen_get xs k n j hj]
        have HS := hide (fun (h : (xs.take k).contains (j : Int) = true) => Od.ordB_not hlt (show Od.okAt xs n k = false by simp only [Od.okAt]; rw [hx, h]; simp))
        have HT := hide (fun (h : (xs.take k).contains (j : Int) = false) => show Od.okAt xs n k = true by simp only [Od.okAt]; rw [hx, h, hb]; rfl)
        have f0 := hown.frozenAt j
        obtain ⟨st1, st2⟩ := hown.stored j (.bool true)
        rw [bls_set, Od.seen_step xs k n j (by rw [HX.out]; exact hlt) hx] at st1
        have HST := hide st1
        generalize (xs.take k).contains (j : Int) = sb at *
        clear hx st1 hown
        cases sb
        · go_wp2_with fail
          refine (between_eq hb).mono ?_
          rintro e w1 ⟨rfl, rfl⟩
          go_wp2_with fail
          go_roundw
          case rel =>
            refine ⟨k + 1, rfl, by go_num, by omega, hide fun i hi => ?_, HST.out, hB.setCell (Nat.le_refl _) _⟩
            by_cases e : i = k
            · subst e; exact HT.out trivial
            · exact HK.out i (by omega)
          case measure => simp only [intOf]; omega
        · go_wp2_with fail
          refine (between_eq hb).mono ?_
          rintro e w1 ⟨rfl, rfl⟩
          go_wp2_with fail
          go_ret
          exact ⟨ret_bool (HS.out trivial).symm, hB⟩
    · have hke : k = n := by omega
      subst hke
      have HY := hide (Od.ordB_of HX.out HK.out)
      go_wp2_with fail
      go_ret
      exact ⟨ret_bool HY.out.symm, hB⟩
theorem eo_any {a : Option Addr} {n m c : Nat} {xs : List Int} {w : World} (hx : xs.length = m) (hn : n ≤ 10) (ha : ARow w a xs) :
    Calls Try.prog 27 #[.slice a m c, .int .i64 n] w fun e w' => e = .returned (.bool (Od.ordB xs n)) ∧ Below w.heap.size w w' := by
  by_cases h : m = n
  · subst h; exact eo_same hx hn ha
  · rw [Od.ordB_ne (by omega)]; exact eo_ne h
theorem eo_eq {a : Option Addr} {n m c : Nat} {xs : List Int} {w : World} {r : Bool} (hx : Hid (xs.length = m)) (hn : n ≤ 10) (ha : Hid (ARow w a xs)) (h : Hid (Od.ordB xs n = r)) :
    Calls Try.prog 27 #[.slice a m c, .int .i64 n] w fun e w' => e = .returned (.bool r) ∧ Below w.heap.size w w' := h.out ▸ eo_any hx.out hn ha.out
end Go.Proofs.Ytnfcedccjfnceaa
namespace Go.Proofs.Ytnfcedccjfnceaa
open Go.RowKit


theorem has_step {xs : List Int} {k : Nat} {x : Int} (hk : k < xs.length) (h : (xs.take k).contains x = false) (hne : (xs.getD k 0 == x) = false) : (xs.take (k + 1)).contains x = false := by
  rw [List.take_add_one]
  have e : xs[k]? = some (xs.getD k 0) := by simp [hk]
  simp only [e, Option.toList_some, List.contains_eq_mem, List.mem_append, List.mem_singleton, decide_eq_false_iff_not] at h ⊢
  simp only [beq_eq_false_iff_ne] at hne
  exact fun c => c.elim h (fun c => hne c.symm)
theorem has_yes {xs : List Int} {k : Nat} {x : Int} (hk : k < xs.length) (h : (xs.getD k 0 == x) = true) : xs.contains x = true := by
  have : xs.getD k 0 = x := by simpa using h
  rw [← this, Pf.getD_lt xs 0 hk]
  simp
set_option maxRecDepth 100000 in
set_option maxHeartbeats 1000000 in
theorem has7_any {a : Option Addr} {n c : Nat} {xs : List Int} {x : Int} {w : World} (hx : xs.length = n) (hn : n ≤ 1000) (ha : ARow w a xs) :
    Calls Try.prog 50 #[.slice a n c, .int .i64 x] w fun e w' => e = .returned (.bool (xs.contains x)) ∧ w' = w := by
  have HA := hide ha
  have HX := hide hx
  clear ha hx
  go_enter Try.func50, Try.ntmps50
  go_wp2_with fail
  go_loop [4, 6, 9] (fun s4 _ s => ∃ (k : Nat), s4 = .bool false ∧ s = .int .i64 k ∧ k ≤ n ∧ Hid ((xs.take k).contains x = false)) (fun _ _ s => n - (intOf s).toNat)
  case atStart => exact ⟨0, rfl, rfl, Nat.zero_le _, hide (by simp)⟩
  case round =>
    obtain ⟨k, rfl, rfl, hk, HK⟩ := hrel
    by_cases hlt : k < n
    · obtain ⟨b, off, rfl, r1⟩ := HA.out.at (i := k) (by rw [HX.out]; exact hlt)
      have i0 : (0 : Int) ≤ (k : Int) := by omega
      have i1 : (k : Int) < (n : Int) := by omega
      have HS := hide (has_step (x := x) (by rw [HX.out]; exact hlt) HK.out)
      have HY := hide (has_yes (x := x) (k := k) (xs := xs) (by rw [HX.out]; exact hlt))
      generalize xs.getD k 0 = y at *
      cases hb : (y == x)
      · have H1 := hide (HS.out hb)
        go_wp2_with fail
        go_round
        case rel => exact ⟨k + 1, rfl, by go_num, by omega, H1⟩
        case measure => simp only [intOf]; omega
      · have H1 := hide (HY.out hb)
        go_wp2_with fail
        go_ret
        exact ⟨ret_bool (H1.out.symm.trans (List.contains_eq_mem ..)), rfl⟩
    · have hke : k = n := by omega
      subst hke
      have H1 := hide (show xs.contains x = false by have := HK.out; rwa [← HX.out, List.take_length] at this)
      go_wp2_with fail
      go_ret
      exact ⟨ret_bool (H1.out.symm.trans (List.contains_eq_mem ..)), rfl⟩
theorem has7_eq {a : Option Addr} {n c : Nat} {xs : List Int} {x : Int} {w : World} {r : Bool} (hx : Hid (xs.length = n)) (hn : n ≤ 1000) (ha : Hid (ARow w a xs)) (h : Hid (xs.contains x = r)) :
    Calls Try.prog 50 #[.slice a n c, .int .i64 x] w fun e w' => e = .returned (.bool r) ∧ w' = w := h.out ▸ has7_any hx.out hn ha.out
theorem ARow.take {w : World} {a : Option Addr} {xs : List Int} (h : ARow w a xs) (k : Nat) : ARow w a (xs.take k) := by
  rcases h with h | ⟨b, off, ha, hb, hc⟩
  · exact Or.inl (by rw [h]; simp)
  · refine Or.inr ⟨b, off, ha, hb, fun i hi => ?_⟩
    rw [List.length_take] at hi
    rw [hc i (by omega)]
    simp [show i < k by omega]

set_option maxRecDepth 100000 in
set_option maxHeartbeats 1000000 in
theorem seo_ne {a : Option Addr} {n m c : Nat} {w : World} (h : m ≠ n) :
    Calls Try.prog 29 #[.slice a m c, .int .i64 n] w fun e w' => e = .returned (.bool false) ∧ w' = w := by
  have h1 : ((m : Int) != (n : Int)) = true := by simp; omega
  go_enter Try.func29, Try.ntmps29
  go_wp2_with fail
  go_ret
  exact ⟨rfl, rfl⟩
set_option maxRecDepth 100000 in
set_option maxHeartbeats 2000000 in
theorem seo_same {a : Option Addr} {n c : Nat} {xs : List Int} {w : World} (hx : xs.length = n) (hn : n ≤ 10) (hc : n ≤ c) (ha : ARow w a xs) :
    Calls Try.prog 29 #[.slice a n c, .int .i64 n] w fun e w' => e = .returned (.bool (Od.ordB xs n)) ∧ w' = w := by
  have h1 : ((n : Int) != (n : Int)) = false := by simp
  have HA := hide ha
  have HX := hide hx
  clear ha hx
  go_enter Try.func29, Try.ntmps29
  go_wp2_with fail
  go_loop [4, 5, 6, 13] (fun s4 _ _ s => ∃ (k : Nat), s4 = .bool false ∧ s = .int .i64 k ∧ k ≤ n ∧ Hid (∀ i, i < k → Od.okAt xs n i = true)) (fun _ _ _ s => n - (intOf s).toNat)
  case atStart => exact ⟨0, rfl, rfl, Nat.zero_le _, hide fun i hi => absurd hi (Nat.not_lt_zero _)⟩
  case round =>
    obtain ⟨k, rfl, rfl, hk, HK⟩ := hrel
    by_cases hlt : k < n
    · obtain ⟨b, off, rfl, r1⟩ := HA.out.at (i := k) (by rw [HX.out]; exact hlt)
      have i0 : (0 : Int) ≤ (k : Int) := by omega
      have i1 : (k : Int) < (n : Int) := by omega
      have i2 : (k : Int) ≤ (c : Int) := by omega
      have HTL := hide (show (xs.take k).length = k by rw [List.length_take, HX.out]; omega)
      have HTR := hide (HA.out.take k)
      generalize hx : xs.getD k 0 = x at r1
      cases hb : Pf.inB x 0 ((n : Int) - 1)
      · have HN := hide (Od.ordB_not hlt (show Od.okAt xs n k = false by simp only [Od.okAt]; rw [hx, hb]; rfl))
        clear hx
        go_wp2_with fail
        refine (in_eq hb).mono ?_
        rintro e w1 ⟨rfl, rfl⟩
        go_wp2_with fail
        go_ret
        exact ⟨ret_bool HN.out.symm, rfl⟩
      · cases hs : (xs.take k).contains x
        · have H1 := hide hs
          have HT : Hid (Od.okAt xs n k = true) := hide (show Od.okAt xs n k = true by simp only [Od.okAt]; rw [hx, hs, hb]; rfl)
          clear hs hx
          go_wp2_with fail
          refine (in_eq hb).mono ?_
          rintro e w1 ⟨rfl, rfl⟩
          go_wp2_with fail
          refine (has7_eq HTL (by omega) HTR H1).mono ?_
          rintro e w1 ⟨rfl, rfl⟩
          go_wp2_with fail
          go_round
          case rel =>
            refine ⟨k + 1, rfl, by go_num, by omega, hide fun i hi => ?_⟩
            by_cases e : i = k
            · subst e; exact HT.out
            · exact HK.out i (by omega)
          case measure => simp only [intOf]; omega
        · have H1 := hide hs
          have HN := hide (Od.ordB_not hlt (show Od.okAt xs n k = false by simp only [Od.okAt]; rw [hx, hs]; simp))
          clear hs hx
          go_wp2_with fail
          refine (in_eq hb).mono ?_
          rintro e w1 ⟨rfl, rfl⟩
          go_wp2_with fail
          refine (has7_eq HTL (by omega) HTR H1).mono ?_
          rintro e w1 ⟨rfl, rfl⟩
          go_wp2_with fail
          go_ret
          exact ⟨ret_bool HN.out.symm, rfl⟩
    · have hke : k = n := by omega
      subst hke
      have HY := hide (Od.ordB_of HX.out HK.out)
      go_wp2_with fail
      go_ret
      exact ⟨ret_bool HY.out.symm, rfl⟩
theorem seo_any {a : Option Addr} {n m c : Nat} {xs : List Int} {w : World} (hx : xs.length = m) (hn : n ≤ 10) (hc : m ≤ c) (ha : ARow w a xs) :
    Calls Try.prog 29 #[.slice a m c, .int .i64 n] w fun e w' => e = .returned (.bool (Od.ordB xs n)) ∧ w' = w := by
  by_cases h : m = n
  · subst h; exact seo_same hx hn hc ha
  · rw [Od.ordB_ne (by omega)]; exact seo_ne h
theorem seo_eq {a : Option Addr} {n m c : Nat} {xs : List Int} {w : World} {r : Bool} (hx : Hid (xs.length = m)) (hn : n ≤ 10) (hc : m ≤ c) (ha : Hid (ARow w a xs)) (h : Hid (Od.ordB xs n = r)) :
    Calls Try.prog 29 #[.slice a m c, .int .i64 n] w fun e w' => e = .returned (.bool r) ∧ w' = w := h.out ▸ seo_any hx.out hn hc ha.out
end Go.Proofs.Ytnfcedccjfnceaa
namespace Go.Proofs.Ytnfcedccjfnceaa
open Go.RowKit

set_option maxRecDepth 100000 in
set_option maxHeartbeats 2000000 in
theorem as_any {a : Option Addr} {n c : Nat} {L : List (Int × Int)} {w : World} (hx : L.length = n) (hn : n ≤ 1048576) (ha : FRow w a L) :
    Calls Try.prog 32 #[.slice a n c] w fun e w' => e = .returned (.bool (Rt.allS L)) ∧ Below w.heap.size w w' := by
  have HA := hide ha
  have HX := hide hx
  clear ha hx
  go_enter Try.func32, Try.ntmps32
  go_wp2_with fail
  go_loopw [2, 4, 7] (fun s2 _ s wr => ∃ (k : Nat), s2 = .bool false ∧ s = .int .i64 k ∧ k ≤ n ∧ Hid (∀ i, i < k → Rt.spotB (L.getD i (0, 0)) = true) ∧ Below w.heap.size w wr) (fun _ _ s _ => n - (intOf s).toNat)
  case atStart => exact ⟨0, rfl, rfl, Nat.zero_le _, hide fun i hi => absurd hi (Nat.not_lt_zero _), Below.refl _ _⟩
  case round =>
    obtain ⟨k, rfl, rfl, hk, HK, hB⟩ := hrel
    by_cases hlt : k < n
    · obtain ⟨b, off, rfl, hbl, r1, r2⟩ := (HA.out.below hB).at (i := k) (by rw [HX.out]; exact hlt)
      have i0 : (0 : Int) ≤ (k : Int) := by omega
      have i1 : (k : Int) < (n : Int) := by omega
      have HNO := hide fun (h : Rt.spotB (L.getD k (0, 0)) = false) => Rt.allS_not (L := L) (by rw [HX.out]; exact hlt) h
      have HYES := hide fun (h : Rt.spotB (L.getD k (0, 0)) = true) (i : Nat) (hi : i < k + 1) => show Rt.spotB (L.getD i (0, 0)) = true by
        by_cases e : i = k
        · subst e; exact h
        · exact HK.out i (by omega)
      generalize L.getD k (0, 0) = f at *
      obtain ⟨x, y⟩ := f
      have HBA := hide (hB.alloc hB.size (.cells #[.int .i64 x, .int .i64 y] 35))
      cases e1 : Pf.inB x 0 9
      · have HN := hide (HNO.out (by simp [Rt.spotB, e1]))
        go_wp2_with fail
        refine (between_eq e1).mono ?_
        rintro e w1 ⟨rfl, rfl⟩
        go_wp2_with fail
        go_ret
        exact ⟨ret_bool HN.out.symm, HBA.out⟩
      · cases e2 : Pf.inB y 0 20
        · have HN := hide (HNO.out (by simp [Rt.spotB, e2]))
          go_wp2_with fail
          refine (between_eq e1).mono ?_
          rintro e w1 ⟨rfl, hw1⟩
          have hw1' := hw1.symm
          clear hw1
          subst hw1'
          go_wp2_with fail
          refine (between_eq e2).mono ?_
          rintro e w1 ⟨rfl, rfl⟩
          go_wp2_with fail
          go_ret
          exact ⟨ret_bool HN.out.symm, HBA.out⟩
        · have HY := hide (HYES.out (by simp [Rt.spotB, e1, e2]))
          go_wp2_with fail
          refine (between_eq e1).mono ?_
          rintro e w1 ⟨rfl, hw1⟩
          have hw1' := hw1.symm
          clear hw1
          subst hw1'
          go_wp2_with fail
          refine (between_eq e2).mono ?_
          rintro e w1 ⟨rfl, hw1⟩
          have hw1' := hw1.symm
          clear hw1
          subst hw1'
          go_wp2_with fail
          go_roundw
          case rel => exact ⟨k + 1, rfl, by go_num, by omega, HY, HBA.out⟩
          case measure => simp only [intOf]; omega
    · have hke : k = n := by omega
      subst hke
      have HY := hide (Rt.allS_of (L := L) (by rw [HX.out]; exact HK.out))
      go_wp2_with fail
      go_ret
      exact ⟨ret_bool HY.out.symm, hB⟩
theorem as_eq {a : Option Addr} {n c : Nat} {L : List (Int × Int)} {w : World} {r : Bool} (hx : Hid (L.length = n)) (hn : n ≤ 1048576) (ha : Hid (FRow w a L)) (h : Hid (Rt.allS L = r)) :
    Calls Try.prog 32 #[.slice a n c] w fun e w' => e = .returned (.bool r) ∧ Below w.heap.size w w' := h.out ▸ as_any hx.out hn ha.out
set_option maxRecDepth 100000 in
set_option maxHeartbeats 400000 in
theorem gst_any {a : Option Addr} {n c : Nat} {L : List (Int × Int)} {w : World} (hx : L.length = n) (ha : FRow w a L) :
    Calls Try.prog 8 #[.slice a n c] w fun e w' => e = .returned (.bool (Rt.stopsB L)) ∧ Below w.heap.size w w' := by
  have HA := hide ha
  have HX := hide hx
  have HE : Hid (Rt.stopsB L = (Pf.inB (n : Int) 1 7 && Rt.allS L)) := hide (by unfold Rt.stopsB; rw [hx])
  generalize Rt.stopsB L = R at *
  clear ha hx
  cases e1 : Pf.inB (n : Int) 1 7
  · have HR : Hid (R = false) := hide (by rw [HE.out, e1]; rfl)
    go_enter Try.func8, Try.ntmps8
    go_wp2_with fail
    refine (between_eq e1).mono ?_
    rintro e w1 ⟨rfl, rfl⟩
    go_wp2_with fail
    go_ret
    exact ⟨ret_bool HR.out.symm, Below.refl _ _⟩
  · have hn := Pf.inB_yes e1
    obtain ⟨G, hG⟩ : ∃ G, Rt.allS L = G := ⟨_, rfl⟩
    have HG := hide hG
    have HR : Hid (R = G) := hide (by rw [HE.out, e1, hG]; rfl)
    have HAS := hide (as_eq (c := c) HX (by omega) HA HG)
    clear HE hG hn
    go_enter Try.func8, Try.ntmps8
    go_wp2_with fail
    refine (between_eq e1).mono ?_
    rintro e w1 ⟨rfl, hw1⟩
    obtain rfl : w = w1 := hw1.symm
    go_wp2_with fail
    refine HAS.out.mono ?_
    rintro e w2 ⟨rfl, hb2⟩
    go_wp2_with fail
    go_ret
    exact ⟨ret_bool HR.out.symm, hb2⟩
theorem gst_eq {a : Option Addr} {n c : Nat} {L : List (Int × Int)} {w : World} {r : Bool} (hx : Hid (L.length = n)) (ha : Hid (FRow w a L)) (h : Hid (Rt.stopsB L = r)) :
    Calls Try.prog 8 #[.slice a n c] w fun e w' => e = .returned (.bool r) ∧ Below w.heap.size w w' := h.out ▸ gst_any hx.out ha.out
set_option maxRecDepth 100000 in
set_option maxHeartbeats 400000 in
theorem ls_any (x y : Int) (w : World) :
    Calls Try.prog 33 #[.agg #[.int .i64 x, .int .i64 y]] w fun e w' => e = .returned (.bool (Rt.spotB (x, y))) ∧ Below w.heap.size w w' := by
  have HB := hide (below_new w (.cells #[.int .i64 x, .int .i64 y] 35))
  cases e1 : Pf.inB x 0 9
  · go_enter Try.func33, Try.ntmps33
    go_wp2_with fail
    refine (in_eq e1).mono ?_
    rintro e w1 ⟨rfl, rfl⟩
    go_wp2_with fail
    go_ret
    exact ⟨ret_bool (by simp [Rt.spotB, e1]), HB.out⟩
  · cases e2 : Pf.inB y 0 20
    all_goals
      go_enter Try.func33, Try.ntmps33
      go_wp2_with fail
      refine (in_eq e1).mono ?_
      rintro e w1 ⟨rfl, hw1⟩
      have hw1' := hw1.symm
      clear hw1
      subst hw1'
      go_wp2_with fail
      refine (in_eq e2).mono ?_
      rintro e w1 ⟨rfl, rfl⟩
      go_wp2_with fail
      go_ret
      exact ⟨ret_bool (by simp [Rt.spotB, e1, e2]), HB.out⟩
theorem ls_eq {x y : Int} {w : World} {r : Bool} (h : Hid (Rt.spotB (x, y) = r)) :
    Calls Try.prog 33 #[.agg #[.int .i64 x, .int .i64 y]] w fun e w' => e = .returned (.bool r) ∧ Below w.heap.size w w' := h.out ▸ ls_any x y w
set_option maxRecDepth 100000 in
set_option maxHeartbeats 2000000 in
theorem sgst_any {a : Option Addr} {n c : Nat} {L : List (Int × Int)} {w : World} (hx : L.length = n) (hn : n ≤ 1048576) (ha : FRow w a L) :
    Calls Try.prog 9 #[.slice a n c] w fun e w' => e = .returned (.bool (Rt.stopsB L)) ∧ Below w.heap.size w w' := by
  have HA := hide ha
  have HX := hide hx
  have HE : Hid (Rt.stopsB L = (Pf.inB (n : Int) 1 7 && Rt.allS L)) := hide (by unfold Rt.stopsB; rw [hx])
  generalize Rt.stopsB L = R at *
  clear ha hx
  go_enter Try.func9, Try.ntmps9
  go_wp2_with fail
  go_loopw [2, 4, 7] (fun s2 _ s wr => ∃ (k : Nat), s2 = .bool false ∧ s = .int .i64 k ∧ k ≤ n ∧ Hid (∀ i, i < k → Rt.spotB (L.getD i (0, 0)) = true) ∧ Below w.heap.size w wr) (fun _ _ s _ => n - (intOf s).toNat)
  case atStart => exact ⟨0, rfl, rfl, Nat.zero_le _, hide fun i hi => absurd hi (Nat.not_lt_zero _), Below.refl _ _⟩
  case round =>
    obtain ⟨k, rfl, rfl, hk, HK, hB⟩ := hrel
    by_cases hlt : k < n
    · obtain ⟨b, off, rfl, hbl, r1, r2⟩ := (HA.out.below hB).at (i := k) (by rw [HX.out]; exact hlt)
      have i0 : (0 : Int) ≤ (k : Int) := by omega
      have i1 : (k : Int) < (n : Int) := by omega
      have HNO := hide fun (h : Rt.spotB (L.getD k (0, 0)) = false) => Rt.allS_not (L := L) (by rw [HX.out]; exact hlt) h
      have HYES := hide fun (h : Rt.spotB (L.getD k (0, 0)) = true) (i : Nat) (hi : i < k + 1) => show Rt.spotB (L.getD i (0, 0)) = true by
        by_cases e : i = k
        · subst e; exact h
        · exact HK.out i (by omega)
      generalize L.getD k (0, 0) = f at *
      obtain ⟨x, y⟩ := f
      have HBA := hide (hB.alloc hB.size (.cells #[.int .i64 x, .int .i64 y] 35))
      cases e1 : Rt.spotB (x, y)
      · have HN : Hid (R = false) := hide (by rw [HE.out, HNO.out e1]; simp)
        have H1 := hide e1
        clear e1
        go_wp2_with fail
        refine (ls_eq H1).mono ?_
        rintro e w1 ⟨rfl, hb1⟩
        have HB1 := hide (HBA.out.trans (hb1.mono HBA.out.size))
        clear hb1
        go_wp2_with fail
        go_ret
        exact ⟨ret_bool HN.out.symm, HB1.out⟩
      · have HY := hide (HYES.out e1)
        have H1 := hide e1
        clear e1
        go_wp2_with fail
        refine (ls_eq H1).mono ?_
        rintro e w1 ⟨rfl, hb1⟩
        have HB1 := hide (HBA.out.trans (hb1.mono HBA.out.size))
        clear hb1
        go_wp2_with fail
        go_roundw
        case rel => exact ⟨k + 1, rfl, by go_num, by omega, HY, HB1.out⟩
        case measure => simp only [intOf]; omega
    · have hke : k = n := by omega
      subst hke
      obtain ⟨G, hG⟩ : ∃ G, Pf.inB (k : Int) 1 7 = G := ⟨_, rfl⟩
      have HY : Hid (R = G) := hide (by rw [HE.out, Rt.allS_of (L := L) (by rw [HX.out]; exact HK.out), hG]; simp)
      go_wp2_with fail
      refine (in_eq hG).mono ?_
      rintro e w1 ⟨rfl, rfl⟩
      go_wp2_with fail
      go_ret
      exact ⟨ret_bool HY.out.symm, hB⟩
theorem sgst_eq {a : Option Addr} {n c : Nat} {L : List (Int × Int)} {w : World} {r : Bool} (hx : Hid (L.length = n)) (hn : n ≤ 1048576) (ha : Hid (FRow w a L)) (h : Hid (Rt.stopsB L = r)) :
    Calls Try.prog 9 #[.slice a n c] w fun e w' => e = .returned (.bool r) ∧ Below w.heap.size w w' := h.out ▸ sgst_any hx.out hn ha.out
end Go.Proofs.Ytnfcedccjfnceaa
namespace Go.Proofs.Ytnfcedccjfnceaa
open Go.RowKit

set_option maxRecDepth 100000 in
set_option maxHeartbeats 400000 in
theorem fa_any {x y : Int} {w : World} (hx : 0 ≤ x ∧ x ≤ 1000) (hy : 0 ≤ y ∧ y ≤ 1000) :
    Calls Try.prog 58 #[.int .i64 x, .int .i64 y] w fun e w' => e = .returned (.int .i64 ((x - y).natAbs : Int)) ∧ w' = w := by
  obtain ⟨x0, x1⟩ := hx
  obtain ⟨y0, y1⟩ := hy
  have HE : Hid (max x y - min x y = ((x - y).natAbs : Int)) := hide (by omega)
  generalize ((x - y).natAbs : Int) = R at *
  go_enter Try.func58, Try.ntmps58
  go_wp2_with fail
  go_ret
  exact ⟨ret_int (by have := HE.out; omega), rfl⟩
theorem below_two (w : World) (o p : Obj) : Below w.heap.size w ((w.alloc o).alloc p) := ((Below.refl w.heap.size w).alloc (Nat.le_refl _) o).alloc (by simp) p
set_option maxRecDepth 100000 in
set_option maxHeartbeats 1000000 in
theorem wt_any {s t : Int × Int} {w : World} (hs : Rt.spotB s = true) (ht : Rt.spotB t = true) :
    Calls Try.prog 44 #[.agg #[.int .i64 s.1, .int .i64 s.2], .agg #[.int .i64 t.1, .int .i64 t.2]] w fun e w' => e = .returned (.int .i64 (Rt.way s t)) ∧ Below w.heap.size w w' := by
  obtain ⟨⟨x0, x1⟩, y0, y1⟩ := Rt.spot_yes hs
  obtain ⟨⟨u0, u1⟩, v0, v1⟩ := Rt.spot_yes ht
  have HE : Hid (Rt.way s t = if s.1 = t.1 then ((s.2 - t.2).natAbs : Int) else 3 * ((s.1 - t.1).natAbs : Int) + min (s.2 + t.2) (40 - (s.2 + t.2))) := hide rfl
  have HB := hide (below_two w (.cells #[.int .i64 s.1, .int .i64 s.2] 35) (.cells #[.int .i64 t.1, .int .i64 t.2] 35))
  generalize Rt.way s t = R at *
  obtain ⟨x, y⟩ := s
  obtain ⟨u, v⟩ := t
  clear hs ht
  by_cases he : x = u
  · subst he
    have HR : Hid (((y - v).natAbs : Int) = R) := hide (by rw [HE.out]; simp)
    go_enter Try.func44, Try.ntmps44
    go_wp2_with fail
    refine (fa_any (x := y) (y := v) (by simp at *; omega) (by simp at *; omega)).mono ?_
    rintro e w1 ⟨rfl, rfl⟩
    go_wp2_with fail
    go_ret
    exact ⟨ret_int HR.out, HB.out⟩
  · have HR : Hid (3 * ((x - u).natAbs : Int) + min (y + v) (40 - (y + v)) = R) := hide (by rw [HE.out]; simp [he])
    have hd : ((x - u).natAbs : Int) ≤ 9 := by simp at *; omega
    have HF := hide fun (W : World) => fa_any (x := x) (y := u) (w := W) (by simp at *; omega) (by simp at *; omega)
    generalize hD : ((x - u).natAbs : Int) = D at *
    have hd0 : 0 ≤ D := by omega
    clear HE
    simp only at x0 x1 y0 y1 u0 u1 v0 v1
    go_enter Try.func44, Try.ntmps44
    go_wp2_with fail
    refine (HF.out _).mono ?_
    rintro e w1 ⟨rfl, rfl⟩
    go_wp2_with fail
    go_ret
    exact ⟨ret_int (by have := HR.out; omega), HB.out⟩
set_option maxRecDepth 100000 in
set_option maxHeartbeats 1000000 in
theorem lw_any {s t : Int × Int} {w : World} (hs : Rt.spotB s = true) (ht : Rt.spotB t = true) :
    Calls Try.prog 45 #[.agg #[.int .i64 s.1, .int .i64 s.2], .agg #[.int .i64 t.1, .int .i64 t.2]] w fun e w' => e = .returned (.int .i64 (Rt.way s t)) ∧ Below w.heap.size w w' := by
  obtain ⟨⟨x0, x1⟩, y0, y1⟩ := Rt.spot_yes hs
  obtain ⟨⟨u0, u1⟩, v0, v1⟩ := Rt.spot_yes ht
  have HE : Hid (Rt.way s t = if s.1 = t.1 then ((s.2 - t.2).natAbs : Int) else 3 * ((s.1 - t.1).natAbs : Int) + min (s.2 + t.2) (40 - (s.2 + t.2))) := hide rfl
  have HB := hide (below_two w (.cells #[.int .i64 s.1, .int .i64 s.2] 35) (.cells #[.int .i64 t.1, .int .i64 t.2] 35))
  generalize Rt.way s t = R at *
  obtain ⟨x, y⟩ := s
  obtain ⟨u, v⟩ := t
  clear hs ht
  simp only at x0 x1 y0 y1 u0 u1 v0 v1
  by_cases he : x = u
  · subst he
    have HR : Hid (((y - v).natAbs : Int) = R) := hide (by rw [HE.out]; simp)
    have HF := hide fun (W : World) => abs_any (y - v) W (by omega) (by omega)
    generalize ((y - v).natAbs : Int) = D at *
    clear HE
    go_enter Try.func45, Try.ntmps45
    go_wp2_with fail
    refine (HF.out _).mono ?_
    rintro e w1 ⟨rfl, rfl⟩
    go_wp2_with fail
    go_ret
    exact ⟨ret_int HR.out, HB.out⟩
  · have HR : Hid (3 * ((x - u).natAbs : Int) + min (y + v) (40 - (y + v)) = R) := hide (by rw [HE.out]; simp [he])
    have hd : ((x - u).natAbs : Int) ≤ 9 := by omega
    have HF := hide fun (W : World) => abs_any (x - u) W (by omega) (by omega)
    generalize hD : ((x - u).natAbs : Int) = D at *
    have hd0 : 0 ≤ D := by omega
    clear HE
    by_cases hf : 40 - (y + v) < y + v
    all_goals
      go_enter Try.func45, Try.ntmps45
      go_wp2_with fail
      refine (HF.out _).mono ?_
      rintro e w1 ⟨rfl, rfl⟩
      go_wp2_with fail
      go_ret
      exact ⟨ret_int (by have := HR.out; omega), HB.out⟩
end Go.Proofs.Ytnfcedccjfnceaa
namespace Go.Proofs.Ytnfcedccjfnceaa
open Go.RowKit

theorem rh_below {W w1 w2 : World} {b p q r s : Nat} {x y u v : Value} (h : w1.cell? ⟨b, p, none⟩ = some x ∧ w1.cell? ⟨b, q, none⟩ = some y ∧ w1.cell? ⟨b, r, none⟩ = some u ∧ w1.cell? ⟨b, s, none⟩ = some v ∧ Below W.heap.size W w1) (hb : Below w1.heap.size w1 w2) :
    w2.cell? ⟨b, p, none⟩ = some x ∧ w2.cell? ⟨b, q, none⟩ = some y ∧ w2.cell? ⟨b, r, none⟩ = some u ∧ w2.cell? ⟨b, s, none⟩ = some v ∧ Below W.heap.size W w2 := by
  obtain ⟨h1, h2, h3, h4, h5⟩ := h
  have hl := World.block_lt_of_cell? w1 _ h1
  exact ⟨(hb.cell (p := ⟨b, p, none⟩) hl).trans h1, (hb.cell (p := ⟨b, q, none⟩) hl).trans h2, (hb.cell (p := ⟨b, r, none⟩) hl).trans h3, (hb.cell (p := ⟨b, s, none⟩) hl).trans h4, h5.trans (hb.mono h5.size)⟩
theorem rh_drew {W w1 : World} {b p q r s : Nat} {x y u v : Value} (h : w1.cell? ⟨b, p, none⟩ = some x ∧ w1.cell? ⟨b, q, none⟩ = some y ∧ w1.cell? ⟨b, r, none⟩ = some u ∧ w1.cell? ⟨b, s, none⟩ = some v ∧ Below W.heap.size W w1) :
    w1.drew.cell? ⟨b, p, none⟩ = some x ∧ w1.drew.cell? ⟨b, q, none⟩ = some y ∧ w1.drew.cell? ⟨b, r, none⟩ = some u ∧ w1.drew.cell? ⟨b, s, none⟩ = some v ∧ Below W.heap.size W w1.drew := ⟨h.1, h.2.1, h.2.2.1, h.2.2.2.1, h.2.2.2.2.drew⟩
/-- Two stops in memory. -/
theorem two_stops {w : World} {a : Option Addr} {L : List (Int × Int)} (h : FRow w a L) {i j : Nat} (hi : i < L.length) (hj : j < L.length) : ∃ b o, a = some ⟨b, o, none⟩ ∧ w.cell? ⟨b, o + i * 2, none⟩ = some (.int .i64 (L.getD i (0, 0)).1) ∧ w.cell? ⟨b, o + i * 2 + 1, none⟩ = some (.int .i64 (L.getD i (0, 0)).2) ∧ w.cell? ⟨b, o + j * 2, none⟩ = some (.int .i64 (L.getD j (0, 0)).1) ∧ w.cell? ⟨b, o + j * 2 + 1, none⟩ = some (.int .i64 (L.getD j (0, 0)).2) := by
  obtain ⟨b, o, e, _, r1, r2⟩ := h.at hi
  obtain ⟨b', o', e', _, r3, r4⟩ := h.at hj
  rw [e] at e'
  cases e'
  exact ⟨b, o, e, r1, r2, r3, r4⟩
set_option maxRecDepth 100000 in
set_option maxHeartbeats 4000000 in
theorem rc_any {a a' : Option Addr} {n m c d : Nat} {L : List (Int × Int)} {os : List Int} {w : World} (hl : Hid (L.length = n)) (ho : Hid (os.length = m)) (hm : 1 ≤ m) (hm7 : m ≤ 7) (hs : Hid (Rt.allS L = true)) (hin : Hid (Rt.InB L os)) (ha : Hid (FRow w a L)) (hb : Hid (ARow w a' os)) :
    Calls Try.prog 28 #[.slice a n c, .slice a' m d] w fun e w' => e = .returned (.int .i64 (Rt.tour L os)) ∧ Below w.heap.size w w' := by
  obtain ⟨b', o', ea, r0⟩ := hb.out.at (i := m - 1) (by rw [ho.out]; omega)
  obtain ⟨z1, z2⟩ := hin.out.nth (i := m - 1) (by rw [ho.out]; omega)
  have z3 : Od.nth os (m - 1) < n := by rw [← hl.out]; exact z1
  rw [z2] at r0
  have e1 : ((m : Int) - 1) = ((m - 1 : Nat) : Int) := by omega
  subst ea
  have i0 : (0 : Int) ≤ ((m - 1 : Nat) : Int) := by omega
  have i1 : ((m - 1 : Nat) : Int) < (m : Int) := by omega
  generalize hfr : Od.nth os (m - 1) = fr at *
  have HFR := hide hfr
  clear z1 z2 hfr
  go_enter Try.func28, Try.ntmps28
  go_wp2_with fail
  go_loopw [5, 6, 8, 17] (fun s5 s6 _ s wr => ∃ (k f : Nat) (x : Int), s5 = .int .i64 x ∧ s6 = .int .i64 f ∧ s = .int .i64 k ∧ k ≤ m ∧ f < n ∧ Hid (f = if k = 0 then Od.nth os (m - 1) else Od.nth os (k - 1)) ∧ Hid (x = Rt.addI L os k) ∧ Below w.heap.size w wr) (fun _ _ _ s _ => m - (intOf s).toNat)
  case atStart => exact ⟨0, fr, 0, rfl, rfl, rfl, Nat.zero_le _, z3, hide (by simp [HFR.out]), hide rfl, Below.refl _ _⟩
  case round =>
    obtain ⟨k, f, x, rfl, rfl, rfl, hk, hf, HF, HX, hB⟩ := hrel
    clear r0 e1 i0 i1
    by_cases hlt : k < m
    · obtain ⟨b2, o2, ea, q0⟩ := (hb.out.below hB).at (i := k) (by rw [ho.out]; exact hlt)
      cases ea
      obtain ⟨y1, y2⟩ := hin.out.nth (i := k) (by rw [ho.out]; exact hlt)
      have y3 : Od.nth os k < n := by rw [← hl.out]; exact y1
      rw [y2] at q0
      have hxb := Rt.addI_bd hs.out hin.out (k := k) (by rw [ho.out]; omega)
      rw [← HX.out] at hxb
      obtain ⟨b, o, ea, c1, c2, c3, c4⟩ := two_stops (ha.out.below hB) (i := f) (j := Od.nth os k) (by rw [hl.out]; exact hf) y1
      subst ea
      have hwb := Rt.wy_bd hs.out (i := f) (j := Od.nth os k) (by rw [hl.out]; exact hf) y1
      have HST : Hid (x + Rt.wy L f (Od.nth os k) = Rt.addI L os (k + 1)) := hide (by
        rw [Rt.addI_step, HX.out, HF.out, ho.out])
      have HWT := hide fun (V : World) => wt_any (w := V) (Rt.allS_at hs.out (show f < L.length by rw [hl.out]; exact hf)) (Rt.allS_at hs.out y1)
      have HG : Hid (Od.nth os k = if k + 1 = 0 then Od.nth os (m - 1) else Od.nth os (k + 1 - 1)) := hide (by simp)
      unfold Rt.wy at HST hwb
      generalize Rt.way (L.getD f (0, 0)) (L.getD (Od.nth os k) (0, 0)) = Y at *
      generalize (L.getD f (0, 0)).1 = u1 at *
      generalize (L.getD f (0, 0)).2 = u2 at *
      generalize (L.getD (Od.nth os k) (0, 0)).1 = v1 at *
      generalize (L.getD (Od.nth os k) (0, 0)).2 = v2 at *
      generalize Od.nth os k = g at *
      have i0 : (0 : Int) ≤ (k : Int) := by omega
      have i1 : (k : Int) < (m : Int) := by omega
      have f0 : (0 : Int) ≤ (f : Int) := by omega
      have f1 : (f : Int) < (n : Int) := by omega
      have g0 : (0 : Int) ≤ (g : Int) := by omega
      have g1 : (g : Int) < (n : Int) := by omega
      have hx0 : 0 ≤ x := hxb.1
      have hx1 : x ≤ 700 := by omega
      have hy0 : 0 ≤ Y := hwb.1
      have hy1 : Y ≤ 100 := hwb.2
      have hwr : IntKind.i64.wrap (x + Y) = x + Y := by rw [IntKind.wrap_i64]; omega
      clear y1 y2 hxb hwb HX HF z3 HFR
      go_upto_region 6 with fail
      go_region_held3 (fun w' => w'.cell? ⟨b, o + f * 2, none⟩ = some (.int .i64 u1) ∧ w'.cell? ⟨b, o + f * 2 + 1, none⟩ = some (.int .i64 u2) ∧ w'.cell? ⟨b, o + g * 2, none⟩ = some (.int .i64 v1) ∧ w'.cell? ⟨b, o + g * 2 + 1, none⟩ = some (.int .i64 v2) ∧ Below w.heap.size w w') (first | exact rh_drew ⟨c1, c2, c3, c4, hB⟩ | assumption | exact rh_below ‹_› (by assumption))
        (first
        | (go_at_call 44; refine (HWT.out _).mono ?_; rintro e w1 ⟨rfl, hb1⟩))
      obtain ⟨_, _, _, _, hBz⟩ := ‹_ ∧ _ ∧ _ ∧ _ ∧ Below w.heap.size w _›
      go_wp2_with fail
      go_roundw
      case rel => exact ⟨k + 1, g, x + Y, rfl, rfl, by go_num, by omega, y3, HG, HST, hBz⟩
      case measure => simp only [intOf]; omega
    · have hke : k = m := by omega
      subst hke
      have HE : Hid (x = Rt.tour L os) := hide (by rw [HX.out]; exact Rt.addI_end ho.out hm)
      go_wp2_with fail
      go_ret
      exact ⟨ret_int HE.out, hB⟩
theorem rm_below {W w1 w2 : World} {b p q r s b2 p2 : Nat} {x y u v z : Value} (h : w1.cell? ⟨b, p, none⟩ = some x ∧ w1.cell? ⟨b, q, none⟩ = some y ∧ w1.cell? ⟨b, r, none⟩ = some u ∧ w1.cell? ⟨b, s, none⟩ = some v ∧ w1.cell? ⟨b2, p2, none⟩ = some z ∧ Below W.heap.size W w1) (hb : Below w1.heap.size w1 w2) :
    w2.cell? ⟨b, p, none⟩ = some x ∧ w2.cell? ⟨b, q, none⟩ = some y ∧ w2.cell? ⟨b, r, none⟩ = some u ∧ w2.cell? ⟨b, s, none⟩ = some v ∧ w2.cell? ⟨b2, p2, none⟩ = some z ∧ Below W.heap.size W w2 := by
  obtain ⟨h1, h2, h3, h4, h6, h5⟩ := h
  have hl := World.block_lt_of_cell? w1 _ h1
  have hl2 := World.block_lt_of_cell? w1 _ h6
  exact ⟨(hb.cell (p := ⟨b, p, none⟩) hl).trans h1, (hb.cell (p := ⟨b, q, none⟩) hl).trans h2, (hb.cell (p := ⟨b, r, none⟩) hl).trans h3, (hb.cell (p := ⟨b, s, none⟩) hl).trans h4, (hb.cell (p := ⟨b2, p2, none⟩) hl2).trans h6, h5.trans (hb.mono h5.size)⟩
theorem rm_drew {W w1 : World} {b p q r s b2 p2 : Nat} {x y u v z : Value} (h : w1.cell? ⟨b, p, none⟩ = some x ∧ w1.cell? ⟨b, q, none⟩ = some y ∧ w1.cell? ⟨b, r, none⟩ = some u ∧ w1.cell? ⟨b, s, none⟩ = some v ∧ w1.cell? ⟨b2, p2, none⟩ = some z ∧ Below W.heap.size W w1) :
    w1.drew.cell? ⟨b, p, none⟩ = some x ∧ w1.drew.cell? ⟨b, q, none⟩ = some y ∧ w1.drew.cell? ⟨b, r, none⟩ = some u ∧ w1.drew.cell? ⟨b, s, none⟩ = some v ∧ w1.drew.cell? ⟨b2, p2, none⟩ = some z ∧ Below W.heap.size W w1.drew := ⟨h.1, h.2.1, h.2.2.1, h.2.2.2.1, h.2.2.2.2.1, h.2.2.2.2.2.drew⟩
set_option maxRecDepth 100000 in
set_option maxHeartbeats 4000000 in
theorem src_any {a a' : Option Addr} {n m c d : Nat} {L : List (Int × Int)} {os : List Int} {w : World} (hl : Hid (L.length = n)) (ho : Hid (os.length = m)) (hm : 1 ≤ m) (hm7 : m ≤ 7) (hs : Hid (Rt.allS L = true)) (hin : Hid (Rt.InB L os)) (ha : Hid (FRow w a L)) (hb : Hid (ARow w a' os)) :
    Calls Try.prog 30 #[.slice a n c, .slice a' m d] w fun e w' => e = .returned (.int .i64 (Rt.tour L os)) ∧ Below w.heap.size w w' := by
  go_enter Try.func30, Try.ntmps30
  go_wp2_with fail
  go_loopw [5, 6, 7, 10] (fun s5 _ _ s wr => ∃ (k : Nat) (x : Int), s5 = .int .i64 x ∧ s = .int .i64 k ∧ k ≤ m ∧ Hid (x = Rt.addM L os m k) ∧ Below w.heap.size w wr) (fun _ _ _ s _ => m - (intOf s).toNat)
  case atStart => exact ⟨0, 0, rfl, rfl, Nat.zero_le _, hide rfl, Below.refl _ _⟩
  case round =>
    obtain ⟨k, x, rfl, rfl, hk, HX, hB⟩ := hrel
    by_cases hlt : k < m
    · have hj : (k + 1) % m < m := Nat.mod_lt _ (by omega)
      obtain ⟨b', o', ea, q0⟩ := (hb.out.below hB).at (i := k) (by rw [ho.out]; exact hlt)
      obtain ⟨b2, o2, ea2, q1⟩ := (hb.out.below hB).at (i := (k + 1) % m) (by rw [ho.out]; exact hj)
      subst ea
      cases ea2
      obtain ⟨y1, y2⟩ := hin.out.nth (i := k) (by rw [ho.out]; exact hlt)
      obtain ⟨y4, y5⟩ := hin.out.nth (i := (k + 1) % m) (by rw [ho.out]; exact hj)
      have y3 : Od.nth os k < n := by rw [← hl.out]; exact y1
      have y6 : Od.nth os ((k + 1) % m) < n := by rw [← hl.out]; exact y4
      rw [y2] at q0
      rw [y5] at q1
      have hxb := Rt.addM_bd hs.out hin.out ho.out k hk
      rw [← HX.out] at hxb
      obtain ⟨b, o, ea, c1, c2, c3, c4⟩ := two_stops (ha.out.below hB) (i := Od.nth os k) (j := Od.nth os ((k + 1) % m)) y1 y4
      subst ea
      have hwb := Rt.wy_bd hs.out y1 y4
      have HST : Hid (x + Rt.wy L (Od.nth os k) (Od.nth os ((k + 1) % m)) = Rt.addM L os m (k + 1)) := hide (by
        rw [HX.out]; rfl)
      have HWT := hide fun (V : World) => lw_any (w := V) (Rt.allS_at hs.out y1) (Rt.allS_at hs.out y4)
      unfold Rt.wy at HST hwb
      have hmod : ((k : Int) + 1) % (m : Int) = (((k + 1) % m : Nat) : Int) := by
        rw [Int.natCast_emod]; rfl
      generalize Rt.way (L.getD (Od.nth os k) (0, 0)) (L.getD (Od.nth os ((k + 1) % m)) (0, 0)) = Y at *
      generalize (L.getD (Od.nth os k) (0, 0)).1 = u1 at *
      generalize (L.getD (Od.nth os k) (0, 0)).2 = u2 at *
      generalize (L.getD (Od.nth os ((k + 1) % m)) (0, 0)).1 = v1 at *
      generalize (L.getD (Od.nth os ((k + 1) % m)) (0, 0)).2 = v2 at *
      generalize Od.nth os ((k + 1) % m) = g at *
      generalize Od.nth os k = f at *
      generalize hJ : (k + 1) % m = j at *
      have i0 : (0 : Int) ≤ (k : Int) := by omega
      have i1 : (k : Int) < (m : Int) := by omega
      have j0 : (0 : Int) ≤ (j : Int) := by omega
      have j1 : (j : Int) < (m : Int) := by omega
      have m0 : (m : Int) ≠ 0 := by omega
      have m0' : ¬ m = 0 := by omega
      have hwk : IntKind.i64.wrap ((k : Int) + 1) = (k : Int) + 1 := by rw [IntKind.wrap_i64]; omega
      have hwj : IntKind.i64.wrap (j : Int) = (j : Int) := by rw [IntKind.wrap_i64]; omega
      have htm : ((k : Int) + 1).tmod (m : Int) = (j : Int) := by rw [Int.tmod_eq_emod_of_nonneg (by omega)]; exact hmod
      have f0 : (0 : Int) ≤ (f : Int) := by omega
      have f1 : (f : Int) < (n : Int) := by omega
      have g0 : (0 : Int) ≤ (g : Int) := by omega
      have g1 : (g : Int) < (n : Int) := by omega
      have hx0 : 0 ≤ x := hxb.1
      have hx1 : x ≤ 700 := by omega
      have hy0 : 0 ≤ Y := hwb.1
      have hy1 : Y ≤ 100 := hwb.2
      have hwr : IntKind.i64.wrap (x + Y) = x + Y := by rw [IntKind.wrap_i64]; omega
      clear y1 y2 y4 y5 hxb hwb HX hJ
      go_upto_region 5 with fail
      go_region_held3 (fun w' => w'.cell? ⟨b, o + f * 2, none⟩ = some (.int .i64 u1) ∧ w'.cell? ⟨b, o + f * 2 + 1, none⟩ = some (.int .i64 u2) ∧ w'.cell? ⟨b, o + g * 2, none⟩ = some (.int .i64 v1) ∧ w'.cell? ⟨b, o + g * 2 + 1, none⟩ = some (.int .i64 v2) ∧ w'.cell? ⟨b', o' + j, none⟩ = some (.int .i64 g) ∧ Below w.heap.size w w') (first | exact rm_drew ⟨c1, c2, c3, c4, q1, hB⟩ | assumption | exact rm_below ‹_› (by assumption))
        (first
        | (go_at_call 45; refine (HWT.out _).mono ?_; rintro e w1 ⟨rfl, hb1⟩))
      obtain ⟨_, _, _, _, _, hBz⟩ := ‹_ ∧ _ ∧ _ ∧ _ ∧ _ ∧ Below w.heap.size w _›
      go_wp2_with fail
      go_roundw
      case rel => exact ⟨k + 1, x + Y, rfl, by go_num, by omega, HST, hBz⟩
      case measure => simp only [intOf]; omega
    · have hke : k = m := by omega
      subst hke
      have HE : Hid (x = Rt.tour L os) := hide (by rw [HX.out]; exact Rt.addM_end ho.out hm)
      go_wp2_with fail
      go_ret
      exact ⟨ret_int HE.out, hB⟩
set_option maxRecDepth 100000 in
set_option maxHeartbeats 1000000 in
theorem tc_w {a a' : Option Addr} {n m c d : Nat} {L : List (Int × Int)} {os : List Int} {w : World} (hl : L.length = n) (ho : os.length = m) (ha : FRow w a L) (hb : ARow w a' os) :
    Calls Try.prog 6 #[.slice a n c, .slice a' m d] w fun e w' => e = .returned (.tuple #[.int .i64 (Rt.tcI L os), .bool (Rt.tcB L os)]) ∧ Below w.heap.size w w' := by
  have HA := hide ha
  have HB := hide hb
  have HL := hide hl
  have HO := hide ho
  cases hg : Rt.stopsB L
  · have HR : Hid (0 = Rt.tcI L os ∧ false = Rt.tcB L os) := hide (by simp [Rt.tcI, Rt.tcB, hg])
    have HG := hide hg
    generalize Rt.tcI L os = R at *
    generalize Rt.tcB L os = G at *
    clear ha hb hl ho hg
    go_enter Try.func6, Try.ntmps6
    go_wp2_with fail
    refine (gst_eq HL HA HG).mono ?_
    rintro e w1 ⟨rfl, hb1⟩
    go_wp2_with fail
    go_ret2
    exact ⟨by rw [← HR.out.1, ← HR.out.2]; rfl, hb1⟩
  · obtain ⟨s1, s2⟩ := Rt.stops_len hg
    have hn7 : n ≤ 7 := by omega
    cases hd : Od.ordB os L.length
    · have HR : Hid (0 = Rt.tcI L os ∧ false = Rt.tcB L os) := hide (by simp [Rt.tcI, Rt.tcB, hg, hd])
      have HG := hide hg
      rw [hl] at hd
      have HD := hide hd
      generalize Rt.tcI L os = R at *
      generalize Rt.tcB L os = G at *
      clear ha hb hl ho hg hd s1 s2
      go_enter Try.func6, Try.ntmps6
      go_wp2_with fail
      refine (gst_eq HL HA HG).mono ?_
      rintro e w1 ⟨rfl, hb1⟩
      have B1 := hide hb1
      clear hb1
      go_wp2_with fail
      refine (eo_eq HO (by omega) (hide (HB.out.below B1.out)) HD).mono ?_
      rintro e w2 ⟨rfl, hb2⟩
      have B2 := hide (B1.out.trans (hb2.mono B1.out.size))
      clear hb2
      go_wp2_with fail
      go_ret2
      exact ⟨by rw [← HR.out.1, ← HR.out.2]; rfl, B2.out⟩
    · have hom := Od.ordB_len hd
      have HR : Hid (Rt.tour L os = Rt.tcI L os ∧ true = Rt.tcB L os) := hide (by simp [Rt.tcI, Rt.tcB, hg, hd])
      have HRC := hide fun (W : World) (h : Below w.heap.size w W) => rc_any (w := W) (c := c) (d := d) HL HO (by omega) (by omega) (hide (Rt.stops_all hg)) (hide (Rt.ord_in hd)) (hide (ha.below h)) (hide (hb.below h))
      have HG := hide hg
      rw [hl] at hd
      have HD := hide hd
      generalize Rt.tcI L os = R at *
      generalize Rt.tcB L os = G at *
      generalize Rt.tour L os = Y at *
      clear ha hb hl ho hg hd s1 s2 hom
      go_enter Try.func6, Try.ntmps6
      go_wp2_with fail
      refine (gst_eq HL HA HG).mono ?_
      rintro e w1 ⟨rfl, hb1⟩
      have B1 := hide hb1
      clear hb1
      go_wp2_with fail
      refine (eo_eq HO (by omega) (hide (HB.out.below B1.out)) HD).mono ?_
      rintro e w2 ⟨rfl, hb2⟩
      have B2 := hide (B1.out.trans (hb2.mono B1.out.size))
      clear hb2 B1
      go_wp2_with fail
      refine (HRC.out _ B2.out).mono ?_
      rintro e w3 ⟨rfl, hb3⟩
      have B3 := hide (B2.out.trans (hb3.mono B2.out.size))
      clear hb3 B2
      go_wp2_with fail
      go_ret2
      exact ⟨by rw [← HR.out.1, ← HR.out.2]; rfl, B3.out⟩
set_option maxRecDepth 100000 in
set_option maxHeartbeats 1000000 in
theorem stc_w {a a' : Option Addr} {n m c d : Nat} {L : List (Int × Int)} {os : List Int} {w : World} (hl : L.length = n) (hn : n ≤ 1048576) (ho : os.length = m) (hd' : m ≤ d) (ha : FRow w a L) (hb : ARow w a' os) :
    Calls Try.prog 7 #[.slice a n c, .slice a' m d] w fun e w' => e = .returned (.tuple #[.int .i64 (Rt.tcI L os), .bool (Rt.tcB L os)]) ∧ Below w.heap.size w w' := by
  have HA := hide ha
  have HB := hide hb
  have HL := hide hl
  have HO := hide ho
  cases hg : Rt.stopsB L
  · have HR : Hid (0 = Rt.tcI L os ∧ false = Rt.tcB L os) := hide (by simp [Rt.tcI, Rt.tcB, hg])
    have HG := hide hg
    generalize Rt.tcI L os = R at *
    generalize Rt.tcB L os = G at *
    clear ha hb hl ho hg
    go_enter Try.func7, Try.ntmps7
    go_wp2_with fail
    refine (sgst_eq HL hn HA HG).mono ?_
    rintro e w1 ⟨rfl, hb1⟩
    go_wp2_with fail
    go_ret2
    exact ⟨by rw [← HR.out.1, ← HR.out.2]; rfl, hb1⟩
  · obtain ⟨s1, s2⟩ := Rt.stops_len hg
    have hn7 : n ≤ 7 := by omega
    cases hd : Od.ordB os L.length
    · have HR : Hid (0 = Rt.tcI L os ∧ false = Rt.tcB L os) := hide (by simp [Rt.tcI, Rt.tcB, hg, hd])
      have HG := hide hg
      rw [hl] at hd
      have HD := hide hd
      generalize Rt.tcI L os = R at *
      generalize Rt.tcB L os = G at *
      clear ha hb hl ho hg hd s1 s2
      go_enter Try.func7, Try.ntmps7
      go_wp2_with fail
      refine (sgst_eq HL hn HA HG).mono ?_
      rintro e w1 ⟨rfl, hb1⟩
      have B1 := hide hb1
      clear hb1
      go_wp2_with fail
      refine (seo_eq HO (by omega) hd' (hide (HB.out.below B1.out)) HD).mono ?_
      rintro e w2 ⟨rfl, hw2⟩
      obtain rfl : w1 = w2 := hw2.symm
      go_wp2_with fail
      go_ret2
      exact ⟨by rw [← HR.out.1, ← HR.out.2]; rfl, B1.out⟩
    · have hom := Od.ordB_len hd
      have HR : Hid (Rt.tour L os = Rt.tcI L os ∧ true = Rt.tcB L os) := hide (by simp [Rt.tcI, Rt.tcB, hg, hd])
      have HRC := hide fun (W : World) (h : Below w.heap.size w W) => src_any (w := W) (c := c) (d := d) HL HO (by omega) (by omega) (hide (Rt.stops_all hg)) (hide (Rt.ord_in hd)) (hide (ha.below h)) (hide (hb.below h))
      have HG := hide hg
      rw [hl] at hd
      have HD := hide hd
      generalize Rt.tcI L os = R at *
      generalize Rt.tcB L os = G at *
      generalize Rt.tour L os = Y at *
      clear ha hb hl ho hg hd s1 s2 hom
      go_enter Try.func7, Try.ntmps7
      go_wp2_with fail
      refine (sgst_eq HL hn HA HG).mono ?_
      rintro e w1 ⟨rfl, hb1⟩
      have B1 := hide hb1
      clear hb1
      go_wp2_with fail
      refine (seo_eq HO (by omega) hd' (hide (HB.out.below B1.out)) HD).mono ?_
      rintro e w2 ⟨rfl, hw2⟩
      obtain rfl : w1 = w2 := hw2.symm
      go_wp2_with fail
      refine (HRC.out _ B1.out).mono ?_
      rintro e w3 ⟨rfl, hb3⟩
      have B3 := hide (B1.out.trans (hb3.mono B1.out.size))
      clear hb3 B1
      go_wp2_with fail
      go_ret2
      exact ⟨by rw [← HR.out.1, ← HR.out.2]; rfl, B3.out⟩
end Go.Proofs.Ytnfcedccjfnceaa
namespace Go.Proofs.Ytnfcedccjfnceaa
open Go.RowKit

/-- Numbers of stops as they lie in memory. -/
def cst (I : List Nat) : List Int := I.map fun x : Nat => (x : Int)
theorem cst_len (I : List Nat) : (cst I).length = I.length := by simp [cst]
theorem cst_has (I : List Nat) (i : Nat) : (cst I).contains (i : Int) = I.contains i := by
  rw [Bool.eq_iff_iff]
  simp only [cst, List.contains_eq_mem, decide_eq_true_eq, List.mem_map]
  exact ⟨fun ⟨a, ha, e⟩ => by rw [show i = a by omega]; exact ha, fun h => ⟨i, h, rfl⟩⟩
theorem cst_snoc (I : List Nat) (k : Nat) : ints (cst I) ++ [.int .i64 (k : Int)] = ints (cst (I ++ [k])) := by simp [cst, ints]
/-- None as -1. -/
def opt (o : Option Nat) : Int := match o with | none => -1 | some x => (x : Int)
theorem stop_at {L : List (Int × Int)} {n i : Nat} (hl : L.length = n) (hi : i < n) : i < L.length := by omega
/-- A region that draws its order, over a class of worlds: one operation. -/
theorem q_callC {P : Program} {C : World → Prop} {K : Act → Prop} {a : Act} {o : Oper} {f : FuncId} {xs : Array Operand} {ts : Array TypeId} {args : Array Value} {v : Value} (ho : o.op = .call { callee := .value (.func f), args := xs, argTypes := ts }) (ha : xs.map a.eval = args) (hf : ∀ args w, (callFunc f args).run P w = .ok (.enter f args) w)
    (h : ∀ w, C w → Calls P f args w fun e w' => e = .returned v ∧ C w') (hk : K (a.put o.dst v)) : o.quiet P a C K :=
  ⟨v, fun w hw => by
    have hr : (execOp a.eval o).run P w = .ok (.enter f args) w := by
      unfold execOp
      simp [ho, resolve, ha, invoke, Deferred.ofValue, Act.eval, hf]
    unfold Oper.quietAt; rw [hr]; exact ⟨rfl, h w hw⟩, hk⟩
theorem q_spot {C : World → Prop} {K : Act → Prop} {a : Act} {o : Oper} {s : Operand} {b p : Nat} {x y : Int} (ho : o.op = .load 35 s) (hs : a.eval s = .pointer (some ⟨b, p, none⟩)) (h : ∀ V, C V → V.cell? ⟨b, p, none⟩ = some (.int .i64 x) ∧ V.cell? ⟨b, p + 1, none⟩ = some (.int .i64 y)) (hk : K (a.put o.dst (.agg #[.int .i64 x, .int .i64 y]))) : o.quiet Try.prog a C K :=
  ⟨_, fun w hw => by
    obtain ⟨h1, h2⟩ := h w hw
    have hr : (execOp a.eval o).run Try.prog w = .ok (.value (.agg #[.int .i64 x, .int .i64 y])) w := by
      unfold execOp
      simp only [ho, hs]
      simp [go_sem, h1, h2]
    unfold Oper.quietAt; rw [hr]; exact ⟨rfl, rfl⟩, hk⟩
theorem hb_has {a : Option Addr} {m d i : Nat} {I : List Nat} {w : World} {r : Bool} (hm : Hid ((cst I).length = m)) (h7 : m ≤ 1000) (ha : Hid (ARow w a (cst I))) (hr : Hid (I.contains i = r)) :
    Calls Try.prog 50 #[.slice a m d, .int .i64 (i : Int)] w fun e w' => e = .returned (.bool r) ∧ w' = w := by
  refine (has7_any (c := d) (x := (i : Int)) hm.out h7 ha.out).mono ?_
  rintro e w' ⟨rfl, hw⟩
  rw [cst_has, hr.out]
  exact ⟨rfl, hw⟩
theorem bw_below {W w1 w2 : World} (h : Below W.heap.size W w1) (hb : Below w1.heap.size w1 w2) : Below W.heap.size W w2 := h.trans (hb.mono h.size)
/-- Three stops in memory. -/
def NearC (w : World) (b p q r : Nat) (k1 k2 x1 x2 y1 y2 : Int) (V : World) : Prop := V.cell? ⟨b, p, none⟩ = some (.int .i64 k1) ∧ V.cell? ⟨b, p + 1, none⟩ = some (.int .i64 k2) ∧ V.cell? ⟨b, q, none⟩ = some (.int .i64 x1) ∧ V.cell? ⟨b, q + 1, none⟩ = some (.int .i64 x2) ∧ V.cell? ⟨b, r, none⟩ = some (.int .i64 y1) ∧ V.cell? ⟨b, r + 1, none⟩ = some (.int .i64 y2) ∧ Below w.heap.size w V
theorem NearC.below {w V V' : World} {b p q r : Nat} {k1 k2 x1 x2 y1 y2 : Int} (h : NearC w b p q r k1 k2 x1 x2 y1 y2 V) (hb : Below V.heap.size V V') : NearC w b p q r k1 k2 x1 x2 y1 y2 V' := by
  obtain ⟨h1, h2, h3, h4, h5, h6, h7⟩ := h
  have hl := World.block_lt_of_cell? V _ h1
  exact ⟨(hb.cell (p := ⟨b, p, none⟩) hl).trans h1, (hb.cell (p := ⟨b, p + 1, none⟩) hl).trans h2, (hb.cell (p := ⟨b, q, none⟩) hl).trans h3, (hb.cell (p := ⟨b, q + 1, none⟩) hl).trans h4, (hb.cell (p := ⟨b, r, none⟩) hl).trans h5, (hb.cell (p := ⟨b, r + 1, none⟩) hl).trans h6, h7.trans (hb.mono h7.size)⟩
set_option maxRecDepth 100000 in
set_option maxHeartbeats 8000000 in
theorem sn_any {a a' : Option Addr} {n m c d k : Nat} {L : List (Int × Int)} {I : List Nat} {w : World} (hl : Hid (L.length = n)) (hn : n ≤ 7) (hm : Hid ((cst I).length = m)) (hm7 : m ≤ 7) (hs : Hid (Rt.allS L = true)) (hk : k < n) (ha : Hid (FRow w a L)) (hb : Hid (ARow w a' (cst I))) :
    Calls Try.prog 53 #[.slice a n c, .slice a' m d, .int .i64 (k : Int)] w fun e w' => e = .returned (.int .i64 (opt (Rt.nearTo L I k n))) ∧ Below w.heap.size w w' := by
  go_enter Try.func53, Try.ntmps53
  go_wp2_with fail
  go_loopw [7, 8, 11] (fun s7 _ s wr => ∃ (i : Nat) (o : Option Nat), s7 = .int .i64 (opt o) ∧ s = .int .i64 i ∧ i ≤ n ∧ Hid (Rt.nearTo L I k i = o) ∧ Below w.heap.size w wr) (fun _ _ s _ => n - (intOf s).toNat)
  case atStart => exact ⟨0, none, rfl, rfl, Nat.zero_le _, hide rfl, Below.refl _ _⟩
  case round =>
    obtain ⟨i, o, rfl, rfl, hi, HO, hB⟩ := hrel
    by_cases hlt : i < n
    · have i0 : (0 : Int) ≤ (i : Int) := by omega
      have i1 : (i : Int) < (n : Int) := by omega
      have HNX := hide (Rt.near_succ L I k i)
      cases hc : I.contains i
      · have HN2 : Hid (Rt.nearTo L I k (i + 1) = o) := hide (by rw [HNX.out, hc]; exact HO.out)
        have HC := hide hc
        have HQ := hide fun (W : World) (h : Below w.heap.size w W) => hb_has (w := W) (d := d) (i := i) hm (by omega) (hide (hb.out.below h)) HC
        clear HNX hc HO
        go_upto_region 5 with fail
        go_quiet ((go_at_call 50; exact Calls.quiet_of_same (HQ.out _ (below_drewN hB _))))
        go_wp2_with fail
        go_roundw
        case rel => exact ⟨i + 1, o, rfl, by go_num, by omega, HN2, below_drewN hB _⟩
        case measure => simp only [intOf]; omega
      · have HC := hide hc
        have HQ := hide fun (W : World) (h : Below w.heap.size w W) => hb_has (w := W) (d := d) (i := i) hm (by omega) (hide (hb.out.below h)) HC
        cases o with
        | none =>
          have HN2 : Hid (Rt.nearTo L I k (i + 1) = some i) := hide (by rw [HNX.out, hc, HO.out]; rfl)
          have hopt : opt none = -1 := rfl
          rw [hopt]
          clear HNX hc HO
          go_upto_region 5 with fail
          go_quiet ((go_at_call 50; exact Calls.quiet_of_same (HQ.out _ (below_drewN hB _))))
          go_wp2_with fail
          go_roundw
          case rel => exact ⟨i + 1, some i, rfl, by go_num, by omega, HN2, below_drewN hB _⟩
          case measure => simp only [intOf]; omega
        | some j =>
          obtain ⟨hj, _⟩ := Rt.near_to HO.out
          have hjn : j < n := by omega
          have HN2 : Hid (Rt.nearTo L I k (i + 1) = if Rt.wy L k i < Rt.wy L k j then some i else some j) := hide (by rw [HNX.out, hc, HO.out]; rfl)
          obtain ⟨b, o, ea, c1, c2, c3, c4⟩ := two_stops (ha.out.below hB) (i := k) (j := i) (stop_at hl.out hk) (stop_at hl.out hlt)
          obtain ⟨b', o', ea', _, _, c5, c6⟩ := two_stops (ha.out.below hB) (i := k) (j := j) (stop_at hl.out hk) (stop_at hl.out hjn)
          subst ea
          cases ea'
          have H1 := hide fun (V : World) => lw_any (w := V) (Rt.allS_at hs.out (stop_at hl.out hk)) (Rt.allS_at hs.out (stop_at hl.out hlt))
          have H2 := hide fun (V : World) => lw_any (w := V) (Rt.allS_at hs.out (stop_at hl.out hk)) (Rt.allS_at hs.out (stop_at hl.out hjn))
          unfold Rt.wy at HN2
          generalize Rt.way (L.getD k (0, 0)) (L.getD i (0, 0)) = Y1 at *
          generalize Rt.way (L.getD k (0, 0)) (L.getD j (0, 0)) = Y2 at *
          generalize (L.getD k (0, 0)).1 = k1 at *
          generalize (L.getD k (0, 0)).2 = k2 at *
          generalize (L.getD i (0, 0)).1 = x1 at *
          generalize (L.getD i (0, 0)).2 = x2 at *
          generalize (L.getD j (0, 0)).1 = y1 at *
          generalize (L.getD j (0, 0)).2 = y2 at *
          have HCC : Hid (NearC w b (o + k * 2) (o + i * 2) (o + j * 2) k1 k2 x1 x2 y1 y2 wr.drew) := hide ⟨c1, c2, c3, c4, c5, c6, hB.drew⟩
          have K1 : Hid (∀ V, NearC w b (o + k * 2) (o + i * 2) (o + j * 2) k1 k2 x1 x2 y1 y2 V → Calls Try.prog 45 #[.agg #[.int .i64 k1, .int .i64 k2], .agg #[.int .i64 x1, .int .i64 x2]] V fun e w' => e = .returned (.int .i64 Y1) ∧ NearC w b (o + k * 2) (o + i * 2) (o + j * 2) k1 k2 x1 x2 y1 y2 w') := hide fun V hV => (H1.out V).mono fun e w' h => ⟨h.1, hV.below h.2⟩
          have K2 : Hid (∀ V, NearC w b (o + k * 2) (o + i * 2) (o + j * 2) k1 k2 x1 x2 y1 y2 V → Calls Try.prog 45 #[.agg #[.int .i64 k1, .int .i64 k2], .agg #[.int .i64 y1, .int .i64 y2]] V fun e w' => e = .returned (.int .i64 Y2) ∧ NearC w b (o + k * 2) (o + i * 2) (o + j * 2) k1 k2 x1 x2 y1 y2 w') := hide fun V hV => (H2.out V).mono fun e w' h => ⟨h.1, hV.below h.2⟩
          have K0 : Hid (∀ V, NearC w b (o + k * 2) (o + i * 2) (o + j * 2) k1 k2 x1 x2 y1 y2 V → Calls Try.prog 50 #[.slice a' m d, .int .i64 (i : Int)] V fun e w' => e = .returned (.bool true) ∧ NearC w b (o + k * 2) (o + i * 2) (o + j * 2) k1 k2 x1 x2 y1 y2 w') := hide fun V hV => (HQ.out V hV.2.2.2.2.2.2).mono fun e w' h => ⟨h.1, h.2 ▸ hV⟩
          have EH : Hid (∀ args w, (callFunc 50 args).run Try.prog w = .ok (.enter 50 args) w) := hide (enters_of Try.func50 (by kernel_rfl) rfl)
          have EW : Hid (∀ args w, (callFunc 45 args).run Try.prog w = .ok (.enter 45 args) w) := hide (enters_of Try.func45 (by kernel_rfl) rfl)
          have k0' : (0 : Int) ≤ (k : Int) := by omega
          have k1' : (k : Int) < (n : Int) := by omega
          have j0 : (0 : Int) ≤ (j : Int) := by omega
          have j1 : (j : Int) < (n : Int) := by omega
          have jn : ¬ (j : Int) < 0 := by omega
          have hopt : opt (some j) = (j : Int) := rfl
          rw [hopt]
          clear HNX hc HO H1 H2 c1 c2 c3 c4 c5 c6 HC HQ
          go_upto_region 5 with fail
          refine wp_region_quiet (C := NearC w b (o + k * 2) (o + i * 2) (o + j * 2) k1 k2 x1 x2 y1 y2) (by kernel_rfl) (by kernel_rfl) HCC.out ?_
          rw [List.toList_toArray]
          repeat (first
            | go_big_quiet_skip
            | (go_big_quiet_want; first
              | (go_big_quiet_op; go_big_quiet_on)
              | (go_big_quiet_op; refine ⟨_, fun _ _ => rfl, ?_⟩; go_big_quiet_on)
              | (refine q_callC (args := #[.slice a' m d, .int .i64 (i : Int)]) rfl ?_ EH.out K0.out ?_; simp [go_sem]; simp [go_sem]; go_big_quiet_on)
              | (refine q_callC (args := #[.agg #[.int .i64 k1, .int .i64 k2], .agg #[.int .i64 x1, .int .i64 x2]]) rfl ?_ EW.out K1.out ?_; simp [go_sem]; simp [go_sem]; go_big_quiet_on)
              | (refine q_callC (args := #[.agg #[.int .i64 k1, .int .i64 k2], .agg #[.int .i64 y1, .int .i64 y2]]) rfl ?_ EW.out K2.out ?_; simp [go_sem]; simp [go_sem]; go_big_quiet_on)
              | (refine q_spot (b := b) (p := o + k * 2) rfl ?_ (fun V hV => ⟨hV.1, hV.2.1⟩) ?_; simp [go_sem]; simp [go_sem]; go_big_quiet_on)
              | (refine q_spot (b := b) (p := o + i * 2) rfl ?_ (fun V hV => ⟨hV.2.2.1, hV.2.2.2.1⟩) ?_; simp [go_sem]; simp [go_sem]; go_big_quiet_on)
              | (refine q_spot (b := b) (p := o + j * 2) rfl ?_ (fun V hV => ⟨hV.2.2.2.2.1, hV.2.2.2.2.2.1⟩) ?_; simp [go_sem]; simp [go_sem]; go_big_quiet_on)))
          refine wpQuiet_nil ?_
          intro w2 hC2
          have hB2 := hC2.2.2.2.2.2.2
          clear hC2 K0 K1 K2 HCC
          by_cases hlt2 : Y1 < Y2
          · have HN3 : Hid (Rt.nearTo L I k (i + 1) = some i) := hide (by rw [HN2.out, if_pos hlt2])
            clear HN2
            go_wp2_with fail
            go_roundw
            case rel => exact ⟨i + 1, some i, rfl, by go_num, by omega, HN3, hB2⟩
            case measure => simp only [intOf]; omega
          · have HN3 : Hid (Rt.nearTo L I k (i + 1) = some j) := hide (by rw [HN2.out, if_neg hlt2])
            clear HN2
            go_wp2_with fail
            go_roundw
            case rel => exact ⟨i + 1, some j, rfl, by go_num, by omega, HN3, hB2⟩
            case measure => simp only [intOf]; omega
    · have hke : i = n := by omega
      subst hke
      have HE : Hid (opt o = opt (Rt.nearTo L I k i)) := hide (by rw [HO.out])
      go_wp2_with fail
      go_ret
      exact ⟨ret_int HE.out, hB⟩
end Go.Proofs.Ytnfcedccjfnceaa
namespace Go.Proofs.Ytnfcedccjfnceaa
open Go.RowKit

/-- By which the stops are joined, in block U, and those joined, beyond it. -/
def TS (w wr : World) (U : Nat) (vin : Value) (n : Nat) (I : List Nat) (up : List Int) : Prop :=
  wr.ownsRow w.heap.size 3 1 (.slice (some ⟨U, 0, none⟩) n n) n (ints up) ∧ wr.ownsRow (U + 1) 3 1 vin I.length (ints (cst I)) ∧ Below w.heap.size w wr ∧ w.heap.size ≤ U ∧ U < wr.heap.size
theorem TS.below {w wr V : World} {U n : Nat} {vin : Value} {I : List Nat} {up : List Int} (h : TS w wr U vin n I up) (hb : Below wr.heap.size wr V) : TS w V U vin n I up := by
  obtain ⟨h1, h2, h3, h4, h5⟩ := h
  exact ⟨own_below h1 hb, own_below h2 hb, h3.trans (hb.mono h3.size), h4, Nat.lt_of_lt_of_le h5 hb.size⟩
theorem TS.put {w wr : World} {U n : Nat} {vin : Value} {I : List Nat} {up : List Int} (h : TS w wr U vin n I up) (i : Nat) (z : Int) : TS w (wr.setCell ⟨U, i, none⟩ (.int .i64 z)) U vin n I (up.set i z) := by
  obtain ⟨h1, h2, h3, h4, h5⟩ := h
  obtain ⟨s1, s2⟩ := h1.stored i (.int .i64 z)
  rw [ints_set] at s1
  refine ⟨s1, ?_, h3.setCell (p := ⟨U, i, none⟩) h4 _, h4, by simpa using h5⟩
  refine h2.kept s2 ?_
  cases hb : vin.ownBlock with
  | none => exact Or.inl rfl
  | some b => exact Or.inr fun e => by have := (h2.lt b hb).1; simp at e; omega
theorem TS.in_row {w wr : World} {U n : Nat} {vin : Value} {I : List Nat} {up : List Int} (h : TS w wr U vin n I up) : ∃ a c, vin = .slice a I.length c ∧ ARow wr a (cst I) := by
  obtain ⟨a, c, e, r⟩ := own_row (cst_len I) h.2.1
  exact ⟨a, c, e, r⟩
theorem TS.push {w wr : World} {U n k : Nat} {vin : Value} {I : List Nat} {up : List Int} (h : TS w wr U vin n I up) (hl : I.length ≤ 100) :
    ∃ v' w', (∀ ty, (Builtin.append_ #[24, 24] ty #[vin, .slice (some ⟨wr.heap.size, 0, none⟩) 1 1]).run Try.prog (wr.alloc (.cells #[.int .i64 (k : Int)] 3)) = .ok v' w') ∧ TS w w' U v' n (I ++ [k]) up := by
  obtain ⟨h1, h2, h3, h4, h5⟩ := h
  obtain ⟨v', w', hr, own, hg⟩ := push_int (x := (k : Int)) h2 (by omega) (by omega)
  rw [cst_snoc] at own
  have hne : ∀ b, vin.ownBlock = some b → U < b := fun b hb => by have := (h2.lt b hb).1; omega
  refine ⟨v', w', hr, ?_, by rw [List.length_append]; exact own, ?_, h4, Nat.lt_of_lt_of_le h5 hg.size⟩
  · refine h1.kept hg ?_
    right
    intro e
    have := hne U (by rw [← e]; rfl)
    omega
  · exact h3.trans (grown_under10 hg (fun b e => by have := hne b e; omega) h3.size)
theorem spot_cells {w : World} {b o i : Nat} {L : List (Int × Int)} (h : FRow w (some ⟨b, o, none⟩) L) (hi : i < L.length) : w.cell? ⟨b, o + i * 2, none⟩ = some (.int .i64 (L.getD i (0, 0)).1) ∧ w.cell? ⟨b, o + i * 2 + 1, none⟩ = some (.int .i64 (L.getD i (0, 0)).2) := by
  obtain ⟨b', o', e, _, r1, r2⟩ := h.at hi
  cases e
  exact ⟨r1, r2⟩
def lnOf : Value → Nat
  | .slice _ n _ => n
  | _ => 0
def os1 (o : Option (Nat × Nat)) : Int := match o with | none => -1 | some p => (p.1 : Int)
def os2 (o : Option (Nat × Nat)) : Int := match o with | none => 0 | some p => (p.2 : Int)
theorem mix_set (n i : Nat) (hi : i < n) : (List.replicate i (-1) ++ List.replicate (n - i) (0 : Int)).set i (-1) = List.replicate (i + 1) (-1) ++ List.replicate (n - (i + 1)) 0 := by
  rw [List.set_append_right _ _ (by simp)]
  rw [List.length_replicate, Nat.sub_self, show n - i = (n - (i + 1)) + 1 by omega, List.replicate_succ, List.set_cons_zero, List.replicate_succ', List.append_assoc]
  rfl
set_option maxRecDepth 100000 in
set_option maxHeartbeats 8000000 in
theorem str_any {a : Option Addr} {n c : Nat} {L : List (Int × Int)} {w : World} (hl : Hid (L.length = n)) (h1 : 1 ≤ n) (hn : n ≤ 7) (hs : Hid (Rt.allS L = true)) (ha : Hid (FRow w a L)) :
    Calls Try.prog 38 #[.slice a n c] w fun e w' => ∃ I up s, Rt.tree L (n - 1) = (I, up, s) ∧ e = .returned (.tuple #[.slice (some ⟨w.heap.size, 0, none⟩) n n, .int .i64 s]) ∧ w'.ownsRow w.heap.size 3 1 (.slice (some ⟨w.heap.size, 0, none⟩) n n) n (ints up) ∧ Below w.heap.size w w' := by
  have hmk := makeI_run n (by omega)
  have hM := made_own w n (by omega)
  have HM0 := hide hM
  have HB0 := hide (below_new w (.cells (madeCells #[.int .i64 0] n) 3))
  have hsz : w.heap.size < (w.alloc (.cells (madeCells #[.int .i64 0] n) 3)).heap.size := by simp
  obtain ⟨w0, hw0⟩ : ∃ w0, w.alloc (.cells (madeCells #[.int .i64 0] n) 3) = w0 := ⟨_, rfl⟩
  rw [hw0] at HM0 HB0 hsz
  have HW0 := hide hw0
  clear hM hw0
  go_enter Try.func38, Try.ntmps38
  go_upto_region 2 with fail
  rw [HW0.out]
  clear HW0 hmk
  go_wp2_with fail
  go_loopw [5, 17] (fun _ s wr => ∃ (i : Nat), s = .int .i64 i ∧ i ≤ n ∧ Hid (wr.ownsRow w.heap.size 3 1 (.slice (some ⟨w.heap.size, 0, none⟩) n n) n (ints (List.replicate i (-1) ++ List.replicate (n - i) 0))) ∧ Hid (Below w.heap.size w wr) ∧ w.heap.size < wr.heap.size) (fun _ s _ => n - (intOf s).toNat)
  case atStart => exact ⟨0, rfl, Nat.zero_le _, hide (by simpa using HM0.out), HB0, hsz⟩
  case round =>
    obtain ⟨i, rfl, hi, HO, HB, hz⟩ := hrel
    clear HM0 HB0 hsz
    by_cases hlt : i < n
    · have i0 : (0 : Int) ≤ (i : Int) := by omega
      have i1 : (i : Int) < (n : Int) := by omega
      have own := HO.out
      have cc : ∃ y, wr.cell? ⟨w.heap.size, i, none⟩ = some y := by
        have := own.cellAt i (by simp; omega)
        rw [this, ints_get _ i (by simp; omega)]
        exact ⟨_, rfl⟩
      obtain ⟨y, hy⟩ := cc
      have fz := own.frozenAt i
      obtain ⟨st1, _⟩ := own.stored i (.int .i64 (-1))
      rw [ints_set, mix_set n i hlt] at st1
      have HST := hide st1
      have HB2 := hide (HB.out.setCell (p := ⟨w.heap.size, i, none⟩) (Nat.le_refl _) (.int .i64 (-1)))
      clear own st1 HO HB
      go_wp2_with fail
      go_roundw
      case rel => exact ⟨i + 1, by go_num, by omega, HST, HB2, by simpa using hz⟩
      case measure => simp only [intOf]; omega
    · have hke : i = n := by omega
      subst hke
      have own0 := HO.out
      rw [Nat.sub_self, List.replicate_zero, List.append_nil] at own0
      have hb1 := below_alloc wr (.cells #[.int .i64 0] 3)
      have HTS : Hid (TS w (wr.alloc (.cells #[.int .i64 0] 3)) w.heap.size (.slice (some ⟨wr.heap.size, 0, none⟩) 1 1) i [0] (List.replicate i (-1))) := hide ⟨own_below own0 hb1, by
          have h := World.ownsRow_lit (base := w.heap.size + 1) (e := 3) (size := 1) wr #[.int .i64 0] 1 (by omega) (by unfold maxLen; omega) (by simp)
          simpa [cst, ints] using h, HB.out.trans (hb1.mono HB.out.size), Nat.le_refl _, by simp; omega⟩
      have HT0 : Hid (Rt.tree L 0 = ([0], List.replicate i (-1), 0)) := hide (by simp [Rt.tree, hl.out])
      obtain ⟨w1, hw1⟩ : ∃ w1, wr.alloc (.cells #[.int .i64 0] 3) = w1 := ⟨_, rfl⟩
      rw [hw1] at HTS
      have HW1 := hide hw1
      clear own0 hb1 hw1 HO HB hz
      go_upto_region 8 with fail
      rw [HW1.out]
      clear HW1
      go_wp2_with fail
      go_loopw [6, 7, 8, 9, 10, 11] (fun s6 s7 _ _ _ _ wr => ∃ (m : Nat) (I : List Nat) (up : List Int) (s : Int), s7 = .int .i64 s ∧ I.length = m + 1 ∧ m + 1 ≤ i ∧ Hid (Rt.tree L m = (I, up, s)) ∧ Hid (TS w wr w.heap.size s6 i I up)) (fun s6 _ _ _ _ _ _ => i - lnOf s6)
      case atStart => exact ⟨0, [0], List.replicate i (-1), 0, rfl, rfl, h1, HT0, HTS⟩
      case round =>
        clear HT0 HTS
        obtain ⟨m, I, up, s, rfl, hI, hm, HT, HTS⟩ := hrel
        obtain ⟨ain, cin, e6, rin⟩ := HTS.out.in_row
        subst e6
        rw [hI]
        have HIL : Hid ((cst I).length = m + 1) := hide (by rw [cst_len, hI])
        by_cases hlt : m + 1 < i
        · have i0 : (((m + 1 : Nat) : Int)) < (i : Int) := by omega
          have i0' : ((m : Int) + 1) < (i : Int) := by omega
          obtain ⟨hJ, _, hul⟩ := Rt.tree_jn hl.out h1 m (by omega)
          rw [HT.out] at hJ hul
          have HJ : Hid (Rt.Jn i I) := hide hJ
          have hul' : up.length = i := hul
          have HSB := hide (Rt.tree_bd hl.out h1 hs.out m (by omega))
          rw [HT.out] at HSB
          have HRIN := hide fun (V : World) (h : Below wr.heap.size wr V) => rin.below h
          have HFR := hide fun (V : World) (h : Below wr.heap.size wr V) => ha.out.below (bw_below HTS.out.2.2.1 h)
          clear hJ hul rin
          go_wp2_with fail
          go_loopw [8, 9, 10, 11, 32] (fun s8 s9 _ _ sk wk => ∃ (k : Nat) (o : Option (Nat × Nat)), s8 = .int .i64 (os1 o) ∧ s9 = .int .i64 (os2 o) ∧ sk = .int .i64 k ∧ k ≤ i ∧ Hid (Rt.bestTo L I i k = o) ∧ Hid (Below wr.heap.size wr wk)) (fun _ _ _ _ sk _ => i - (intOf sk).toNat)
          case atStart => exact ⟨0, none, rfl, rfl, rfl, Nat.zero_le _, hide rfl, hide (Below.refl _ _)⟩
          case round =>
            obtain ⟨k, o, rfl, rfl, rfl, hk, HO, HBK⟩ := hrel
            by_cases hki : k < i
            · have k0 : (0 : Int) ≤ (k : Int) := by omega
              have k1 : (k : Int) < (i : Int) := by omega
              have HNX := hide (Rt.best_succ L I i k)
              cases hc : I.contains k
              · have HC := hide hc
                have HQ := hide (hb_has (w := wr) (d := cin) (i := k) HIL (by omega) (hide (HRIN.out _ HBK.out)) HC)
                obtain ⟨j, hj, hji, _⟩ := Rt.near_is L HJ.out k
                have HSN := hide (sn_any (w := wr) (c := c) (d := cin) (k := k) hl hn HIL (by omega) hs hki (hide (HFR.out _ HBK.out)) (hide (HRIN.out _ HBK.out)))
                rw [hj] at HSN
                have hop : opt (some j) = (j : Int) := rfl
                rw [hop] at HSN
                have HNX2 : Hid (Rt.bestTo L I i (k + 1) = Rt.comb (Rt.wp L) o (some (k, j))) := hide (by rw [HNX.out, hc, HO.out, hj]; rfl)
                clear hc HNX
                go_wp2_with fail
                refine HQ.out.mono ?_
                rintro e w2 ⟨rfl, hw2⟩
                obtain rfl : wr = w2 := hw2.symm
                go_wp2_with fail
                refine HSN.out.mono ?_
                rintro e w3 ⟨rfl, hb3⟩
                have HB3 := hide (bw_below HBK.out hb3)
                clear hb3 HQ HSN
                cases o with
                | none =>
                  have HN3 : Hid (Rt.bestTo L I i (k + 1) = some (k, j)) := hide (by rw [HNX2.out]; rfl)
                  have ho1 : os1 none = -1 := rfl
                  have ho2 : os2 none = 0 := rfl
                  rw [ho1, ho2]
                  clear HNX2 HO
                  go_upto_region 17 with fail
                  go_quiet (fail)
                  go_wp2_with fail
                  go_roundw
                  case rel => exact ⟨k + 1, some (k, j), rfl, rfl, by go_num, by omega, HN3, hide (below_drewN HB3.out _)⟩
                  case measure => simp only [intOf]; omega
                | some pq =>
                  obtain ⟨p, q⟩ := pq
                  obtain ⟨hp, _, hq, _⟩ := Rt.best_is HO.out
                  have hpi : p < i := by omega
                  have hqi : q < i := hq
                  have HFL := hide fun (V : World) (h : Below w3.heap.size w3 V) => HFR.out V (bw_below HB3.out h)
                  obtain ⟨b, o, ea, _⟩ := (HFL.out _ (Below.refl _ _)).at (i := k) (stop_at hl.out hki)
                  subst ea
                  have HSP := hide fun (x : Nat) (hx : x < i) (V : World) (h : Below w3.heap.size w3 V) => spot_cells (HFL.out V h) (stop_at hl.out hx)
                  have HWY := hide fun (x y : Nat) (hx : x < i) (hy : y < i) (V : World) (h : Below w3.heap.size w3 V) => (lw_any (w := V) (Rt.allS_at hs.out (stop_at hl.out hx)) (Rt.allS_at hs.out (stop_at hl.out hy))).mono fun e w' (hh : _ ∧ _) => (And.intro hh.1 (bw_below h hh.2) : _ ∧ Below w3.heap.size w3 w')
                  have S1 := hide (HSP.out k hki)
                  have S2 := hide (HSP.out j hji)
                  have S3 := hide (HSP.out p hpi)
                  have S4 := hide (HSP.out q hqi)
                  have K1 := hide (HWY.out k j hki hji)
                  have K2 := hide (HWY.out p q hpi hqi)
                  have HN3 : Hid (Rt.bestTo L I i (k + 1) = if Rt.way (L.getD k (0, 0)) (L.getD j (0, 0)) < Rt.way (L.getD p (0, 0)) (L.getD q (0, 0)) then some (k, j) else some (p, q)) := hide HNX2.out
                  generalize Rt.way (L.getD k (0, 0)) (L.getD j (0, 0)) = Y1 at *
                  generalize Rt.way (L.getD p (0, 0)) (L.getD q (0, 0)) = Y2 at *
                  generalize (L.getD k (0, 0)).1 = a1 at *
                  generalize (L.getD k (0, 0)).2 = a2 at *
                  generalize (L.getD j (0, 0)).1 = b1 at *
                  generalize (L.getD j (0, 0)).2 = b2 at *
                  generalize (L.getD p (0, 0)).1 = c1 at *
                  generalize (L.getD p (0, 0)).2 = c2 at *
                  generalize (L.getD q (0, 0)).1 = d1 at *
                  generalize (L.getD q (0, 0)).2 = d2 at *
                  have EW : Hid (∀ args w, (callFunc 45 args).run Try.prog w = .ok (.enter 45 args) w) := hide (enters_of Try.func45 (by kernel_rfl) rfl)
                  have j0 : (0 : Int) ≤ (j : Int) := by omega
                  have j1 : (j : Int) < (i : Int) := by omega
                  have p0 : (0 : Int) ≤ (p : Int) := by omega
                  have p1 : (p : Int) < (i : Int) := by omega
                  have q0 : (0 : Int) ≤ (q : Int) := by omega
                  have q1 : (q : Int) < (i : Int) := by omega
                  have pn : ¬ (p : Int) < 0 := by omega
                  have ho1 : os1 (some (p, q)) = (p : Int) := rfl
                  have ho2 : os2 (some (p, q)) = (q : Int) := rfl
                  rw [ho1, ho2]
                  clear HNX2 HO HSP HWY
                  go_upto_region 17 with fail
                  have pd : decide ((p : Int) < 0) = false := decide_eq_false (by omega)
                  have pn2 : ((p : Int) < 0) = False := eq_false (by omega)
                  refine wp_region_quiet (C := fun V => Below w3.heap.size w3 V) (by kernel_rfl) (by kernel_rfl) ((Below.refl w3.heap.size w3).drew) ?_
                  rw [List.toList_toArray]
                  repeat (first
                    | go_big_quiet_skip
                    | (go_big_quiet_want; first
                      | (go_big_quiet_op; go_big_quiet_on)
                      | (go_big_quiet_op; refine ⟨_, fun _ _ => rfl, ?_⟩; go_big_quiet_on)
                      | (refine q_callC (args := #[.agg #[.int .i64 a1, .int .i64 a2], .agg #[.int .i64 b1, .int .i64 b2]]) rfl ?_ EW.out K1.out ?_; simp [go_sem]; simp [go_sem]; go_big_quiet_on)
                      | (refine q_callC (args := #[.agg #[.int .i64 c1, .int .i64 c2], .agg #[.int .i64 d1, .int .i64 d2]]) rfl ?_ EW.out K2.out ?_; simp [go_sem]; simp [go_sem]; go_big_quiet_on)
                      | (refine q_spot (b := b) (p := o + k * 2) rfl ?_ S1.out ?_; simp [go_sem]; simp [go_sem]; go_big_quiet_on)
                      | (refine q_spot (b := b) (p := o + j * 2) rfl ?_ S2.out ?_; simp [go_sem]; simp [go_sem]; go_big_quiet_on)
                      | (refine q_spot (b := b) (p := o + p * 2) rfl ?_ S3.out ?_; simp [go_sem]; simp [go_sem]; go_big_quiet_on)
                      | (refine q_spot (b := b) (p := o + q * 2) rfl ?_ S4.out ?_; simp [go_sem]; simp [go_sem]; go_big_quiet_on)))
                  refine wpQuiet_nil ?_
                  intro w4 hb4
                  have HB4 := hide (bw_below HB3.out hb4)
                  clear hb4 S1 S2 S3 S4 K1 K2
                  by_cases hyy : Y1 < Y2
                  · have HN4 : Hid (Rt.bestTo L I i (k + 1) = some (k, j)) := hide (by rw [HN3.out, if_pos hyy])
                    clear HN3
                    go_wp2_with fail
                    go_roundw
                    case rel => exact ⟨k + 1, some (k, j), rfl, rfl, by go_num, by omega, HN4, HB4⟩
                    case measure => simp only [intOf]; omega
                  · have HN4 : Hid (Rt.bestTo L I i (k + 1) = some (p, q)) := hide (by rw [HN3.out, if_neg hyy])
                    clear HN3
                    go_wp2_with fail
                    go_roundw
                    case rel => exact ⟨k + 1, some (p, q), rfl, rfl, by go_num, by omega, HN4, HB4⟩
                    case measure => simp only [intOf]; omega
              · have HC := hide hc
                have HQ := hide (hb_has (w := wr) (d := cin) (i := k) HIL (by omega) (hide (HRIN.out _ HBK.out)) HC)
                have HN3 : Hid (Rt.bestTo L I i (k + 1) = o) := hide (by rw [HNX.out, hc]; exact HO.out)
                clear hc HNX
                go_wp2_with fail
                refine HQ.out.mono ?_
                rintro e w2 ⟨rfl, hw2⟩
                obtain rfl : wr = w2 := hw2.symm
                go_wp2_with fail
                go_roundw
                case rel => exact ⟨k + 1, o, rfl, rfl, by go_num, by omega, HN3, HBK⟩
                case measure => simp only [intOf]; omega
            · have hke : k = i := by omega
              subst hke
              obtain ⟨st, bq, hb, hst, hsti, hbq, _⟩ := Rt.best_some L HJ.out (by omega)
              have ho : o = some (st, bq) := HO.out.symm.trans hb
              subst ho
              have HT2 := hide (Rt.tree_step hl.out HT.out hb)
              have ts0 := HTS.out.below HBK.out
              have cst0 : ∃ y, wr.cell? ⟨w.heap.size, st, none⟩ = some y := by
                have := ts0.1.cellAt st (by omega)
                rw [this, ints_get _ st (by omega)]
                exact ⟨_, rfl⟩
              obtain ⟨y, hy⟩ := cst0
              have fz := ts0.1.frozenAt st
              have ts1 := ts0.put st (bq : Int)
              obtain ⟨W1, hW1⟩ : ∃ W1, wr.setCell ⟨w.heap.size, st, none⟩ (.int .i64 (bq : Int)) = W1 := ⟨_, rfl⟩
              rw [hW1] at ts1
              have HW1 := hide hW1
              have HTS1 := hide ts1
              obtain ⟨b, o2, ea, c1, c2, c3, c4⟩ := two_stops (ha.out.below ts1.2.2.1) (i := st) (j := bq) (stop_at hl.out hst) (stop_at hl.out hbq)
              subst ea
              have hwb := Rt.wy_bd hs.out (stop_at hl.out hst) (stop_at hl.out hbq)
              have HWT := hide fun (V : World) => lw_any (w := V) (Rt.allS_at hs.out (stop_at hl.out hst)) (Rt.allS_at hs.out (stop_at hl.out hbq))
              have sb := HSB.out
              unfold Rt.wy at HT2 hwb
              generalize Rt.way (L.getD st (0, 0)) (L.getD bq (0, 0)) = Y at *
              generalize (L.getD st (0, 0)).1 = u1 at *
              generalize (L.getD st (0, 0)).2 = u2 at *
              generalize (L.getD bq (0, 0)).1 = v1 at *
              generalize (L.getD bq (0, 0)).2 = v2 at *
              have s0 : (0 : Int) ≤ (st : Int) := by omega
              have s1 : (st : Int) < (k : Int) := by omega
              have q0 : (0 : Int) ≤ (bq : Int) := by omega
              have q1 : (bq : Int) < (k : Int) := by omega
              have hs0 : 0 ≤ s := sb.1
              have hs1 : s ≤ 700 := by have := sb.2; omega
              have hy0 : 0 ≤ Y := hwb.1
              have hy1 : Y ≤ 100 := hwb.2
              have hwr : IntKind.i64.wrap (s + Y) = s + Y := by rw [IntKind.wrap_i64]; omega
              have ho1 : os1 (some (st, bq)) = (st : Int) := rfl
              have ho2 : os2 (some (st, bq)) = (bq : Int) := rfl
              rw [ho1, ho2]
              clear ts0 ts1 hW1 hb HO HTS HT HJ HFR HRIN HBK sb hwb HSB
              go_upto_region 22 with fail
              rw [HW1.out]
              clear HW1 hy fz
              go_region_held3 (fun w' => w'.cell? ⟨b, o2 + st * 2, none⟩ = some (.int .i64 u1) ∧ w'.cell? ⟨b, o2 + st * 2 + 1, none⟩ = some (.int .i64 u2) ∧ w'.cell? ⟨b, o2 + bq * 2, none⟩ = some (.int .i64 v1) ∧ w'.cell? ⟨b, o2 + bq * 2 + 1, none⟩ = some (.int .i64 v2) ∧ Below W1.heap.size W1 w') (first | exact rh_drew ⟨c1, c2, c3, c4, Below.refl _ _⟩ | assumption | exact rh_below ‹_› (by assumption))
                (first
                | (go_at_call 45; refine (HWT.out _).mono ?_; rintro e w1' ⟨rfl, hb1⟩))
              obtain ⟨_, _, _, _, hBz⟩ := ‹_ ∧ _ ∧ _ ∧ _ ∧ Below W1.heap.size W1 _›
              obtain ⟨v', w5, hr5, ts5⟩ := (HTS1.out.below hBz).push (k := st) (by omega)
              rw [hI] at hr5
              obtain ⟨a5, c5, e5, _⟩ := ts5.in_row
              have HTS5 := hide ts5
              rw [e5, show (I ++ [st]).length = m + 1 + 1 by simp [hI]] at hr5
              rw [e5, show (I ++ [st]).length = m + 1 + 1 by simp [hI]] at HTS5
              clear ts5 HTS1 hBz c1 c2 c3 c4
              go_wp2_with (first | (at_builtin; refine Lib.wpList_append_run _ rfl _ _ _ _ rfl _ _ rfl rfl _ _ (hr5 _) ?_))
              go_roundw
              case rel => exact ⟨m + 1, I ++ [st], up.set st (bq : Int), s + Y, rfl, by simp [hI], by omega, HT2, HTS5⟩
              case measure => simp only [lnOf]; omega
        · have hme : m + 1 = i := by omega
          have hme' : m = i - 1 := by omega
          have i0 : ¬ (((m + 1 : Nat) : Int)) < (i : Int) := by omega
          have i0' : ¬ ((m : Int) + 1) < (i : Int) := by omega
          have HT2 : Hid (Rt.tree L (i - 1) = (I, up, s)) := hide (by rw [← hme']; exact HT.out)
          have HO2 := hide HTS.out.1
          have HB2 := hide HTS.out.2.2.1
          clear hme hme' HT HTS rin
          go_wp2_with fail
          go_ret2
          exact ⟨I, up, s, HT2.out, rfl, HO2.out, HB2.out⟩
/-- What TreeOf answers, in memory. -/
def TA (w' : World) (lo : Nat) (L : List (Int × Int)) (e : Ending) : Prop := ∃ v, e = .returned (.tuple #[v, .int .i64 (Rt.toI L), .bool (Rt.stopsB L)]) ∧ AV w' lo w'.heap.size v (Rt.toL L).length (Rt.toL L)
theorem toL_len {L : List (Int × Int)} {n : Nat} (hl : L.length = n) (h : Rt.stopsB L = true) : (Rt.toL L).length = n ∧ Rt.toL L = (Rt.tree L (n - 1)).2.1 ∧ Rt.toI L = (Rt.tree L (n - 1)).2.2 := by
  have h1 := (Rt.stops_len h).1
  have := (Rt.tree_jn hl (by omega) (n - 1) (by omega)).2.2
  unfold Rt.toL Rt.toI
  rw [h, hl, if_pos rfl, if_pos rfl]
  exact ⟨this, rfl, rfl⟩
theorem toL_no {L : List (Int × Int)} (h : Rt.stopsB L = false) : Rt.toL L = [] ∧ Rt.toI L = 0 := by
  unfold Rt.toL Rt.toI; rw [h]; exact ⟨rfl, rfl⟩
theorem av_none (w : World) (lo : Nat) : AV w lo w.heap.size (.slice none 0 0) 0 [] := ⟨World.ownsRow_nil _ _ _ _, fun g hg => by simp [Value.ownBlock] at hg, Nat.le_refl _⟩
set_option maxRecDepth 100000 in
set_option maxHeartbeats 1000000 in
theorem sto_w {a : Option Addr} {n c : Nat} {L : List (Int × Int)} {w : World} (hl : L.length = n) (hn : n ≤ 1048576) (ha : FRow w a L) :
    Calls Try.prog 23 #[.slice a n c] w fun e w' => TA w' w.heap.size L e ∧ Below w.heap.size w w' := by
  have HA := hide ha
  have HL := hide hl
  cases hg : Rt.stopsB L
  · obtain ⟨e1, e2⟩ := toL_no hg
    have HG := hide hg
    have HE : Hid (∀ w' e, e = .returned (.tuple #[.slice none 0 0, .int .i64 0, .bool false]) → TA w' w.heap.size L e) := hide fun w' e he => ⟨.slice none 0 0, by rw [he, e2, hg], by rw [e1]; exact av_none _ _⟩
    clear ha hl hg e1 e2
    go_enter Try.func23, Try.ntmps23
    go_wp2_with fail
    refine (sgst_eq HL hn HA HG).mono ?_
    rintro e w1 ⟨rfl, hb1⟩
    go_wp2_with fail
    refine bodyPost_ret (v := .tuple #[.slice none 0 0, .int .i64 0, .bool false]) (by simp [results, Try.results23, go_sem]) rfl ⟨HE.out _ _ rfl, hb1⟩
  · obtain ⟨s1, s2⟩ := Rt.stops_len hg
    obtain ⟨e1, e2, e3⟩ := toL_len hl hg
    have HG := hide hg
    have HST := hide fun (W : World) (h : Below w.heap.size w W) => str_any (w := W) (c := c) HL (by omega) (by omega) (hide (Rt.stops_all hg)) (hide (ha.below h))
    have HE : Hid (∀ w' (lo X n' : Nat) (I : List Nat) (up : List Int) (s : Int) e, w.heap.size ≤ lo → Rt.tree L (n - 1) = (I, up, s) → w'.ownsRow lo 3 1 (.slice (some ⟨X, 0, none⟩) n n) n (ints up) → e = .returned (.tuple #[.slice (some ⟨X, 0, none⟩) n n, .int .i64 s, .bool true]) → TA w' w.heap.size L e) := hide fun w' lo X n' I up s e hlo ht ho he => by
      rw [ht] at e2 e3
      refine ⟨_, by rw [he, e3, hg], ?_⟩
      rw [e1, e2]
      exact AV.new (owns_low ho hlo)
    clear ha hl hg e1 e2 e3
    go_enter Try.func23, Try.ntmps23
    go_wp2_with fail
    refine (sgst_eq HL hn HA HG).mono ?_
    rintro e w1 ⟨rfl, hb1⟩
    have B1 := hide hb1
    clear hb1
    go_wp2_with fail
    refine (HST.out _ B1.out).mono ?_
    rintro e w2 ⟨I, up, s, ht, rfl, ho, hb2⟩
    have HO := hide ho
    have HT := hide ht
    have B2 := hide (bw_below B1.out hb2)
    clear ho ht hb2
    go_wp2_with fail
    refine bodyPost_ret (v := .tuple #[.slice (some ⟨w1.heap.size, 0, none⟩) n n, .int .i64 s, .bool true]) (by simp [results, Try.results23, go_sem]) rfl ⟨HE.out _ _ _ 0 _ _ _ _ B1.out.size HT.out HO.out rfl, B2.out⟩
end Go.Proofs.Ytnfcedccjfnceaa
namespace Go.Proofs.Ytnfcedccjfnceaa
open Go.RowKit

def jce (L : List (Int × Int)) (P : List (Nat × Nat)) : List Value := P.flatMap fun p => [.int .i64 (p.1 : Int), .int .i64 (p.2 : Int), .int .i64 (Rt.wp L p)]
theorem jce_len (L : List (Int × Int)) (P : List (Nat × Nat)) : (jce L P).length = P.length * 3 := by
  induction P with
  | nil => rfl
  | cons p r ih => simp only [jce, List.flatMap_cons, List.length_append, List.length_cons, List.length_nil] at *; omega
theorem jce_snoc (L : List (Int × Int)) (P : List (Nat × Nat)) (p : Nat × Nat) : jce L (P ++ [p]) = jce L P ++ [.int .i64 (p.1 : Int), .int .i64 (p.2 : Int), .int .i64 (Rt.wp L p)] := by simp [jce]
theorem jce_get (L : List (Int × Int)) : ∀ (P : List (Nat × Nat)) (i : Nat), i < P.length → (jce L P)[i * 3]? = some (.int .i64 ((P.getD i (0, 0)).1 : Int)) ∧ (jce L P)[i * 3 + 1]? = some (.int .i64 ((P.getD i (0, 0)).2 : Int)) ∧ (jce L P)[i * 3 + 2]? = some (.int .i64 (Rt.wp L (P.getD i (0, 0))))
  | [], i, h => by simp at h
  | p :: r, 0, _ => by simp [jce]
  | p :: r, i + 1, h => by
    have ih := jce_get L r i (by simpa using h)
    have e : jce L (p :: r) = [.int .i64 (p.1 : Int), .int .i64 (p.2 : Int), .int .i64 (Rt.wp L p)] ++ jce L r := by simp [jce]
    rw [e, List.getD_cons_succ]
    have h3 : ([.int .i64 (p.1 : Int), .int .i64 (p.2 : Int), .int .i64 (Rt.wp L p)] : List Value).length = 3 := rfl
    refine ⟨?_, ?_, ?_⟩
    · rw [List.getElem?_append_right (by rw [h3]; omega), h3, show (i + 1) * 3 - 3 = i * 3 by omega]; exact ih.1
    · rw [List.getElem?_append_right (by rw [h3]; omega), h3, show (i + 1) * 3 + 1 - 3 = i * 3 + 1 by omega]; exact ih.2.1
    · rw [List.getElem?_append_right (by rw [h3]; omega), h3, show (i + 1) * 3 + 2 - 3 = i * 3 + 2 by omega]; exact ih.2.2
/-- Joints in a block. -/
def JAt (w : World) (b : Nat) (L : List (Int × Int)) (P : List (Nat × Nat)) : Prop := b < w.heap.size ∧ ∀ i, i < P.length → w.cell? ⟨b, i * 3, none⟩ = some (.int .i64 ((P.getD i (0, 0)).1 : Int)) ∧ w.cell? ⟨b, i * 3 + 1, none⟩ = some (.int .i64 ((P.getD i (0, 0)).2 : Int)) ∧ w.cell? ⟨b, i * 3 + 2, none⟩ = some (.int .i64 (Rt.wp L (P.getD i (0, 0))))
theorem JAt.below {w w' : World} {b : Nat} {L : List (Int × Int)} {P : List (Nat × Nat)} (h : JAt w b L P) (hb : Below w.heap.size w w') : JAt w' b L P :=
  ⟨Nat.lt_of_lt_of_le h.1 hb.size, fun i hi => ⟨(hb.cell (p := ⟨b, i * 3, none⟩) h.1).trans (h.2 i hi).1, (hb.cell (p := ⟨b, i * 3 + 1, none⟩) h.1).trans (h.2 i hi).2.1, (hb.cell (p := ⟨b, i * 3 + 2, none⟩) h.1).trans (h.2 i hi).2.2⟩⟩
set_option maxRecDepth 100000 in
set_option maxHeartbeats 400000 in
theorem in_any' (x y z u v t : Int) (w : World) :
    Calls Try.prog 57 #[.agg #[.int .i64 x, .int .i64 y, .int .i64 z], .agg #[.int .i64 u, .int .i64 v, .int .i64 t]] w fun e w' => e = .returned (.bool (decide (z < t))) ∧ Below w.heap.size w w' := by
  have HB := hide (below_two w (.cells #[.int .i64 x, .int .i64 y, .int .i64 z] 67) (.cells #[.int .i64 u, .int .i64 v, .int .i64 t] 67))
  go_enter Try.func57, Try.ntmps57
  go_wp2_with fail
  go_ret
  exact ⟨rfl, HB.out⟩
theorem near_eq {x y z u v t : Int} {w : World} {r : Bool} (h : Hid (decide (z < t) = r)) :
    Calls Try.prog 57 #[.agg #[.int .i64 x, .int .i64 y, .int .i64 z], .agg #[.int .i64 u, .int .i64 v, .int .i64 t]] w fun e w' => e = .returned (.bool r) ∧ Below w.heap.size w w' := h.out ▸ in_any' x y z u v t w
theorem six_keep {W w1 w2 : World} {b o1 o2 o3 o4 o5 o6 : Nat} {v1 v2 v3 v4 v5 v6 : Value}
    (s : w1.cell? ⟨b, o1, none⟩ = some v1 ∧ w1.cell? ⟨b, o2, none⟩ = some v2 ∧ w1.cell? ⟨b, o3, none⟩ = some v3 ∧ w1.cell? ⟨b, o4, none⟩ = some v4 ∧ w1.cell? ⟨b, o5, none⟩ = some v5 ∧ w1.cell? ⟨b, o6, none⟩ = some v6 ∧ Below W.heap.size W w1) (h : Below w1.heap.size w1 w2) :
    w2.cell? ⟨b, o1, none⟩ = some v1 ∧ w2.cell? ⟨b, o2, none⟩ = some v2 ∧ w2.cell? ⟨b, o3, none⟩ = some v3 ∧ w2.cell? ⟨b, o4, none⟩ = some v4 ∧ w2.cell? ⟨b, o5, none⟩ = some v5 ∧ w2.cell? ⟨b, o6, none⟩ = some v6 ∧ Below W.heap.size W w2 := by
  obtain ⟨s1, s2, s3, s4, s5, s6, s7⟩ := s
  have hl := World.block_lt_of_cell? w1 _ s1
  exact ⟨(h.cell (p := ⟨b, o1, none⟩) hl).trans s1, (h.cell (p := ⟨b, o2, none⟩) hl).trans s2, (h.cell (p := ⟨b, o3, none⟩) hl).trans s3, (h.cell (p := ⟨b, o4, none⟩) hl).trans s4, (h.cell (p := ⟨b, o5, none⟩) hl).trans s5, (h.cell (p := ⟨b, o6, none⟩) hl).trans s6, bw_below s7 h⟩
set_option maxRecDepth 100000 in
set_option maxHeartbeats 4000000 in
theorem fj_any {b n cap : Nat} {L : List (Int × Int)} {P : List (Nat × Nat)} {w : World} (hr : Hid (JAt w b L P)) (hn : Hid (P.length = n)) (h0 : 0 < n) (h8 : n ≤ 1000) :
    Calls Try.prog 56 #[.slice (some ⟨b, 0, none⟩) n cap, .func (.func 57) #[] #[]] w fun e w' => e = .returned (.int .i64 ((Rt.bi (Rt.wp L) (0, 0) P n : Nat) : Int)) ∧ Below w.heap.size w w' := by
  go_enter Try.func56, Try.ntmps56
  go_wp2_with fail
  go_loopw [5, 6, 9] (fun s5 _ s wr => ∃ k m : Nat, s5 = .int .i64 m ∧ s = .int .i64 k ∧ k ≤ n ∧ m < n ∧ Hid (m = Rt.bi (Rt.wp L) (0, 0) P k) ∧ Below w.heap.size w wr) (fun _ _ s _ => n - (intOf s).toNat)
  case atStart => exact ⟨0, 0, rfl, rfl, Nat.zero_le _, h0, hide rfl, Below.refl _ _⟩
  case round =>
    obtain ⟨k, m, rfl, rfl, hk, hmn, HM, hB⟩ := hrel
    by_cases hlt : k < n
    · obtain ⟨r0, r1, r2⟩ := (hr.out.below hB).2 k (by rw [hn.out]; exact hlt)
      obtain ⟨r3, r4, r5⟩ := (hr.out.below hB).2 m (by rw [hn.out]; exact hmn)
      have HS : Hid (Rt.bi (Rt.wp L) (0, 0) P (k + 1) = if Rt.wp L (P.getD k (0, 0)) < Rt.wp L (P.getD m (0, 0)) then k else m) := hide (by rw [Rt.bi, ← HM.out])
      have i0 : (0 : Int) ≤ (k : Int) := by omega
      have i1 : (k : Int) < (n : Int) := by omega
      have j0 : (0 : Int) ≤ (m : Int) := by omega
      have j1 : (m : Int) < (n : Int) := by omega
      generalize Rt.wp L (P.getD k (0, 0)) = Y1 at *
      generalize Rt.wp L (P.getD m (0, 0)) = Y2 at *
      generalize ((P.getD k (0, 0)).1 : Int) = p1 at *
      generalize ((P.getD k (0, 0)).2 : Int) = p2 at *
      generalize ((P.getD m (0, 0)).1 : Int) = q1 at *
      generalize ((P.getD m (0, 0)).2 : Int) = q2 at *
      by_cases hc : Y1 < Y2
      · have HN : Hid (k = Rt.bi (Rt.wp L) (0, 0) P (k + 1)) := hide (by rw [HS.out, if_pos hc])
        have HD : Hid (decide (Y1 < Y2) = true) := hide (by simpa using hc)
        clear hc HS
        go_wp2_with fail
        go_region_held3 (fun w' => w'.cell? ⟨b, k * 3, none⟩ = some (.int .i64 p1) ∧ w'.cell? ⟨b, k * 3 + 1, none⟩ = some (.int .i64 p2) ∧ w'.cell? ⟨b, k * 3 + 2, none⟩ = some (.int .i64 Y1) ∧ w'.cell? ⟨b, m * 3, none⟩ = some (.int .i64 q1) ∧ w'.cell? ⟨b, m * 3 + 1, none⟩ = some (.int .i64 q2) ∧ w'.cell? ⟨b, m * 3 + 2, none⟩ = some (.int .i64 Y2) ∧ Below w.heap.size w w')
          (first | exact ⟨r0, r1, r2, r3, r4, r5, hB.drew⟩ | assumption | exact six_keep ‹_› (by assumption) | fail)
          (first | (go_at_call 57; refine (near_eq HD).mono ?_; rintro e w1 ⟨rfl, hb1⟩) | fail)
        obtain ⟨_, _, _, _, _, _, hB2⟩ := ‹_ ∧ _ ∧ _ ∧ _ ∧ _ ∧ _ ∧ Below w.heap.size w _›
        go_wp2_with fail
        go_roundw
        case rel => exact ⟨k + 1, k, rfl, by go_num, by omega, hlt, HN, hB2⟩
        case measure => simp only [intOf]; omega
      · have HN : Hid (m = Rt.bi (Rt.wp L) (0, 0) P (k + 1)) := hide (by rw [HS.out, if_neg hc])
        have HD : Hid (decide (Y1 < Y2) = false) := hide (by simpa using hc)
        clear hc HS
        go_wp2_with fail
        go_region_held3 (fun w' => w'.cell? ⟨b, k * 3, none⟩ = some (.int .i64 p1) ∧ w'.cell? ⟨b, k * 3 + 1, none⟩ = some (.int .i64 p2) ∧ w'.cell? ⟨b, k * 3 + 2, none⟩ = some (.int .i64 Y1) ∧ w'.cell? ⟨b, m * 3, none⟩ = some (.int .i64 q1) ∧ w'.cell? ⟨b, m * 3 + 1, none⟩ = some (.int .i64 q2) ∧ w'.cell? ⟨b, m * 3 + 2, none⟩ = some (.int .i64 Y2) ∧ Below w.heap.size w w')
          (first | exact ⟨r0, r1, r2, r3, r4, r5, hB.drew⟩ | assumption | exact six_keep ‹_› (by assumption) | fail)
          (first | (go_at_call 57; refine (near_eq HD).mono ?_; rintro e w1 ⟨rfl, hb1⟩) | fail)
        obtain ⟨_, _, _, _, _, _, hB2⟩ := ‹_ ∧ _ ∧ _ ∧ _ ∧ _ ∧ _ ∧ Below w.heap.size w _›
        go_wp2_with fail
        go_roundw
        case rel => exact ⟨k + 1, m, rfl, by go_num, by omega, hmn, HN, hB2⟩
        case measure => simp only [intOf]; omega
    · have hke : k = n := by omega
      subst hke
      go_wp2_with fail
      go_ret
      exact ⟨ret_int (by rw [← HM.out]), hB⟩
/-- Bools in a block. -/
def BAt (w : World) (g : Nat) (J : List Bool) : Prop := g < w.heap.size ∧ ∀ i, i < J.length → w.cell? ⟨g, i, none⟩ = some (.bool (J.getD i false))
theorem BAt.below {w w' : World} {g : Nat} {J : List Bool} (h : BAt w g J) (hb : Below w.heap.size w w') : BAt w' g J :=
  ⟨Nat.lt_of_lt_of_le h.1 hb.size, fun i hi => (hb.cell (p := ⟨g, i, none⟩) h.1).trans (h.2 i hi)⟩
theorem has_false {J : List Bool} {k : Nat} (hk : k < J.length) (h : J.getD k false = false) : J.contains false = true := by
  rw [List.contains_eq_mem, decide_eq_true_eq]
  rw [List.getD_eq_getElem?_getD, List.getElem?_eq_getElem hk] at h
  exact h ▸ List.getElem_mem hk
theorem no_false {J : List Bool} (h : ∀ i, i < J.length → J.getD i false = true) : J.contains false = false := by
  cases e : J.contains false
  · rfl
  · rw [List.contains_eq_mem, decide_eq_true_eq] at e
    obtain ⟨i, hi, he⟩ := List.getElem_of_mem e
    have := h i hi
    rw [List.getD_eq_getElem?_getD, List.getElem?_eq_getElem hi] at this
    simp [he] at this
def IbP (J : List Bool) (w : World) (e : Ending) (w' : World) : Prop := (∃ z : Int, e = .returned (.int .i64 z) ∧ decide (0 ≤ z) = J.contains false ∧ -1 ≤ z ∧ z ≤ 1000) ∧ w' = w
set_option maxRecDepth 100000 in
set_option maxHeartbeats 1000000 in
theorem ib_any {g n cap : Nat} {J : List Bool} {w : World} (hn : Hid (J.length = n)) (h7 : n ≤ 1000) (h : Hid (BAt w g J)) :
    Calls Try.prog 55 #[.slice (some ⟨g, 0, none⟩) n cap, .bool false] w (IbP J w) := by
  go_enter Try.func55, Try.ntmps55
  go_wp2_with fail
  go_loop [5, 8] (fun _ s => ∃ k : Nat, s = .int .i64 k ∧ k ≤ n ∧ Hid (∀ i, i < k → J.getD i false = true)) (fun _ s => n - (intOf s).toNat)
  case atStart => exact ⟨0, rfl, Nat.zero_le _, hide fun i hi => absurd hi (Nat.not_lt_zero _)⟩
  case round =>
    obtain ⟨k, rfl, hk, HK⟩ := hrel
    by_cases hlt : k < n
    · have r := h.out.2 k (by rw [hn.out]; exact hlt)
      have i0 : (0 : Int) ≤ (k : Int) := by omega
      have i1 : (k : Int) < (n : Int) := by omega
      cases hc : J.getD k false
      · have HY := hide (has_false (by rw [hn.out]; exact hlt) hc)
        rw [hc] at r
        clear hc
        go_wp2_with fail
        go_ret
        exact ⟨⟨_, rfl, (decide_eq_true (by omega)).trans HY.out.symm, by omega, by omega⟩, rfl⟩
      · have HK2 : Hid (∀ i, i < k + 1 → J.getD i false = true) := hide fun i hi => by
          by_cases e : i = k
          · subst e; exact hc
          · exact HK.out i (by omega)
        rw [hc] at r
        clear hc
        go_wp2_with fail
        go_round
        case rel => exact ⟨k + 1, by go_num, by omega, HK2⟩
        case measure => simp only [intOf]; omega
    · have hke : k = n := by omega
      subst hke
      have HN := hide (no_false (J := J) (by rw [hn.out]; exact HK.out))
      go_wp2_with fail
      go_ret
      exact ⟨⟨_, rfl, (decide_eq_false (by omega)).trans HN.out.symm, by omega, by omega⟩, rfl⟩
set_option maxRecDepth 100000 in
set_option maxHeartbeats 1000000 in
theorem cb_any {g n cap : Nat} {J : List Bool} {w : World} {r : Bool} (hn : Hid (J.length = n)) (h7 : n ≤ 1000) (h : Hid (BAt w g J)) (hr : Hid (J.contains false = r)) :
    Calls Try.prog 41 #[.slice (some ⟨g, 0, none⟩) n cap, .bool false] w fun e w' => e = .returned (.bool r) ∧ w' = w := by
  go_enter Try.func41, Try.ntmps41
  go_wp2_with fail
  refine (ib_any hn h7 h).mono ?_
  rintro e w1 ⟨⟨z, rfl, hz, z0, z1⟩, hw⟩
  obtain rfl : w = w1 := hw.symm
  rw [hr.out] at hz
  cases r
  · have hz' : ¬ (0 : Int) ≤ z := by simpa using hz
    clear hz
    go_wp2_with fail
    go_ret
    exact ⟨ret_bool (by first | rfl | (simp; omega)), rfl⟩
  · have hz' : (0 : Int) ≤ z := by simpa using hz
    clear hz
    go_wp2_with fail
    go_ret
    exact ⟨ret_bool (by first | rfl | (simp; omega)), rfl⟩
end Go.Proofs.Ytnfcedccjfnceaa
