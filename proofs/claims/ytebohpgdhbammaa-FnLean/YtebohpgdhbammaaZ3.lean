/-
  In one: Ah14, Ak14, Ai14, Al14, Qw0, Qa, Lm13, Fp13, Shelf, Ao14, Ap14, Am14, Af14, Aq14.
-/
import Derived.Test.YtebohpgdhbammaaZ2
import Derived.BigQuiet
import Derived.Test.YtebohpgdhbammaaZ1
import Derived.Lib.AppendZeros
import Derived.Deep.AppendLies
import Derived.Deep.RegionLaw
import Derived.Test.YtebohpgdhbammaaChecked
import Derived.Shelf.Spec.SlicesInsertGrow
import Derived.Shelf.Slices.Reverse
import Derived.Shelf.Slices.Clone
import Derived.Shelf.Slices.Cells
import Derived.Shelf.SlicesE.Clone
namespace Go.Proofs.Ytebohpgdhbammaa
namespace Lo
open Lt
open Bx (sumTo lev)
theorem day_le {D : List Int} {n : Nat} (h : dayB D n = true) : D.length ≤ n := by
  simp only [dayB, Bool.and_eq_true] at h
  exact Ma.riseB_len h.2
theorem day_pos {D : List Int} {n : Nat} (h : dayB D n = true) : 0 < D.length := by
  simp only [dayB, Bool.and_eq_true, decide_eq_true_eq] at h
  exact h.1.1
theorem day_rise {D : List Int} {n : Nat} (h : dayB D n = true) {i : Nat} (hi : i < D.length) : Ma.least D i ≤ D.getD i 0 ∧ D.getD i 0 ≤ (n : Int) - 1 := by
  simp only [dayB, Bool.and_eq_true] at h
  exact Pf.inB_yes (List.all_eq_true.1 h.2 i (by simpa using hi))
theorem day_at {D : List Int} {n : Nat} (h : dayB D n = true) {i : Nat} (hi : i < D.length) : ∃ d : Nat, D.getD i 0 = (d : Int) ∧ d < n := by
  have h1 := day_rise h hi
  have h2 : 0 ≤ Ma.least D i := by
    simp only [dayB, Bool.and_eq_true] at h
    exact Ma.least_nn (many := n) fun j hj => List.all_eq_true.1 h.2 j (by simp; omega)
  exact ⟨(D.getD i 0).toNat, by omega, by omega⟩
theorem day_lt {D : List Int} {n : Nat} (h : dayB D n = true) {i : Nat} (hi : i + 1 < D.length) : D.getD i 0 < D.getD (i + 1) 0 := by
  have := (day_rise h hi).1
  simp only [Ma.least, Nat.add_eq_zero_iff, Nat.one_ne_zero, and_false, if_false, Nat.add_sub_cancel] at this
  omega
theorem day_mono {D : List Int} {n : Nat} (h : dayB D n = true) {i : Nat} : ∀ j, i ≤ j → j < D.length → D.getD i 0 ≤ D.getD j 0
  | 0, h1, _ => by
    have : i = 0 := by omega
    subst this; exact Int.le_refl _
  | j + 1, h1, h2 => by
    by_cases e : i = j + 1
    · subst e; exact Int.le_refl _
    · have a := day_mono h (i := i) j (by omega) (by omega)
      have b := day_lt h h2
      omega
/-- Where the i-th of these days begins; behind them, the end. -/
def bnd (D : List Int) (n i : Nat) : Nat := if i < D.length then (D.getD i 0).toNat else n
theorem bnd_lt {D : List Int} {n i : Nat} (hi : i < D.length) : bnd D n i = (D.getD i 0).toNat := by rw [bnd, if_pos hi]
theorem bnd_all (D : List Int) (n : Nat) : bnd D n D.length = n := by rw [bnd, if_neg (by omega)]
theorem bnd_zero {D : List Int} {n : Nat} (h : dayB D n = true) : bnd D n 0 = 0 := by
  rw [bnd_lt (day_pos h)]
  simp only [dayB, Bool.and_eq_true, beq_iff_eq] at h
  rw [h.1.2]; rfl
theorem has_day {D : List Int} {n : Nat} (h : dayB D n = true) {i : Nat} (hi : i < D.length) : D.contains ((bnd D n i : Nat) : Int) = true := by
  obtain ⟨d, e, _⟩ := day_at h hi
  rw [bnd_lt hi, e, Int.toNat_natCast, ← e, Pf.getD_lt D 0 hi, List.contains_eq_mem, decide_eq_true_eq]
  exact List.getElem_mem _
/-- A day of these, and the next of them. -/
structure Seg (D : List Int) (n d t : Nat) : Prop where
  lt : d < t
  tn : t ≤ n
  hd : D.contains (d : Int) = true
  ht : t = n ∨ D.contains (t : Int) = true
  no : ∀ x : Nat, D.contains (x : Int) = true → x < t → x ≤ d
theorem seg_day {D : List Int} {n : Nat} (h : dayB D n = true) {i : Nat} (hi : i < D.length) : Seg D n (bnd D n i) (bnd D n (i + 1)) := by
  obtain ⟨d, e, hd⟩ := day_at h hi
  have eb : bnd D n i = d := by rw [bnd_lt hi, e]; rfl
  by_cases h1 : i + 1 < D.length
  · obtain ⟨t, e1, ht⟩ := day_at h h1
    have et : bnd D n (i + 1) = t := by rw [bnd_lt h1, e1]; rfl
    have hl := day_lt h h1
    refine ⟨by omega, by omega, has_day h hi, Or.inr (has_day h h1), fun x hx hxt => ?_⟩
    obtain ⟨j, hj, ex⟩ := mem_at hx
    by_cases hji : j ≤ i
    · have := day_mono h i hji hi; omega
    · have := day_mono h j (show i + 1 ≤ j by omega) hj; omega
  · have et : bnd D n (i + 1) = n := by rw [bnd, if_neg h1]
    refine ⟨by omega, by omega, has_day h hi, Or.inl et, fun x hx _ => ?_⟩
    obtain ⟨j, hj, ex⟩ := mem_at hx
    have := day_mono h i (show j ≤ i by omega) hi; omega
theorem Seg.lots {D nd : List Int} {d t : Nat} (h : Seg D nd.length d t) (h0 : D.contains (0 : Int) = true) : fn (lotsL nd D) d = seg (fn nd) d t ∧ ∀ x, d < x → x < t → fn (lotsL nd D) x = 0 := by
  have hq : ∀ j, d ≤ j → j < t → lat D j = d := fun j h1 h2 => lat_seg h.hd h.no h0 h1 h2
  have hq2 : ∀ j, t ≤ j → j < nd.length → t ≤ lat D j := fun j h1 h2 => by
    rcases h.ht with ht | ht
    · omega
    · exact le_lat ht j h1
  have hq3 : ∀ j, j < d → lat D j < d := fun j h1 => by have := lat_le D j; omega
  have htn := h.tn
  have hlt := h.lt
  have hz : ∀ x, d < x → x < t → fn (lotsL nd D) x = 0 := fun x h1 h2 => by
    rw [lots_at (by omega)]
    refine Bx.lev_none fun i hi => ?_
    by_cases a : i < d
    · have := hq3 i a; omega
    · by_cases b : i < t
      · have := hq i (by omega) b; omega
      · have := hq2 i (by omega) hi; omega
  refine ⟨?_, hz⟩
  have hld := left_day (nd := nd) (days := D) (t := d) (by omega) (Or.inr h.hd)
  have hlt' := left_day (nd := nd) (days := D) (t := t) htn h.ht
  have a : sumTo (fn (lotsL nd D)) t = sumTo (fn (lotsL nd D)) (d + 1) := sum_stay t (by omega) fun j h1 h2 => hz j (by omega) h2
  have b : sumTo (fn (lotsL nd D)) (d + 1) = sumTo (fn (lotsL nd D)) d + fn (lotsL nd D) d := rfl
  unfold left at hld hlt'
  unfold seg
  omega
/-- Lots, day by day as the program gives them. -/
def lotsT (nd D : List Int) (k : Nat) : List Int := tbl nd.length fun d => lev (lat D) (fn nd) k d
theorem lotsT_zero (nd D : List Int) : lotsT nd D 0 = List.replicate nd.length 0 := by
  rw [← tbl_zero]; exact tbl_eq fun i _ => rfl
theorem lotsT_at {nd D : List Int} {k d : Nat} (h : d < nd.length) : (lotsT nd D k).getD d 0 = lev (lat D) (fn nd) k d := tbl_get _ h
theorem lotsT_set (nd D : List Int) (k : Nat) : (lotsT nd D k).set (lat D k) (lev (lat D) (fn nd) k (lat D k) + fn nd k) = lotsT nd D (k + 1) := tbl_set (by rw [Bx.lev_succ, if_pos rfl]) fun j _ hj => by
  rw [Bx.lev_succ, if_neg (fun e => hj e.symm)]; omega
theorem lev_bd {nd D : List Int} (h : Pf.allB nd 0 20 = true) {k : Nat} (hk : k ≤ nd.length) (d : Nat) : 0 ≤ lev (lat D) (fn nd) k d ∧ lev (lat D) (fn nd) k d ≤ 20 * (k : Int) := by
  have := sum_bd (f := fun j => if lat D j = d then fn nd j else 0) (lo := 0) (hi := 20) k fun j hj => by
    have := Pf.inB_yes (Pf.allB_get h (show j < nd.length by omega))
    show 0 ≤ (if lat D j = d then fn nd j else 0) ∧ (if lat D j = d then fn nd j else 0) ≤ 20
    split <;> omega
  rw [Int.zero_mul] at this
  exact this
/-- Lots, day by day as the model gives them: up to d whole, that of d so far. -/
def midT (nd D : List Int) (d k : Nat) : List Int := tbl nd.length fun x => if x < d then fn (lotsL nd D) x else if x = d then seg (fn nd) d k else 0
theorem midT_at {nd D : List Int} {d k : Nat} (h : d < nd.length) : (midT nd D d k).getD d 0 = seg (fn nd) d k := by
  rw [midT, tbl_get _ h, if_neg (by omega), if_pos rfl]
theorem midT_set (nd D : List Int) (d k : Nat) : (midT nd D d k).set d (seg (fn nd) d k + fn nd k) = midT nd D d (k + 1) := tbl_set (by
    rw [if_neg (by omega), if_pos rfl]; unfold seg; simp only [sumTo]; omega) fun j _ hj => by
  by_cases e : j < d
  · rw [if_pos e, if_pos e]
  · rw [if_neg e, if_neg e, if_neg hj, if_neg hj]
theorem midT_next {nd D : List Int} {d t : Nat} (h : Seg D nd.length d t) (h0 : D.contains (0 : Int) = true) : midT nd D d t = midT nd D t t := tbl_eq fun x hx => by
  obtain ⟨e1, e2⟩ := h.lots h0
  have hlt := h.lt
  have es : seg (fn nd) t t = 0 := by unfold seg; omega
  by_cases a : x < d
  · rw [if_pos a, if_pos (by omega)]
  · by_cases b : x = d
    · subst b; rw [if_neg (by omega), if_pos rfl, if_pos hlt, e1]
    · rw [if_neg a, if_neg b]
      by_cases c : x < t
      · rw [if_pos c, e2 x (by omega) c]
      · rw [if_neg c, es]; split <;> rfl
theorem midT_zero (nd D : List Int) : midT nd D 0 0 = List.replicate nd.length 0 := by
  rw [← tbl_zero]
  refine tbl_eq fun i _ => ?_
  have es : seg (fn nd) 0 0 = 0 := by unfold seg; omega
  rw [if_neg (by omega), es]; split <;> rfl
theorem midT_all (nd D : List Int) : midT nd D nd.length nd.length = lotsL nd D := tbl_eq fun i hi => by
  rw [if_pos hi, lots_at hi]
theorem seg_bd {nd : List Int} (h : Pf.allB nd 0 20 = true) {d k : Nat} (hd : d ≤ k) (hk : k ≤ nd.length) : 0 ≤ seg (fn nd) d k ∧ seg (fn nd) d k ≤ 20 * (k : Int) := by
  have hm := Bx.sum_mono (f := fn nd) (m := d) k hd fun i hi => (Pf.inB_yes (Pf.allB_get h (show i < nd.length by omega))).1
  have hp := Bx.sum_pos (f := fn nd) d fun i hi => (Pf.inB_yes (Pf.allB_get h (show i < nd.length by omega))).1
  have hb := sum_bd (f := fn nd) (lo := 0) (hi := 20) k fun i hi => Pf.inB_yes (Pf.allB_get h (show i < nd.length by omega))
  unfold seg
  omega
end Lo
open Go.RowKit

set_option maxRecDepth 100000 in
set_option maxHeartbeats 2000000 in
theorem lo_own {a a' : Option Addr} {n c m c' : Nat} {nd ds : List Int} {w : World} (HN : Hid (nd.length = n)) (HM : Hid (ds.length = m)) (hn : n ≤ 10) (hm : m ≤ 1048576) (HA : Hid (ARow w a nd)) (HA' : Hid (ARow w a' ds)) (hb : Pf.allB nd 0 20 = true) :
    Calls Try.prog 41 #[.slice a n c, .slice a' m c'] w fun e w' => e = .returned (.slice (some ⟨w.heap.size, 0, none⟩) n n) ∧ Below w.heap.size w w' ∧ w.heap.size < w'.heap.size ∧ w'.ownsRow w.heap.size 3 1 (.slice (some ⟨w.heap.size, 0, none⟩) n n) n (ints (Lo.lotsL nd ds)) := by
  have hmk := makeI_run n (by omega)
  have HB1 := hide fun (k : Nat) (hk : k < n) => Pf.inB_yes (Pf.allB_get hb (show k < nd.length by rw [HN.out]; exact hk))
  have HLV := hide fun (k : Nat) (hk : k ≤ n) (d : Nat) => Lo.lev_bd (D := ds) hb (show k ≤ nd.length by rw [HN.out]; exact hk) d
  have HMO := hide (made_own w n (by omega))
  clear hb
  go_enter Try.func41, Try.ntmps41
  go_wp2_with fail
  go_loopw [6, 7, 8, 14] (fun s6 _ _ s wr => ∃ (k l : Nat), s6 = .int .i64 l ∧ s = .int .i64 k ∧ k ≤ n ∧ Hid (k = 0 ∧ l = 0 ∨ 0 < k ∧ l = Lo.lat ds (k - 1)) ∧ Hid (wr.ownsRow w.heap.size 3 1 (.slice (some ⟨w.heap.size, 0, none⟩) n n) n (ints (Lo.lotsT nd ds k))) ∧ Hid (Below w.heap.size w wr) ∧ w.heap.size < wr.heap.size) (fun _ _ _ s _ => n - (intOf s).toNat)
  case atStart => exact ⟨0, 0, rfl, rfl, Nat.zero_le _, hide (Or.inl ⟨rfl, rfl⟩), hide (by rw [Lo.lotsT_zero, HN.out]; exact HMO.out), hide (below_new _ _), by simp⟩
  case round =>
    clear HMO
    obtain ⟨k, l, rfl, rfl, hk, HL, HO, HB, hz⟩ := hrel
    by_cases hlt : k < n
    · obtain ⟨b1, o1, rfl, r1⟩ := (HA.out.below HB.out).at (i := k) (by rw [HN.out]; exact hlt)
      have i0 : (0 : Int) ≤ (k : Int) := by omega
      have i1 : (k : Int) < (n : Int) := by omega
      obtain ⟨p0, p1⟩ := HB1.out k hlt
      have HLa : Hid ((if ds.contains (k : Int) then k else l) = Lo.lat ds k) := hide (by
        rcases HL.out with ⟨e1, e2⟩ | ⟨e1, e2⟩
        · subst e1; subst e2; rw [Lo.lat]; split <;> rfl
        · obtain ⟨j, rfl⟩ : ∃ j, k = j + 1 := ⟨k - 1, by omega⟩
          rw [Lo.lat, e2, Nat.add_sub_cancel])
      have hql : Lo.lat ds k < n := by have := Lo.lat_le ds k; omega
      have HSET := hide (Lo.lotsT_set nd ds k)
      obtain ⟨v0, v1⟩ := HLV.out k hk (Lo.lat ds k)
      have c0 : wr.cell? ⟨w.heap.size, Lo.lat ds k, none⟩ = some (.int .i64 (Bx.lev (Lo.lat ds) (Lo.fn nd) k (Lo.lat ds k))) := by rw [HO.out.cellAt _ (by omega), ints_get _ _ (by rw [Lo.lotsT, Lo.tbl_len, HN.out]; exact hql), Lo.lotsT_at (by rw [HN.out]; exact hql)]
      have f0 := HO.out.frozenAt (Lo.lat ds k)
      obtain ⟨st1, st2⟩ := HO.out.stored (Lo.lat ds k) (.int .i64 (Bx.lev (Lo.lat ds) (Lo.fn nd) k (Lo.lat ds k) + Lo.fn nd k))
      rw [ints_set, HSET.out] at st1
      have HCN := hide (con_any (c := c') (x := (k : Int)) HM.out hm (HA'.out.below HB.out))
      have HLQ : Hid (k + 1 = 0 ∧ Lo.lat ds k = 0 ∨ 0 < k + 1 ∧ Lo.lat ds k = Lo.lat ds (k + 1 - 1)) := hide (Or.inr ⟨by omega, rfl⟩)
      change wr.cell? _ = some (.int .i64 (Lo.fn nd k)) at r1
      generalize Bx.lev (Lo.lat ds) (Lo.fn nd) k (Lo.lat ds k) = V at *
      change 0 ≤ Lo.fn nd k at p0
      change Lo.fn nd k ≤ 20 at p1
      generalize Lo.fn nd k = p at *
      obtain ⟨q, hq⟩ : ∃ q, q = Lo.lat ds k := ⟨_, rfl⟩
      rw [← hq] at HLa HLQ hql c0 f0 st1
      have HST := hide st1
      have HB3 := hide (HB.out.setCell (p := ⟨w.heap.size, q, none⟩) (Nat.le_refl _) (.int .i64 (V + p)))
      have q0 : (0 : Int) ≤ (q : Int) := by omega
      have q1 : (q : Int) < (n : Int) := by omega
      have V1 : V ≤ 1000 := by omega
      clear hmk st1 st2 HO HSET hq HL v1
      cases hcon : ds.contains (k : Int)
      · rw [hcon] at HLa HCN
        have hlq := HLa.out
        simp only [Bool.false_eq_true, if_false] at hlq
        subst hlq
        clear HLa
        go_wp2_with fail
        refine HCN.out.mono ?_
        rintro e w1 ⟨rfl, hw1⟩
        obtain rfl := hw1.symm
        go_wp2_with fail
        exact ⟨⟨k + 1, l, rfl, by go_num, by omega, HLQ, HST, HB3, by simpa using hz⟩, by simp only [intOf]; omega⟩
      · rw [hcon] at HLa HCN
        have hlq := HLa.out
        simp only [if_true] at hlq
        subst hlq
        clear HLa
        go_wp2_with fail
        refine HCN.out.mono ?_
        rintro e w1 ⟨rfl, hw1⟩
        obtain rfl := hw1.symm
        go_wp2_with fail
        exact ⟨⟨k + 1, k, rfl, by go_num, by omega, HLQ, HST, HB3, by simpa using hz⟩, by simp only [intOf]; omega⟩
    · have hke : k = n := by omega
      subst hke
      have HE := hide (show wr.ownsRow w.heap.size 3 1 (.slice (some ⟨w.heap.size, 0, none⟩) k k) k (ints (Lo.lotsL nd ds)) by have := HO.out; rw [show Lo.lotsL nd ds = Lo.lotsT nd ds k by rw [← HN.out]; rfl]; exact this)
      clear hmk
      go_wp2_with fail
      go_ret
      exact ⟨rfl, HB.out, hz, HE.out⟩
theorem lo_av {a a' : Option Addr} {n c m c' : Nat} {nd ds : List Int} {w : World} (HN : Hid (nd.length = n)) (HM : Hid (ds.length = m)) (hn : n ≤ 10) (hm : m ≤ 1048576) (HA : Hid (ARow w a nd)) (HA' : Hid (ARow w a' ds)) (hb : Pf.allB nd 0 20 = true) :
    Calls Try.prog 41 #[.slice a n c, .slice a' m c'] w fun e w' => ∃ b, e = .returned (.slice (some ⟨b, 0, none⟩) n n) ∧ Below w.heap.size w w' ∧ AV w' w.heap.size w'.heap.size (.slice (some ⟨b, 0, none⟩) n n) n (Lo.lotsL nd ds) :=
  (lo_own HN HM hn hm HA HA' hb).mono fun _ _ h => ⟨_, h.1, h.2.1, AV.new h.2.2.2⟩
set_option maxRecDepth 100000 in
set_option maxHeartbeats 4000000 in
theorem sfor_any {a a' : Option Addr} {n c m c' : Nat} {S K : Int} {nd ds : List Int} {w : World} (HN : Hid (nd.length = n)) (HM : Hid (ds.length = m)) (hn : n ≤ 10) (hd : Lo.dayB ds n = true) (HA : Hid (ARow w a nd)) (HA' : Hid (ARow w a' ds)) (hb : Pf.allB nd 0 20 = true) :
    Calls Try.prog 44 #[.agg #[.slice a n c, .int .i64 S, .int .i64 K], .slice a' m c'] w fun e w' => ∃ b, e = .returned (.slice (some ⟨b, 0, none⟩) n n) ∧ Below w.heap.size w w' ∧ AV w' w.heap.size w'.heap.size (.slice (some ⟨b, 0, none⟩) n n) n (Lo.lotsL nd ds) := by
  have hB0 := below_new w (.cells #[.slice a n c, .int .i64 S, .int .i64 K] 25)
  have pb0 := TBox.new w (.slice a n c) (.int .i64 S) (.int .i64 K) 25
  obtain ⟨w0, hw0⟩ : ∃ W, W = w.alloc (.cells #[.slice a n c, .int .i64 S, .int .i64 K] 25) := ⟨_, rfl⟩
  rw [← hw0] at hB0 pb0
  have HW0 := hide hw0.symm
  obtain ⟨B, hB⟩ : ∃ b, b = w.heap.size := ⟨_, rfl⟩
  rw [← hB] at pb0
  have HBe := hide hB.symm
  have PB := hide pb0
  have R0 := hide (HA.out.below hB0)
  have R1 := hide (HA'.out.below hB0)
  have HB0 := hide hB0
  have hm10 : m ≤ n := by have := Lo.day_le hd; rw [HM.out] at this; exact this
  have hmk := makeI_run n (by omega)
  have HP := hide fun (k : Nat) (hk : k < n) => Pf.inB_yes (Pf.allB_get hb (show k < nd.length by rw [HN.out]; exact hk))
  have HSB := hide fun (d k : Nat) (h1 : d ≤ k) (hk : k ≤ n) => Lo.seg_bd hb h1 (show k ≤ nd.length by rw [HN.out]; exact hk)
  have HSG := hide fun (i : Nat) (hi : i < m) => Lo.seg_day hd (show i < ds.length by rw [HM.out]; exact hi)
  have HDA : Hid (∀ i, i < m → ds.getD i 0 = ((Lo.bnd ds n i : Nat) : Int)) := hide fun i hi => by
    have hi' : i < ds.length := by rw [HM.out]; exact hi
    obtain ⟨d, e, _⟩ := Lo.day_at hd hi'
    rw [Lo.bnd_lt hi', e]; rfl
  have HZ := hide (Lo.bnd_zero hd)
  have HEN : Hid (Lo.bnd ds n m = n) := hide (by have := Lo.bnd_all ds n; rwa [HM.out] at this)
  have H0 := hide (Lo.day_zero hd)
  have HMO := hide (made_own w0 n (by omega))
  have z0 : w.heap.size < w0.heap.size := by rw [hw0]; simp
  clear hw0 hB pb0 hB0 HA HA' hd hb
  go_enter Try.func44, Try.ntmps44
  go_upto_region 1 with fail
  rw [HW0.out, HBe.out]
  clear HW0 HBe
  obtain ⟨p0, p1, p2, _⟩ := PB.out
  go_wp2_with fail
  clear p0 p1 p2
  go_loopw [6, 7, 8, 9, 16] (fun _ _ _ _ s wr => ∃ (i : Nat), s = .int .i64 i ∧ i ≤ m ∧ Hid (wr.ownsRow w0.heap.size 3 1 (.slice (some ⟨w0.heap.size, 0, none⟩) n n) n (ints (Lo.midT nd ds (Lo.bnd ds n i) (Lo.bnd ds n i)))) ∧ Hid (Below w0.heap.size w0 wr) ∧ w0.heap.size < wr.heap.size) (fun _ _ _ _ s _ => m - (intOf s).toNat)
  case atStart => exact ⟨0, rfl, Nat.zero_le _, hide (by rw [HZ.out, Lo.midT_zero, HN.out]; exact HMO.out), hide (below_new _ _), by simp⟩
  case round =>
    clear HMO
    obtain ⟨i, rfl, hi, HO, HB, hz⟩ := hrel
    by_cases hlt : i < m
    · obtain ⟨b1, o1, rfl, r1⟩ := (R1.out.below HB.out).at (i := i) (by rw [HM.out]; exact hlt)
      have sg := HSG.out i hlt
      have SG := hide sg
      have sg1 := sg.lt
      have sg2 := sg.tn
      rw [HDA.out i hlt] at r1
      have i0 : (0 : Int) ≤ (i : Int) := by omega
      have i1 : (i : Int) < (m : Int) := by omega
      obtain ⟨p0, p1, p2, _⟩ := PB.out.below HB.out
      have HNX : Hid (i + 1 < m → (R1.out.below HB.out).at (i := i + 1) = (R1.out.below HB.out).at (i := i + 1)) := hide fun _ => rfl
      have r2 : i + 1 < m → wr.cell? ⟨b1, o1 + (i + 1), none⟩ = some (.int .i64 ((Lo.bnd ds n (i + 1) : Nat) : Int)) := fun h => by
        obtain ⟨b2, o2, e2, r2⟩ := (R1.out.below HB.out).at (i := i + 1) (by rw [HM.out]; exact h)
        cases e2
        rw [r2, HDA.out _ h]
      have HLE : Hid (¬ i + 1 < m → Lo.bnd ds n (i + 1) = n) := hide fun h => by rw [show i + 1 = m by omega]; exact HEN.out
      obtain ⟨t, ht⟩ : ∃ t, Lo.bnd ds n (i + 1) = t := ⟨_, rfl⟩
      obtain ⟨d, hd⟩ : ∃ d, Lo.bnd ds n i = d := ⟨_, rfl⟩
      rw [hd] at r1 HO SG sg1
      rw [ht] at SG sg1 sg2
      have HK : Hid (∀ {W : World}, W.ownsRow w0.heap.size 3 1 (.slice (some ⟨w0.heap.size, 0, none⟩) n n) n (ints (Lo.midT nd ds t t)) → Hid (W.ownsRow w0.heap.size 3 1 (.slice (some ⟨w0.heap.size, 0, none⟩) n n) n (ints (Lo.midT nd ds (Lo.bnd ds n (i + 1)) (Lo.bnd ds n (i + 1)))))) := hide fun h => hide (by rw [ht]; exact h)
      rw [ht] at r2 HLE
      clear ht hd sg HNX
      by_cases hnx : i + 1 < m
      · have q2 := r2 hnx
        have n1 : (i : Int) + 1 < (m : Int) := by omega
        have n0 : (0 : Int) ≤ (i : Int) + 1 := by omega
        go_wp2_with fail
        go_loopw [9] (fun s9 wr => ∃ (k : Nat), s9 = .int .i64 k ∧ d ≤ k ∧ k ≤ t ∧ Hid (wr.ownsRow w0.heap.size 3 1 (.slice (some ⟨w0.heap.size, 0, none⟩) n n) n (ints (Lo.midT nd ds d k))) ∧ Hid (Below w0.heap.size w0 wr) ∧ w0.heap.size < wr.heap.size) (fun s9 _ => t - (intOf s9).toNat)
        case atStart => exact ⟨d, rfl, Nat.le_refl _, by omega, HO, HB, hz⟩
        case round =>
          clear HO HB hz p0 p1 p2 r1 r2
          obtain ⟨k, rfl, hdk, hkt, HO, HB, hz⟩ := hrel
          by_cases hkl : k < t
          · have hkn : k < n := by omega
            obtain ⟨b2, o2, rfl, r3⟩ := (R0.out.below HB.out).at (i := k) (by rw [HN.out]; exact hkn)
            obtain ⟨p0, p1, p2, _⟩ := PB.out.below HB.out
            have j0 : (0 : Int) ≤ (k : Int) := by omega
            have j1 : (k : Int) < (n : Int) := by omega
            have j2 : (k : Int) < (t : Int) := by omega
            have d0 : (0 : Int) ≤ (d : Int) := by omega
            have d1 : (d : Int) < (n : Int) := by omega
            obtain ⟨u0, u1⟩ := HP.out k hkn
            obtain ⟨v0, v1⟩ := HSB.out d k hdk (by omega)
            have c0 : wr.cell? ⟨w0.heap.size, d, none⟩ = some (.int .i64 (Lt.seg (Lo.fn nd) d k)) := by rw [HO.out.cellAt _ (by omega), ints_get _ _ (by rw [Lo.midT, Lo.tbl_len, HN.out]; omega), Lo.midT_at (by rw [HN.out]; omega)]
            have f0 := HO.out.frozenAt d
            obtain ⟨st1, st2⟩ := HO.out.stored d (.int .i64 (Lt.seg (Lo.fn nd) d k + Lo.fn nd k))
            rw [ints_set, Lo.midT_set] at st1
            change wr.cell? _ = some (.int .i64 (Lo.fn nd k)) at r3
            change 0 ≤ Lo.fn nd k at u0
            change Lo.fn nd k ≤ 20 at u1
            generalize Lt.seg (Lo.fn nd) d k = V at *
            generalize Lo.fn nd k = x at *
            have HST := hide st1
            have HB3 := hide (HB.out.setCell (p := ⟨w0.heap.size, d, none⟩) (Nat.le_refl _) (.int .i64 (V + x)))
            have V1 : V ≤ 1000 := by omega
            have e1 : IntKind.i64.wrap (V + x) = V + x := by rw [IntKind.wrap_i64]; omega
            clear hmk st1 st2 HO v1
            go_wp2_with fail
            go_region
            go_wp2_with fail
            go_roundw
            case rel => exact ⟨k + 1, by go_num, by omega, by omega, HST, hide HB3.out.drew, by simpa using hz⟩
            case measure => simp only [intOf]; omega
          · have hke : k = t := by omega
            subst hke
            have HO2 : Hid (wr.ownsRow w0.heap.size 3 1 (.slice (some ⟨w0.heap.size, 0, none⟩) n n) n (ints (Lo.midT nd ds k k))) := hide (by rw [← Lo.midT_next (by rw [HN.out]; exact SG.out) H0.out]; exact HO.out)
            go_wp2_with fail
            go_roundw
            case rel => exact ⟨i + 1, by go_num, by omega, HK.out HO2.out, HB, hz⟩
            case measure => simp only [intOf]; omega
      · have n1 : ¬ (i : Int) + 1 < (m : Int) := by omega
        have HT2 := HLE.out hnx
        have HT3 := hide HT2
        clear HT2
        go_wp2_with fail
        go_loopw [9] (fun s9 wr => ∃ (k : Nat), s9 = .int .i64 k ∧ d ≤ k ∧ k ≤ t ∧ Hid (wr.ownsRow w0.heap.size 3 1 (.slice (some ⟨w0.heap.size, 0, none⟩) n n) n (ints (Lo.midT nd ds d k))) ∧ Hid (Below w0.heap.size w0 wr) ∧ w0.heap.size < wr.heap.size) (fun s9 _ => t - (intOf s9).toNat)
        case atStart => exact ⟨d, rfl, Nat.le_refl _, by omega, HO, HB, hz⟩
        case round =>
          clear HO HB hz p0 p1 p2 r1 r2
          obtain ⟨k, rfl, hdk, hkt, HO, HB, hz⟩ := hrel
          by_cases hkl : k < t
          · have hkn : k < n := by have := HT3.out; omega
            obtain ⟨b2, o2, rfl, r3⟩ := (R0.out.below HB.out).at (i := k) (by rw [HN.out]; exact hkn)
            obtain ⟨p0, p1, p2, _⟩ := PB.out.below HB.out
            have j0 : (0 : Int) ≤ (k : Int) := by omega
            have j1 : (k : Int) < (n : Int) := by omega
            have j2 : (k : Int) < (t : Int) := by omega
            have d0 : (0 : Int) ≤ (d : Int) := by omega
            have d1 : (d : Int) < (n : Int) := by omega
            obtain ⟨u0, u1⟩ := HP.out k hkn
            obtain ⟨v0, v1⟩ := HSB.out d k hdk (by omega)
            have c0 : wr.cell? ⟨w0.heap.size, d, none⟩ = some (.int .i64 (Lt.seg (Lo.fn nd) d k)) := by rw [HO.out.cellAt _ (by omega), ints_get _ _ (by rw [Lo.midT, Lo.tbl_len, HN.out]; omega), Lo.midT_at (by rw [HN.out]; omega)]
            have f0 := HO.out.frozenAt d
            obtain ⟨st1, st2⟩ := HO.out.stored d (.int .i64 (Lt.seg (Lo.fn nd) d k + Lo.fn nd k))
            rw [ints_set, Lo.midT_set] at st1
            change wr.cell? _ = some (.int .i64 (Lo.fn nd k)) at r3
            change 0 ≤ Lo.fn nd k at u0
            change Lo.fn nd k ≤ 20 at u1
            generalize Lt.seg (Lo.fn nd) d k = V at *
            generalize Lo.fn nd k = x at *
            have HST := hide st1
            have HB3 := hide (HB.out.setCell (p := ⟨w0.heap.size, d, none⟩) (Nat.le_refl _) (.int .i64 (V + x)))
            have V1 : V ≤ 1000 := by omega
            have e1 : IntKind.i64.wrap (V + x) = V + x := by rw [IntKind.wrap_i64]; omega
            clear hmk st1 st2 HO v1
            go_wp2_with fail
            go_region
            go_wp2_with fail
            go_roundw
            case rel => exact ⟨k + 1, by go_num, by omega, by omega, HST, hide HB3.out.drew, by simpa using hz⟩
            case measure => simp only [intOf]; omega
          · have hke : k = t := by omega
            subst hke
            have j3 : ¬ (k : Int) < (n : Int) := by have := HT3.out; omega
            have HO2 : Hid (wr.ownsRow w0.heap.size 3 1 (.slice (some ⟨w0.heap.size, 0, none⟩) n n) n (ints (Lo.midT nd ds k k))) := hide (by rw [← Lo.midT_next (by rw [HN.out]; exact SG.out) H0.out]; exact HO.out)
            go_wp2_with fail
            go_roundw
            case rel => exact ⟨i + 1, by go_num, by omega, HK.out HO2.out, HB, hz⟩
            case measure => simp only [intOf]; omega
    · have hke : i = m := by omega
      subst hke
      have HE := hide (show wr.ownsRow w0.heap.size 3 1 (.slice (some ⟨w0.heap.size, 0, none⟩) n n) n (ints (Lo.lotsL nd ds)) by have := HO.out; rw [HEN.out] at this; rwa [show Lo.lotsL nd ds = Lo.midT nd ds n n by rw [← HN.out, Lo.midT_all]])
      have HBB := hide (HB0.out.trans (HB.out.mono HB0.out.size))
      clear hmk
      go_wp2_with fail
      go_ret
      exact ⟨_, rfl, HBB.out, owns_low HE.out (by omega), fun g hg => by cases hg; exact hz, Nat.le_refl _⟩
end Go.Proofs.Ytebohpgdhbammaa
namespace Go.Proofs.Ytebohpgdhbammaa
namespace Lo
open Lt
open Bx (sumTo lev)
theorem kp_bd {nd : Nat → Int} {n : Nat} (hn : n ≤ 10) (h : ∀ i, i < n → 0 ≤ nd i ∧ nd i ≤ 20) {d t : Nat} (ht : t ≤ n) : 0 ≤ kp nd d t ∧ kp nd d t ≤ 2000 := by
  have := sum_bd (f := fun k => if d ≤ k then nd k * ((k : Int) - (d : Int)) else 0) (lo := 0) (hi := 200) t fun i hi => by
    have h1 := h i (by omega)
    show 0 ≤ (if d ≤ i then nd i * ((i : Int) - (d : Int)) else 0) ∧ (if d ≤ i then nd i * ((i : Int) - (d : Int)) else 0) ≤ 200
    split
    · exact ⟨Int.mul_nonneg h1.1 (by omega), Int.le_trans (Int.mul_le_mul h1.2 (show (i : Int) - (d : Int) ≤ 10 by omega) (by omega) (by omega)) (by omega)⟩
    · omega
  have e : kp nd d t = sumTo (fun k => if d ≤ k then nd k * ((k : Int) - (d : Int)) else 0) t := rfl
  rw [e]; omega
theorem kp_self (nd : Nat → Int) (d : Nat) : ∀ k, k ≤ d → kp nd d k = 0
  | 0, _ => rfl
  | k + 1, h => by
    have e : kp nd d (k + 1) = kp nd d k + if d ≤ k then nd k * ((k : Int) - (d : Int)) else 0 := rfl
    rw [e, kp_self nd d k (by omega), if_neg (by omega)]; rfl
theorem kp_succ {nd : Nat → Int} {d k : Nat} (h : d ≤ k) : kp nd d (k + 1) = kp nd d k + nd k * ((k : Int) - (d : Int)) := by
  have e : kp nd d (k + 1) = kp nd d k + if d ≤ k then nd k * ((k : Int) - (d : Int)) else 0 := rfl
  rw [e, if_pos h]
theorem seg_succ (nd : Nat → Int) (d k : Nat) : seg nd d (k + 1) = seg nd d k + nd k := by unfold seg; simp only [sumTo]; omega
theorem seg_self (nd : Nat → Int) (d : Nat) : seg nd d d = 0 := by unfold seg; omega
theorem one_bd {S K : Int} {nd : Nat → Int} {n : Nat} (hn : n ≤ 10) (s0 : 0 ≤ S) (s1 : S ≤ 100) (k0 : 0 ≤ K) (k1 : K ≤ 10) (h : ∀ i, i < n → 0 ≤ nd i ∧ nd i ≤ 20) {d t : Nat} (ht : t ≤ n) : 0 ≤ one S K nd d t ∧ one S K nd d t ≤ 20100 := by
  obtain ⟨h1, h2⟩ := kp_bd hn h (d := d) ht
  have h3 := Int.mul_nonneg k0 h1
  have h4 : K * kp nd d t ≤ 10 * 2000 := Int.mul_le_mul k1 h2 h1 (by omega)
  unfold one
  split <;> omega
theorem T_bd {S K : Int} {nd : Nat → Int} {n : Nat} (hn : n ≤ 10) (s0 : 0 ≤ S) (s1 : S ≤ 100) (k0 : 0 ≤ K) (k1 : K ≤ 10) (h : ∀ i, i < n → 0 ≤ nd i ∧ nd i ≤ 20) : ∀ t, t ≤ n → 0 ≤ T S K nd t ∧ T S K nd t ≤ 20100 := by
  intro t
  induction t using Nat.strongRecOn with
  | _ t ih =>
    intro ht
    by_cases e : t = 0
    · subst e; rw [T_zero]; omega
    · obtain ⟨d, h1, h2⟩ := T_is S K nd (t := t) (by omega)
      have a := ih d h1 (by omega)
      have b := one_bd hn s0 s1 k0 k1 h (d := d) ht
      have c := T_le S K nd (show 0 < t by omega)
      have f := one_bd hn s0 s1 k0 k1 h (d := 0) ht
      rw [T_zero] at c
      omega
theorem at_bd {S K : Int} {nd : Nat → Int} {n : Nat} (hn : n ≤ 10) (s0 : 0 ≤ S) (s1 : S ≤ 100) (k0 : 0 ≤ K) (k1 : K ≤ 10) (h : ∀ i, i < n → 0 ≤ nd i ∧ nd i ≤ 20) {d t : Nat} (ht : t ≤ n) (hd : d ≤ n) : 0 ≤ at_ S K nd t d ∧ at_ S K nd t d ≤ 40200 := by
  have a := T_bd hn s0 s1 k0 k1 h d hd
  have b := one_bd hn s0 s1 k0 k1 h (d := d) ht
  unfold at_; omega
/-- The days from d up to t. -/
def cutL (nd : List Int) (d t : Nat) : List Int := (nd.drop d).take (t - d)
theorem cut_len {nd : List Int} {d t : Nat} (h : d ≤ t) (ht : t ≤ nd.length) : (cutL nd d t).length = t - d := by simp [cutL]; omega
theorem cut_at {nd : List Int} {d t j : Nat} (hj : j < t - d) (ht : t ≤ nd.length) : (cutL nd d t).getD j 0 = nd.getD (d + j) 0 := by
  have h1 : j < (cutL nd d t).length := by rw [cut_len (by omega) ht]; exact hj
  rw [Pf.getD_lt _ 0 h1, Pf.getD_lt _ 0 (show d + j < nd.length by omega)]
  simp [cutL]
theorem cut_all {nd : List Int} {d t : Nat} (h : Pf.allB nd 0 20 = true) (hdt : d ≤ t) (ht : t ≤ nd.length) : Pf.allB (cutL nd d t) 0 20 = true := Pf.allB_of fun i hi => by
  rw [cut_len hdt ht] at hi
  rw [cut_at hi ht]
  exact Pf.allB_get h (by omega)
theorem cut_sum {nd : List Int} {d t : Nat} (ht : t ≤ nd.length) : ∀ j, j ≤ t - d → d ≤ t → sumTo (fn (cutL nd d t)) j = seg (fn nd) d (d + j)
  | 0, _, _ => by rw [Nat.add_zero, seg_self]; rfl
  | j + 1, hj, h => by
    simp only [sumTo]
    rw [cut_sum ht j (by omega) h, ← Nat.add_assoc, seg_succ]
    show _ + (cutL nd d t).getD j 0 = _
    rw [cut_at (by omega) ht]
theorem cut_kp {nd : List Int} {d t : Nat} (ht : t ≤ nd.length) : ∀ j, j ≤ t - d → d ≤ t → kp (fn (cutL nd d t)) 0 j = kp (fn nd) d (d + j)
  | 0, _, _ => by rw [Nat.add_zero, kp_self (fn nd) d d (Nat.le_refl _)]; rfl
  | j + 1, hj, h => by
    rw [kp_succ (Nat.zero_le _), cut_kp ht j (by omega) h, ← Nat.add_assoc, kp_succ (by omega)]
    have : fn (cutL nd d t) j = fn nd (d + j) := cut_at (by omega) ht
    rw [this]
    congr 2
    omega
theorem day0 {n : Nat} (h : 0 < n) : dayB [0] n = true := by
  simp only [dayB, List.length_cons, List.length_nil, Nat.zero_add, Nat.lt_add_one, decide_true, Bool.true_and, List.getD_cons_zero, beq_self_eq_true]
  refine List.all_eq_true.2 fun i hi => ?_
  have : i = 0 := by simpa using hi
  subst this
  exact Pf.inB_of (Int.le_refl _) (by simp; omega)
/-- What a lot on the first of some days for all of them costs. -/
theorem one_lot {nd : List Int} {S K : Int} {d t : Nat} (h : d < t) (ht : t ≤ nd.length) : cst S K (fn (cutL nd d t)) (fn (lotsL (cutL nd d t) [0])) (t - d) = one S K (fn nd) d t := by
  have hl := cut_len (nd := nd) (d := d) (t := t) (by omega) ht
  have h0 : ([0] : List Int).contains (0 : Int) = true := by simp
  have sg : Seg [0] (cutL nd d t).length 0 (t - d) := ⟨by omega, by omega, by simp, Or.inl hl.symm, fun x hx _ => by
    simp at hx; omega⟩
  obtain ⟨e1, e2⟩ := sg.lots h0
  rw [seg_cost (d := 0) (t := t - d) (by omega) rfl e1 e2]
  have a : seg (fn (cutL nd d t)) 0 (t - d) = seg (fn nd) d t := by
    have := cut_sum ht (t - d) (Nat.le_refl _) (by omega)
    rw [show d + (t - d) = t by omega] at this
    rw [← this]; unfold seg; simp only [sumTo]; omega
  have b : kp (fn (cutL nd d t)) 0 (t - d) = kp (fn nd) d t := by
    have := cut_kp ht (t - d) (Nat.le_refl _) (by omega)
    rwa [show d + (t - d) = t by omega] at this
  unfold one
  rw [a, b]
  show 0 + _ = _
  omega
end Lo
open Go.RowKit

set_option maxRecDepth 100000 in
set_option maxHeartbeats 4000000 in
theorem so14_any {a : Option Addr} {n c d t : Nat} {S K : Int} {nd : List Int} {w : World} (s0 : 0 ≤ S) (s1 : S ≤ 100) (k0 : 0 ≤ K) (k1 : K ≤ 10) (HN : Hid (nd.length = n)) (hn : n ≤ 10) (hdt : d ≤ t) (ht : t ≤ n) (HA : Hid (ARow w a nd)) (hb : Pf.allB nd 0 20 = true) :
    Calls Try.prog 43 #[.agg #[.slice a n c, .int .i64 S, .int .i64 K], .int .i64 (d : Int), .int .i64 (t : Int)] w fun e w' => e = .returned (.int .i64 (Lt.one S K (Lo.fn nd) d t)) ∧ Below w.heap.size w w' := by
  have hB0 := below_new w (.cells #[.slice a n c, .int .i64 S, .int .i64 K] 25)
  have pb0 := TBox.new w (.slice a n c) (.int .i64 S) (.int .i64 K) 25
  obtain ⟨w0, hw0⟩ : ∃ W, W = w.alloc (.cells #[.slice a n c, .int .i64 S, .int .i64 K] 25) := ⟨_, rfl⟩
  rw [← hw0] at hB0 pb0
  have HW0 := hide hw0.symm
  obtain ⟨B, hB⟩ : ∃ b, b = w.heap.size := ⟨_, rfl⟩
  rw [← hB] at pb0
  have HBe := hide hB.symm
  obtain ⟨p0, p1, p2, _⟩ := pb0
  have R0 := hide (HA.out.below hB0)
  have HB0 := hide hB0
  have HP := hide fun (k : Nat) (hk : k < n) => Pf.inB_yes (Pf.allB_get hb (show k < nd.length by rw [HN.out]; exact hk))
  have HSB := hide fun (d k : Nat) (h1 : d ≤ k) (hk : k ≤ n) => Lo.seg_bd hb h1 (show k ≤ nd.length by rw [HN.out]; exact hk)
  have HKB := hide fun (k : Nat) (hk : k ≤ n) => Lo.kp_bd (nd := Lo.fn nd) (n := n) hn HP.out (d := d) (t := k) hk
  have HKM := hide fun (x : Int) (h0 : 0 ≤ x) (h1 : x ≤ 2000) => show 0 ≤ K * x ∧ K * x ≤ 20000 from ⟨Int.mul_nonneg k0 h0, Int.le_trans (Int.mul_le_mul k1 h1 h0 (by omega)) (by omega)⟩
  have HK0 := hide k0
  clear hw0 hB hB0 HA hb k0
  go_enter Try.func43, Try.ntmps43
  go_upto_region 1 with fail
  rw [HW0.out, HBe.out]
  clear HW0 HBe
  go_wp2_with fail
  go_loopw [7, 8, 9] (fun s7 s8 s9 wr => ∃ (k q : Nat) (x y : Int), s7 = .int .i64 x ∧ s8 = .int .i64 y ∧ s9 = .int .i64 k ∧ wr = w0.drewN q ∧ d ≤ k ∧ k ≤ t ∧ Hid (x = K * Lt.kp (Lo.fn nd) d k) ∧ Hid (y = Lt.seg (Lo.fn nd) d k)) (fun _ _ s9 _ => t - (intOf s9).toNat)
  case atStart => exact ⟨d, 0, 0, 0, rfl, rfl, rfl, rfl, Nat.le_refl _, hdt, hide (by rw [Lo.kp_self _ _ _ (Nat.le_refl _)]; simp), hide (Lo.seg_self _ _).symm⟩
  case round =>
    obtain ⟨k, q, x, y, rfl, rfl, rfl, rfl, hdk, hkt, HX, HY⟩ := hrel
    by_cases hlt : k < t
    · have hkn : k < n := by omega
      obtain ⟨b1, o1, rfl, r1⟩ := R0.out.at (i := k) (by rw [HN.out]; exact hkn)
      have i0 : (0 : Int) ≤ (k : Int) := by omega
      have i1 : (k : Int) < (n : Int) := by omega
      have i2 : (k : Int) < (t : Int) := by omega
      obtain ⟨u0, u1⟩ := HP.out k hkn
      obtain ⟨v0, v1⟩ := HSB.out d k hdk (by omega)
      obtain ⟨z0, z1⟩ := HKB.out k (by omega)
      obtain ⟨m0, m1⟩ := HKM.out _ z0 z1
      rw [← HX.out] at m0 m1
      rw [← HY.out] at v0 v1
      have HE : Hid (x + K * nd.getD k 0 * ((k : Int) - (d : Int)) = K * Lt.kp (Lo.fn nd) d (k + 1)) := hide (by rw [Lo.kp_succ hdk, Int.mul_add, HX.out, Int.mul_assoc])
      have HE2 : Hid (y + nd.getD k 0 = Lt.seg (Lo.fn nd) d (k + 1)) := hide (by rw [Lo.seg_succ, HY.out])
      generalize nd.getD k 0 = p at *
      have w0_ : 0 ≤ K * p ∧ K * p ≤ 200 := ⟨Int.mul_nonneg HK0.out u0, Int.le_trans (Int.mul_le_mul k1 u1 u0 (by omega)) (by omega)⟩
      have w1_ : 0 ≤ K * p * ((k : Int) - (d : Int)) ∧ K * p * ((k : Int) - (d : Int)) ≤ 2000 := ⟨Int.mul_nonneg w0_.1 (by omega), Int.le_trans (Int.mul_le_mul w0_.2 (show (k : Int) - (d : Int) ≤ 10 by omega) (by omega) (by omega)) (by omega)⟩
      have e1 : IntKind.i64.wrap (K * p) = K * p := by rw [IntKind.wrap_i64]; omega
      have e2 : IntKind.i64.wrap ((k : Int) - (d : Int)) = (k : Int) - (d : Int) := by rw [IntKind.wrap_i64]; omega
      have e3 : IntKind.i64.wrap (K * p * ((k : Int) - (d : Int))) = K * p * ((k : Int) - (d : Int)) := by rw [IntKind.wrap_i64]; omega
      have e4 : IntKind.i64.wrap (x + K * p * ((k : Int) - (d : Int))) = x + K * p * ((k : Int) - (d : Int)) := by rw [IntKind.wrap_i64]; omega
      have y1 : y ≤ 1000 := by omega
      clear w0_ w1_ z0 z1 v1 HKM
      go_wp2_with fail
      go_quiet (fail)
      go_wp2_with fail
      go_roundw
      case rel => exact ⟨k + 1, _, x + K * p * ((k : Int) - (d : Int)), y + p, by go_num, by go_num, by go_num, rfl, by omega, by omega, HE, HE2⟩
      case measure => simp only [intOf]; omega
    · have hke : k = t := by omega
      subst hke
      have HBq := hide (show Below w.heap.size w (w0.drewN q) from below_drewN HB0.out q)
      obtain ⟨v0, v1⟩ := HSB.out d k hdk ht
      obtain ⟨z0, z1⟩ := HKB.out k ht
      obtain ⟨m0, m1⟩ := HKM.out _ z0 z1
      rw [← HX.out] at m0 m1
      have HF : Hid (Lt.one S K (Lo.fn nd) d k = x + if 0 < y then S else 0) := hide (by rw [HX.out, HY.out]; rfl)
      rw [← HY.out] at v0 v1
      clear z0 z1 v1 HKM
      by_cases hy : 0 < y
      · have HF2 : Hid (Lt.one S K (Lo.fn nd) d k = x + S) := hide (by rw [HF.out, if_pos hy])
        go_wp2_with fail
        go_ret
        exact ⟨ret_int HF2.out.symm, HBq.out⟩
      · have HF2 : Hid (Lt.one S K (Lo.fn nd) d k = x) := hide (by rw [HF.out, if_neg hy]; omega)
        go_wp2_with fail
        go_ret
        exact ⟨ret_int HF2.out.symm, HBq.out⟩
set_option maxRecDepth 100000 in
set_option maxHeartbeats 4000000 in
theorem oo_any {at_ a : Option Addr} {nt ct n c m : Nat} {S K : Int} {nd L : List Int} {d t : Nat} {w : World} (s0 : 0 ≤ S) (s1 : S ≤ 100) (k0 : 0 ≤ K) (k1 : K ≤ 10) (HN : Hid (nd.length = n)) (hn : n ≤ 10) (hdt : d < t) (ht : t ≤ n) (HL : Hid (L = Lo.cutL nd d t)) (HM : Hid (L.length = m)) (HA : Hid (ARow w a L)) (hb : Pf.allB nd 0 20 = true) :
    Calls Try.prog 60 #[.agg #[.func (.func 53) #[.agg #[.slice at_ nt ct, .int .i64 S, .int .i64 K]] #[], .func (.func 54) #[.agg #[.slice at_ nt ct, .int .i64 S, .int .i64 K]] #[]], .slice a m c] w fun e w' => e = .returned (.int .i64 (Lt.one S K (Lo.fn nd) d t)) ∧ Below w.heap.size w w' := by
  obtain ⟨F1, hF1⟩ : ∃ v, v = Value.func (.func 53) #[.agg #[.slice at_ nt ct, .int .i64 S, .int .i64 K]] #[] := ⟨_, rfl⟩
  obtain ⟨F2, hF2⟩ : ∃ v, v = Value.func (.func 54) #[.agg #[.slice at_ nt ct, .int .i64 S, .int .i64 K]] #[] := ⟨_, rfl⟩
  have htl : t ≤ nd.length := by rw [HN.out]; exact ht
  have hm : m = t - d := by rw [← HM.out, HL.out, Lo.cut_len (by omega) htl]
  have hm10 : m ≤ 10 := by omega
  have hLb : Pf.allB L 0 20 = true := by rw [HL.out]; exact Lo.cut_all hb (by omega) htl
  have HV : Hid (Lt.cst S K (Lo.fn L) (Lo.fn (Lo.lotsL L [0])) m = Lt.one S K (Lo.fn nd) d t) := hide (by rw [HL.out, hm]; exact Lo.one_lot hdt htl)
  have HLL : Hid ((Lo.lotsL L [0]).length = m) := hide (by rw [Lo.lots_len, HM.out])
  have hLb2 : Pf.allB (Lo.lotsL L [0]) 0 200 = true := Pf.allB_of fun i hi => by
    rw [Lo.lots_len] at hi
    have h1 := Lo.lev_bd (D := [0]) hLb (Nat.le_refl _) i
    have h2 : (Lo.lotsL L [0]).getD i 0 = Bx.lev (Lo.lat [0]) (Lo.fn L) L.length i := Lo.lots_at hi
    have h3 := HM.out
    rw [h2]; exact Pf.inB_of h1.1 (by omega)
  have hB0 := below_new w (.cells #[Value.func (.func 53) #[.agg #[.slice at_ nt ct, .int .i64 S, .int .i64 K]] #[], Value.func (.func 54) #[.agg #[.slice at_ nt ct, .int .i64 S, .int .i64 K]] #[]] 51)
  have q0 : (w.alloc (.cells #[Value.func (.func 53) #[.agg #[.slice at_ nt ct, .int .i64 S, .int .i64 K]] #[], Value.func (.func 54) #[.agg #[.slice at_ nt ct, .int .i64 S, .int .i64 K]] #[]] 51)).cell? ⟨w.heap.size, 0, none⟩ = some (Value.func (.func 53) #[.agg #[.slice at_ nt ct, .int .i64 S, .int .i64 K]] #[]) := by simp
  have q1 : (w.alloc (.cells #[Value.func (.func 53) #[.agg #[.slice at_ nt ct, .int .i64 S, .int .i64 K]] #[], Value.func (.func 54) #[.agg #[.slice at_ nt ct, .int .i64 S, .int .i64 K]] #[]] 51)).cell? ⟨w.heap.size, 1, none⟩ = some (Value.func (.func 54) #[.agg #[.slice at_ nt ct, .int .i64 S, .int .i64 K]] #[]) := by simp
  have qz : w.heap.size < (w.alloc (.cells #[Value.func (.func 53) #[.agg #[.slice at_ nt ct, .int .i64 S, .int .i64 K]] #[], Value.func (.func 54) #[.agg #[.slice at_ nt ct, .int .i64 S, .int .i64 K]] #[]] 51)).heap.size := by simp
  obtain ⟨U, hU⟩ : ∃ U, U = w.alloc (.cells #[Value.func (.func 53) #[.agg #[.slice at_ nt ct, .int .i64 S, .int .i64 K]] #[], Value.func (.func 54) #[.agg #[.slice at_ nt ct, .int .i64 S, .int .i64 K]] #[]] 51) := ⟨_, rfl⟩
  rw [← hU] at hB0 q0 q1 qz
  obtain ⟨B, hB⟩ : ∃ b, b = w.heap.size := ⟨_, rfl⟩
  rw [← hB] at q0 q1 qz
  have HU := hide hU.symm
  have HBe := hide hB.symm
  have HB0 := hide hB0
  have R0 := hide (HA.out.below hB0)
  have HZ := hide fun (W : World) (h : Below U.heap.size U W) (a' : Option Addr) (c' : Nat) (r : ARow W a' [0]) => lo_av (w := W) (c := c) (c' := c') (m := 1) (ds := [0]) HM (hide rfl) hm10 (by omega) (hide (R0.out.below h)) (hide r) hLb
  have HOL := hide fun (W : World) (h : Below U.heap.size U W) (a' : Option Addr) (r : ARow W a' (Lo.lotsL L [0])) => ol_any (at_ := at_) (nt := nt) (ct := ct) (c := c) (c' := m) (w := W) s0 s1 k0 k1 HM HLL hm10 (hide (R0.out.below h)) (hide r) hLb hLb2
  rw [HV.out] at HOL
  have HST : Hid (∀ W1 W2, Below U.heap.size U W1 → Below W1.heap.size W1 W2 → W2.cell? ⟨B, 0, none⟩ = some (Value.func (.func 53) #[.agg #[.slice at_ nt ct, .int .i64 S, .int .i64 K]] #[]) ∧ W2.cell? ⟨B, 1, none⟩ = some (Value.func (.func 54) #[.agg #[.slice at_ nt ct, .int .i64 S, .int .i64 K]] #[]) ∧ Below U.heap.size U W2) := hide fun W1 W2 h1 h2 => by
    have h := h1.trans (h2.mono h1.size)
    exact ⟨(h.cell (p := ⟨B, 0, none⟩) qz).trans q0, (h.cell (p := ⟨B, 1, none⟩) qz).trans q1, h⟩
  have HRow := hide fun (W : World) (e : TypeId) => show ARow (W.alloc (.cells #[.int .i64 0] e)) (some ⟨W.heap.size, 0, none⟩) [0] from Or.inr ⟨W.heap.size, 0, rfl, by simp, fun i hi => by
    have : i = 0 := by simpa using hi
    subst this; simp⟩
  have hS0 := HST.out U U.drew (Below.refl _ _) (Below.refl _ _).drew
  clear hb hLb hLb2 hB0 q0 q1 qz hB hU hF1 hF2 k0 k1 s0 s1 htl hm hdt ht HV HL HA
  generalize Lt.one S K (Lo.fn nd) d t = V at *
  go_enter Try.func60, Try.ntmps60
  go_upto_region 1 with fail
  rw [HU.out, HBe.out]
  clear HU HBe
  go_region_held3 (fun w' => w'.cell? ⟨B, 0, none⟩ = some (Value.func (.func 53) #[.agg #[.slice at_ nt ct, .int .i64 S, .int .i64 K]] #[]) ∧ w'.cell? ⟨B, 1, none⟩ = some (Value.func (.func 54) #[.agg #[.slice at_ nt ct, .int .i64 S, .int .i64 K]] #[]) ∧ Below U.heap.size U w')
    (first | exact hS0 | assumption | exact HST.out _ _ (‹_ ∧ _ ∧ _›).2.2 (below_new _ _) | fail)
    (first
    | (go_at_call 41; obtain ⟨_, _, hbS⟩ := ‹_ ∧ _ ∧ _›; refine (HZ.out _ hbS _ _ (HRow.out U 3)).mono ?_; rintro e w3 ⟨b3, rfl, hb3, o3⟩; have R3 := hide (arow_owns HLL.out.symm o3.1); clear o3; have hS3 := HST.out _ _ hbS hb3)
    | (go_at_call 31; obtain ⟨_, _, hbT⟩ := ‹_ ∧ _ ∧ _›; refine (HOL.out _ hbT _ R3.out).mono ?_; rintro e w4 ⟨rfl, hb4⟩; have hS4 := HST.out _ _ hbT hb4)
    | fail)
  obtain ⟨_, _, hbE⟩ := ‹_ ∧ _ ∧ _›
  have HBE := hide (HB0.out.trans (hbE.mono HB0.out.size))
  clear hbE hb3 hb4 hbS hbT hS3 hS4 hS0
  go_wp2_with fail
  go_ret
  exact ⟨rfl, HBE.out⟩
end Go.Proofs.Ytebohpgdhbammaa
namespace Go.Proofs.Ytebohpgdhbammaa
namespace Lo
open Lt
open Bx (sumTo lev)
theorem lfL_yes {nd ds : List Int} {S K : Int} (h : lfB nd S K ds = true) : lfL nd S K ds = lotsL nd ds := by rw [lfL, if_pos h]
theorem lfL_no {nd ds : List Int} {S K : Int} (h : lfB nd S K ds = false) : lfL nd S K ds = [] := by rw [lfL, h]; rfl
def nums (n : Nat) : List Int := tbl n fun i => (i : Int)
theorem nums_len (n : Nat) : (nums n).length = n := tbl_len _ _
theorem nums_has {n k : Nat} (h : k < n) : (nums n).contains (k : Int) = true := by
  rw [List.contains_eq_mem, decide_eq_true_eq]
  exact List.mem_map.2 ⟨k, by simpa using h, rfl⟩
theorem nums_days {n : Nat} (h : 0 < n) : dayB (nums n) n = true := by
  have h0 : (nums n).getD 0 0 = 0 := by rw [nums, tbl_get _ h]; rfl
  simp only [dayB, nums_len, h, h0, decide_true, Bool.true_and, beq_self_eq_true]
  refine List.all_eq_true.2 fun i hi => ?_
  have hi' : i < n := by simpa [nums_len] using hi
  unfold Ma.riseAt Ma.least
  rw [nums, tbl_get _ hi']
  refine Pf.inB_of ?_ (by omega)
  split
  · omega
  · rw [tbl_get _ (by omega)]; omega
theorem nums_lots (nd : List Int) : lotsL nd (nums nd.length) = nd := by
  have : lotsL nd (nums nd.length) = tbl nd.length (fn nd) := tbl_eq fun d hd => by
    refine Bx.lev_only hd (lat_self (nums_has hd)) fun j hj hne => ?_
    rw [lat_self (nums_has hj)]; exact hne
  rw [this, tbl_self]
end Lo
open Go.RowKit
theorem av_nil14 (w : World) (lo : Nat) : AV w lo w.heap.size (.slice none 0 0) 0 [] := ⟨World.ownsRow_nil _ _ _ _, fun g hg => by simp [Value.ownBlock] at hg, Nat.le_refl _⟩
/-- What a function with a list and a word of it answers. -/
def LB14 (w : World) (G : Bool) (Y : List Int) (e : Ending) (w' : World) : Prop := ∃ v, e = .returned (.tuple #[v, .bool G]) ∧ Below w.heap.size w w' ∧ AV w' w.heap.size w'.heap.size v Y.length Y

set_option maxRecDepth 100000 in
set_option maxHeartbeats 4000000 in
theorem lf_w {a a' : Option Addr} {n c m c' : Nat} {xs ds : List Int} {S K : Int} {w : World} (HN : Hid (xs.length = n)) (HM : Hid (ds.length = m)) (hm : m ≤ 1048576) (HA : Hid (ARow w a xs)) (HA' : Hid (ARow w a' ds)) :
    Calls Try.prog 19 #[.agg #[.slice a n c, .int .i64 S, .int .i64 K], .slice a' m c'] w fun e w' => LB14 w (Lo.lfB xs S K ds) (Lo.lfL xs S K ds) e w' := by
  have hB0 := below_new w (.cells #[.slice a n c, .int .i64 S, .int .i64 K] 25)
  have pb0 := TBox.new w (.slice a n c) (.int .i64 S) (.int .i64 K) 25
  obtain ⟨w0, hw0⟩ : ∃ W, W = w.alloc (.cells #[.slice a n c, .int .i64 S, .int .i64 K] 25) := ⟨_, rfl⟩
  rw [← hw0] at hB0 pb0
  have HW0 := hide hw0.symm
  obtain ⟨B, hB⟩ : ∃ b, b = w.heap.size := ⟨_, rfl⟩
  rw [← hB] at pb0
  have HBe := hide hB.symm
  have PB := hide pb0
  have R0 := hide (HA.out.below hB0)
  have R1 := hide (HA'.out.below hB0)
  have HB0 := hide hB0
  clear hw0 hB pb0 hB0 HA HA'
  have HNO : Hid (∀ W, Below w.heap.size w W → Lo.lfB xs S K ds = false → LB14 w (Lo.lfB xs S K ds) (Lo.lfL xs S K ds) (.returned (.tuple #[.slice none 0 0, .bool false])) W) := hide fun W h e => by
    rw [e, Lo.lfL_no e]
    exact ⟨_, rfl, h, ⟨World.ownsRow_nil _ _ _ _, fun g hg => by simp [Value.ownBlock] at hg, Nat.le_refl _⟩⟩
  obtain ⟨GG, hP⟩ : ∃ G, G = Lo.lfB xs S K ds := ⟨_, rfl⟩
  obtain ⟨YY, hY⟩ : ∃ G, G = Lo.lfL xs S K ds := ⟨_, rfl⟩
  rw [← hP, ← hY] at HNO ⊢
  cases hg : Lo.goodB xs S K
  · have HG := hide hg
    have HF : Hid (GG = false) := hide (by simp [hP, Lo.lfB, hg])
    obtain ⟨p0, p1, p2, _⟩ := PB.out
    clear hg hP hY
    go_enter Try.func19, Try.ntmps19
    go_upto_region 1 with fail
    rw [HW0.out, HBe.out]
    clear HW0 HBe
    go_wp2_with fail
    refine (gt_eq HN R0 HG).mono ?_
    rintro e w1 ⟨rfl, hb1⟩
    have HB1 := hide (HB0.out.trans (hb1.mono HB0.out.size))
    clear hb1
    go_wp2_with fail
    go_ret2
    exact HNO.out _ HB1.out HF.out
  · have HG := hide hg
    have g := Lo.good_of hg
    obtain ⟨n1, n10, hall, _⟩ := g
    rw [HN.out] at n1 n10
    cases hd : Lo.dayB ds n
    · have HF : Hid (GG = false) := hide (by simp [hP, Lo.lfB, hg, HN.out, hd])
      have HD : Hid ((decide (0 < ds.length) && (ds.getD 0 0 == 0) && Ma.riseB ds n) = false) := hide hd
      obtain ⟨p0, p1, p2, _⟩ := PB.out
      clear hg hP hY hd hall
      go_enter Try.func19, Try.ntmps19
      go_upto_region 1 with fail
      rw [HW0.out, HBe.out]
      clear HW0 HBe
      go_wp2_with fail
      refine (gt_eq HN R0 HG).mono ?_
      rintro e w1 ⟨rfl, hb1⟩
      have HB1 := hide (HB0.out.trans (hb1.mono HB0.out.size))
      have R1x := hide (R1.out.below hb1)
      obtain ⟨p0, p1, p2, _⟩ := PB.out.below hb1
      clear hb1
      go_wp2_with fail
      refine (rf0_eq rfl HM hm (by omega) R1x HD).mono ?_
      rintro e w2 ⟨rfl, hw2⟩
      obtain rfl := hw2.symm
      go_wp2_with fail
      go_ret2
      exact HNO.out _ HB1.out HF.out
    · have hF : Lo.lfB xs S K ds = true := by simp [Lo.lfB, hg, HN.out, hd]
      have HD : Hid ((decide (0 < ds.length) && (ds.getD 0 0 == 0) && Ma.riseB ds n) = true) := hide hd
      have HLO := hide fun (W : World) (r0 : Hid (ARow W a xs)) (r1 : Hid (ARow W a' ds)) => lo_av (w := W) (c := c) (c' := c') HN HM n10 hm r0 r1 hall
      have HYES : Hid (∀ v W, Below w.heap.size w W → (∃ lo hi, w.heap.size ≤ lo ∧ AV W lo hi v n (Lo.lotsL xs ds)) → LB14 w GG YY (.returned (.tuple #[v, .bool true])) W) := hide fun v W h ⟨lo, hi, h1, h2⟩ => by
        rw [hP, hY, hF, Lo.lfL_yes hF]
        refine ⟨v, rfl, h, ?_⟩
        rw [Lo.lots_len, HN.out]
        exact ⟨owns_low h2.1 h1, fun g hg => by have := (h2.1.lt g hg).2; exact this, Nat.le_refl _⟩
      obtain ⟨p0, p1, p2, _⟩ := PB.out
      clear hg hP hY hd hall HNO hF
      go_enter Try.func19, Try.ntmps19
      go_upto_region 1 with fail
      rw [HW0.out, HBe.out]
      clear HW0 HBe
      go_wp2_with fail
      refine (gt_eq HN R0 HG).mono ?_
      rintro e w1 ⟨rfl, hb1⟩
      have HB1 := hide (HB0.out.trans (hb1.mono HB0.out.size))
      have R0x := hide (R0.out.below hb1)
      have R1x := hide (R1.out.below hb1)
      obtain ⟨p0, p1, p2, _⟩ := PB.out.below hb1
      clear hb1
      go_wp2_with fail
      refine (rf0_eq rfl HM hm (by omega) R1x HD).mono ?_
      rintro e w2 ⟨rfl, hw2⟩
      obtain rfl := hw2.symm
      go_wp2_with fail
      refine (HLO.out _ R0x R1x).mono ?_
      rintro e w3 ⟨b3, rfl, hb3, o3⟩
      have HB3 := hide (HB1.out.trans (hb3.mono HB1.out.size))
      have HE := hide (show ∃ lo hi, w.heap.size ≤ lo ∧ AV w3 lo hi (.slice (some ⟨b3, 0, none⟩) n n) n (Lo.lotsL xs ds) from ⟨_, _, HB1.out.size, o3⟩)
      clear hb3 o3
      go_wp2_with fail
      go_ret2
      exact HYES.out _ _ HB3.out HE.out
theorem sri_z14 {a : Option Addr} {n c q : Nat} {z : Int} {l : List Int} {w : World} {r : Bool} (hz : z = (q : Int)) (hn : Hid (l.length = n)) (hl : n ≤ 1048576) (h : Hid (ARow w a l)) (hr : Hid (Ma.riseB l q = r)) :
    Calls Try.prog 47 #[.slice a n c, .int .i64 z] w fun e w' => e = .returned (.bool r) ∧ w' = w := hz ▸ sri_eq hn hl h hr
set_option maxRecDepth 100000 in
set_option maxHeartbeats 4000000 in
theorem slf_w {a a' : Option Addr} {n c m c' : Nat} {xs ds : List Int} {S K : Int} {w : World} (HN : Hid (xs.length = n)) (HM : Hid (ds.length = m)) (hm : m ≤ 1048576) (HA : Hid (ARow w a xs)) (HA' : Hid (ARow w a' ds)) :
    Calls Try.prog 20 #[.agg #[.slice a n c, .int .i64 S, .int .i64 K], .slice a' m c'] w fun e w' => LB14 w (Lo.lfB xs S K ds) (Lo.lfL xs S K ds) e w' := by
  have hB0 := below_new w (.cells #[.slice a n c, .int .i64 S, .int .i64 K] 25)
  have pb0 := TBox.new w (.slice a n c) (.int .i64 S) (.int .i64 K) 25
  obtain ⟨w0, hw0⟩ : ∃ W, W = w.alloc (.cells #[.slice a n c, .int .i64 S, .int .i64 K] 25) := ⟨_, rfl⟩
  rw [← hw0] at hB0 pb0
  have HW0 := hide hw0.symm
  obtain ⟨B, hB⟩ : ∃ b, b = w.heap.size := ⟨_, rfl⟩
  rw [← hB] at pb0
  have HBe := hide hB.symm
  have PB := hide pb0
  have R0 := hide (HA.out.below hB0)
  have R1 := hide (HA'.out.below hB0)
  have HB0 := hide hB0
  clear hw0 hB pb0 hB0 HA HA'
  have HNO : Hid (∀ W, Below w.heap.size w W → Lo.lfB xs S K ds = false → LB14 w (Lo.lfB xs S K ds) (Lo.lfL xs S K ds) (.returned (.tuple #[.slice none 0 0, .bool false])) W) := hide fun W h e => by
    rw [e, Lo.lfL_no e]
    exact ⟨_, rfl, h, ⟨World.ownsRow_nil _ _ _ _, fun g hg => by simp [Value.ownBlock] at hg, Nat.le_refl _⟩⟩
  obtain ⟨GG, hP⟩ : ∃ G, G = Lo.lfB xs S K ds := ⟨_, rfl⟩
  obtain ⟨YY, hY⟩ : ∃ G, G = Lo.lfL xs S K ds := ⟨_, rfl⟩
  rw [← hP, ← hY] at HNO ⊢
  cases hg : Lo.goodB xs S K
  · have HG := hide hg
    have HF : Hid (GG = false) := hide (by simp [hP, Lo.lfB, hg])
    obtain ⟨p0, p1, p2, _⟩ := PB.out
    clear hg hP hY
    go_enter Try.func20, Try.ntmps20
    go_upto_region 1 with fail
    rw [HW0.out, HBe.out]
    clear HW0 HBe
    go_wp2_with fail
    refine (sgt_eq HN R0 HG).mono ?_
    rintro e w1 ⟨rfl, hb1⟩
    have HB1 := hide (HB0.out.trans (hb1.mono HB0.out.size))
    clear hb1
    go_wp2_with fail
    go_ret2
    exact HNO.out _ HB1.out HF.out
  · have HG := hide hg
    have g := Lo.good_of hg
    obtain ⟨n1, n10, hall, _⟩ := g
    rw [HN.out] at n1 n10
    cases hr : Ma.riseB ds n
    · have HF : Hid (GG = false) := hide (by simp [hP, Lo.lfB, Lo.dayB, HN.out, hr])
      have HD := hide hr
      obtain ⟨p0, p1, p2, _⟩ := PB.out
      clear hg hP hY hr hall
      go_enter Try.func20, Try.ntmps20
      go_upto_region 1 with fail
      rw [HW0.out, HBe.out]
      clear HW0 HBe
      go_wp2_with fail
      refine (sgt_eq HN R0 HG).mono ?_
      rintro e w1 ⟨rfl, hb1⟩
      have HB1 := hide (HB0.out.trans (hb1.mono HB0.out.size))
      have R1x := hide (R1.out.below hb1)
      obtain ⟨p0, p1, p2, _⟩ := PB.out.below hb1
      clear hb1
      go_wp2_with fail
      refine (sri_z14 rfl HM hm R1x HD).mono ?_
      rintro e w2 ⟨rfl, hw2⟩
      obtain rfl := hw2.symm
      go_wp2_with fail
      go_ret2
      exact HNO.out _ HB1.out HF.out
    · have HD := hide hr
      by_cases hm0 : m = 0
      · subst hm0
        have HF : Hid (GG = false) := hide (by simp [hP, Lo.lfB, Lo.dayB, HM.out])
        obtain ⟨p0, p1, p2, _⟩ := PB.out
        clear hg hP hY hr hall
        go_enter Try.func20, Try.ntmps20
        go_upto_region 1 with fail
        rw [HW0.out, HBe.out]
        clear HW0 HBe
        go_wp2_with fail
        refine (sgt_eq HN R0 HG).mono ?_
        rintro e w1 ⟨rfl, hb1⟩
        have HB1 := hide (HB0.out.trans (hb1.mono HB0.out.size))
        have R1x := hide (R1.out.below hb1)
        obtain ⟨p0, p1, p2, _⟩ := PB.out.below hb1
        clear hb1
        go_wp2_with fail
        refine (sri_z14 rfl HM hm R1x HD).mono ?_
        rintro e w2 ⟨rfl, hw2⟩
        obtain rfl := hw2.symm
        go_wp2_with fail
        go_ret2
        exact HNO.out _ HB1.out HF.out
      · have m0 : ((m : Int) == (0 : Int)) = false := by simp; omega
        have m1 : (0 : Int) < (m : Int) := by omega
        obtain ⟨b3, o3, rfl, hl3, rr3⟩ := R1.out.resolve_left (by intro e; have := HM.out; rw [e] at this; simp at this; omega)
        have HR3 : Hid (∀ W, Below w0.heap.size w0 W → W.cell? ⟨b3, o3, none⟩ = some (.int .i64 (ds.getD 0 0))) := hide fun W h => by
          have := (h.cell (p := ⟨b3, o3 + 0, none⟩) hl3).trans (rr3 0 (by rw [HM.out]; omega))
          rwa [Nat.add_zero] at this
        clear rr3
        by_cases hz : ds.getD 0 0 = 0
        · have hd : Lo.dayB ds n = true := by
            simp only [Lo.dayB, hr, HM.out, hz, beq_self_eq_true, Bool.and_true, decide_eq_true_eq]; omega
          have hF : Lo.lfB xs S K ds = true := by simp [Lo.lfB, hg, HN.out, hd]
          have HLO := hide fun (W : World) (r0 : Hid (ARow W a xs)) (r1 : Hid (ARow W (some ⟨b3, o3, none⟩) ds)) => sfor_any (w := W) (c := c) (c' := c') (S := S) (K := K) HN HM n10 hd r0 r1 hall
          have HYES : Hid (∀ v W, Below w.heap.size w W → (∃ lo hi, w.heap.size ≤ lo ∧ AV W lo hi v n (Lo.lotsL xs ds)) → LB14 w GG YY (.returned (.tuple #[v, .bool true])) W) := hide fun v W h ⟨lo, hi, h1, h2⟩ => by
            rw [hP, hY, hF, Lo.lfL_yes hF]
            refine ⟨v, rfl, h, ?_⟩
            rw [Lo.lots_len, HN.out]
            exact ⟨owns_low h2.1 h1, fun g hg => by have := (h2.1.lt g hg).2; exact this, Nat.le_refl _⟩
          rw [hz] at HR3
          obtain ⟨p0, p1, p2, _⟩ := PB.out
          clear hg hP hY hd hall HNO hF hz hr
          go_enter Try.func20, Try.ntmps20
          go_upto_region 1 with fail
          rw [HW0.out, HBe.out]
          clear HW0 HBe
          go_wp2_with fail
          refine (sgt_eq HN R0 HG).mono ?_
          rintro e w1 ⟨rfl, hb1⟩
          have HB1 := hide (HB0.out.trans (hb1.mono HB0.out.size))
          have R0x := hide (R0.out.below hb1)
          have R1x := hide (R1.out.below hb1)
          have r3 := HR3.out _ hb1
          obtain ⟨p0, p1, p2, _⟩ := PB.out.below hb1
          clear hb1
          go_wp2_with fail
          refine (sri_z14 rfl HM hm R1x HD).mono ?_
          rintro e w2 ⟨rfl, hw2⟩
          obtain rfl := hw2.symm
          go_wp2_with fail
          refine (HLO.out _ R0x R1x).mono ?_
          rintro e w3 ⟨b4, rfl, hb3, o3⟩
          have HB3 := hide (HB1.out.trans (hb3.mono HB1.out.size))
          have HE := hide (show ∃ lo hi, w.heap.size ≤ lo ∧ AV w3 lo hi (.slice (some ⟨b4, 0, none⟩) n n) n (Lo.lotsL xs ds) from ⟨_, _, HB1.out.size, o3⟩)
          clear hb3 o3
          go_wp2_with fail
          go_ret2
          exact HYES.out _ _ HB3.out HE.out
        · have HF : Hid (GG = false) := hide (by simp only [hP, Lo.lfB, Lo.dayB, beq_eq_false_iff_ne.2 hz, Bool.and_false, Bool.false_and])
          have z1 : (ds.getD 0 0 != (0 : Int)) = true := by simpa using hz
          generalize ds.getD 0 0 = z at *
          obtain ⟨p0, p1, p2, _⟩ := PB.out
          clear hg hP hY hall hr hz
          go_enter Try.func20, Try.ntmps20
          go_upto_region 1 with fail
          rw [HW0.out, HBe.out]
          clear HW0 HBe
          go_wp2_with fail
          refine (sgt_eq HN R0 HG).mono ?_
          rintro e w1 ⟨rfl, hb1⟩
          have HB1 := hide (HB0.out.trans (hb1.mono HB0.out.size))
          have R1x := hide (R1.out.below hb1)
          have r3 := HR3.out _ hb1
          obtain ⟨p0, p1, p2, _⟩ := PB.out.below hb1
          clear hb1
          go_wp2_with fail
          refine (sri_z14 rfl HM hm R1x HD).mono ?_
          rintro e w2 ⟨rfl, hw2⟩
          obtain rfl := hw2.symm
          go_wp2_with fail
          go_ret2
          exact HNO.out _ HB1.out HF.out
end Go.Proofs.Ytebohpgdhbammaa
namespace Go.Proofs.Ytebohpgdhbammaa
namespace Lo
open Lt
open Bx (sumTo lev)
def cuL (S K : Int) (nd : List Int) (t : Nat) : List Int := tbl t fun d => at_ S K (fn nd) t d
theorem cuL_len (S K : Int) (nd : List Int) (t : Nat) : (cuL S K nd t).length = t := tbl_len _ _
theorem cuL_at {S K : Int} {nd : List Int} {t d : Nat} (h : d < t) : (cuL S K nd t).getD d 0 = at_ S K (fn nd) t d := tbl_get _ h
def cuT (S K : Int) (nd : List Int) (t k : Nat) : List Int := tbl t fun d => if d < k then at_ S K (fn nd) t d else 0
theorem cuT_zero (S K : Int) (nd : List Int) (t : Nat) : cuT S K nd t 0 = List.replicate t 0 := by
  rw [← tbl_zero]; exact tbl_eq fun i _ => by simp
theorem cuT_all (S K : Int) (nd : List Int) (t : Nat) : cuT S K nd t t = cuL S K nd t := tbl_eq fun i hi => by simp [hi]
theorem cuT_set (S K : Int) (nd : List Int) (t k : Nat) : (cuT S K nd t k).set k (at_ S K (fn nd) t k) = cuT S K nd t (k + 1) := tbl_set (by simp) fun j _ hj => by
  by_cases e : j < k
  · simp [e, show j < k + 1 by omega]
  · simp [e, show ¬ j < k + 1 by omega]
end Lo
open Go.RowKit
/-- What a cell holds. -/
def cv14 (w : World) (C k : Nat) : Value := (w.cell? ⟨C, k, none⟩).getD (.bool false)
theorem some14 {o : Option Value} {v : Value} (h : o = some v) : o.isSome = true := by rw [h]; rfl
theorem cv14_of {w : World} {C k : Nat} {v : Value} (h : w.cell? ⟨C, k, none⟩ = some v) : w.cell? ⟨C, k, none⟩ = some (cv14 w C k) := by rw [cv14, h]; rfl

set_option maxRecDepth 100000 in
set_option maxHeartbeats 8000000 in
theorem cu_any {a aT : Option Addr} {n c m cT t : Nat} {S K : Int} {nd TB : List Int} {w : World} (s0 : 0 ≤ S) (s1 : S ≤ 100) (k0 : 0 ≤ K) (k1 : K ≤ 10) (HN : Hid (nd.length = n)) (hn : n ≤ 10) (hc : n ≤ c) (ht : t ≤ n) (HM : Hid (TB.length = m)) (hm : t ≤ m) (HT : Hid (∀ d, d < t → TB.getD d 0 = Lt.T S K (Lo.fn nd) d)) (HA : Hid (ARow w a nd)) (HA' : Hid (ARow w aT TB)) (hb : Pf.allB nd 0 20 = true) :
    Calls Try.prog 55 #[.agg #[.slice a n c, .int .i64 S, .int .i64 K], .slice aT m cT, .int .i64 (t : Int)] w fun e w' => ∃ b, e = .returned (.slice (some ⟨b, 0, none⟩) t t) ∧ Below w.heap.size w w' ∧ AV w' w.heap.size w'.heap.size (.slice (some ⟨b, 0, none⟩) t t) t (Lo.cuL S K nd t) := by
  have hB0 := below_new w (.cells #[.slice a n c, .int .i64 S, .int .i64 K] 25)
  have pb0 := TBox.new w (.slice a n c) (.int .i64 S) (.int .i64 K) 25
  obtain ⟨w0, hw0⟩ : ∃ W, W = w.alloc (.cells #[.slice a n c, .int .i64 S, .int .i64 K] 25) := ⟨_, rfl⟩
  rw [← hw0] at hB0 pb0
  have HW0 := hide hw0.symm
  obtain ⟨B, hB⟩ : ∃ b, b = w.heap.size := ⟨_, rfl⟩
  rw [← hB] at pb0
  have HBe := hide hB.symm
  have hBw : B < w0.heap.size := pb0.2.2.2
  have PB := hide pb0
  have R0 := hide (HA.out.below hB0)
  have R1 := hide (HA'.out.below hB0)
  have HB0 := hide hB0
  have HMO := hide (made_own w0 t (by omega))
  have hmk := makeI_run t (by omega)
  have HP : ∀ i, i < n → 0 ≤ Lo.fn nd i ∧ Lo.fn nd i ≤ 20 := fun k hk => Pf.inB_yes (Pf.allB_get hb (show k < nd.length by rw [HN.out]; exact hk))
  have HTB := hide fun (d : Nat) (hd : d ≤ n) => Lo.T_bd hn s0 s1 k0 k1 HP d hd
  have HOB := hide fun (d : Nat) => Lo.one_bd hn s0 s1 k0 k1 HP (d := d) ht
  have HCo := hide fun (W : World) => co14_any (a := a) (n := n) (c := c) (S := S) (K := K) (w := W)
  have HOO := hide fun (W : World) (L : List Int) (d : Nat) (hd : d < t) (aL : Option Addr) (cL mL : Nat) (HL : Hid (L = Lo.cutL nd d t)) (HmL : Hid (L.length = mL)) (r : Hid (ARow W aL L)) => oo_any (at_ := a) (nt := n) (ct := c) (c := cL) (w := W) s0 s1 k0 k1 HN hn hd ht HL HmL r hb
  have z0 : w.heap.size < w0.heap.size := by rw [hw0]; simp
  clear hw0 hB pb0 hB0 HA HA' hb HP s0 s1 k0 k1
  go_enter Try.func55, Try.ntmps55
  go_upto_region 1 with fail
  rw [HW0.out, HBe.out]
  clear HW0 HBe
  go_wp2_with fail
  go_loopw [8, 13] (fun _ s wr => ∃ (k : Nat), s = .int .i64 k ∧ k ≤ t ∧ Hid (wr.ownsRow w0.heap.size 3 1 (.slice (some ⟨w0.heap.size, 0, none⟩) t t) t (ints (Lo.cuT S K nd t k))) ∧ Hid (Below w0.heap.size w0 wr) ∧ w0.heap.size < wr.heap.size) (fun _ s _ => t - (intOf s).toNat)
  case atStart => exact ⟨0, rfl, Nat.zero_le _, hide (by rw [Lo.cuT_zero]; exact HMO.out), hide (below_new _ _), by simp⟩
  case round =>
    clear HMO
    obtain ⟨k, rfl, hk, HO, HB, hz⟩ := hrel
    by_cases hlt : k < t
    · have hkn : k < n := by omega
      obtain ⟨b1, o1, rfl, hl1, rr1⟩ := R0.out.resolve_left (by intro e; have := HN.out; rw [e] at this; simp at this; omega)
      obtain ⟨b2, o2, rfl, hl2, rr2⟩ := R1.out.resolve_left (by intro e; have := HM.out; rw [e] at this; simp at this; omega)
      have i0 : (0 : Int) ≤ (k : Int) := by omega
      have i1 : (k : Int) < (t : Int) := by omega
      have i2 : (k : Int) < (m : Int) := by omega
      have i3 : (k : Int) ≤ (t : Int) := by omega
      have i4 : (t : Int) ≤ (c : Int) := by omega
      have i5 : ¬ c - k = 0 := by omega
      have i6 : ¬ c = k := by omega
      have HRC : Hid (∀ W, Below w0.heap.size w0 W → Hid (ARow W (some ⟨b1, o1 + k, none⟩) (Lo.cutL nd k t))) := hide fun W h => hide (Or.inr ⟨b1, o1 + k, rfl, Nat.lt_of_lt_of_le hl1 h.size, fun i hi => by
        rw [Lo.cut_len (by omega) (by rw [HN.out]; exact ht)] at hi
        rw [Lo.cut_at hi (by rw [HN.out]; exact ht), Nat.add_assoc]
        exact (h.cell (p := ⟨b1, o1 + (k + i), none⟩) hl1).trans (rr1 (k + i) (by rw [HN.out]; omega))⟩)
      have HCL : Hid ((Lo.cutL nd k t).length = t - k) := hide (Lo.cut_len (by omega) (by rw [HN.out]; exact ht))
      have HR2 : Hid (∀ W, Below w0.heap.size w0 W → W.cell? ⟨b2, o2 + k, none⟩ = some (.int .i64 (Lt.T S K (Lo.fn nd) k))) := hide fun W h => by
        rw [(h.cell (p := ⟨b2, o2 + k, none⟩) hl2).trans (rr2 k (by rw [HM.out]; omega)), HT.out k hlt]
      have HSET := hide (Lo.cuT_set S K nd t k)
      obtain ⟨u0, u1⟩ := HTB.out k (by omega)
      obtain ⟨v0, v1⟩ := HOB.out k
      have HAT : Hid (Lo.at_ S K (Lo.fn nd) t k = Lt.T S K (Lo.fn nd) k + Lt.one S K (Lo.fn nd) k t) := hide rfl
      rw [HAT.out] at HSET
      have HOK := hide fun (W : World) (h : Below w0.heap.size w0 W) => HOO.out W (Lo.cutL nd k t) k hlt (some ⟨b1, o1 + k, none⟩) (c - k) (t - k) (hide rfl) HCL (HRC.out W h)
      generalize Lt.T S K (Lo.fn nd) k = X at *
      generalize Lt.one S K (Lo.fn nd) k t = Y at *
      have e1 : IntKind.i64.wrap (X + Y) = X + Y := by rw [IntKind.wrap_i64]; omega
      have hCB : w0.heap.size ≠ B := by omega
      have HST : Hid (∀ W1 W2, Below w0.heap.size w0 W1 → Below W1.heap.size W1 W2 → w0.heap.size < W1.heap.size → (W1.cell? ⟨w0.heap.size, k, none⟩).isSome = true → W1.frozen? ⟨w0.heap.size, k, none⟩ = false → W2.cell? ⟨B, 0, none⟩ = some (.slice (some ⟨b1, o1, none⟩) n c) ∧ W2.cell? ⟨B, 1, none⟩ = some (.int .i64 S) ∧ W2.cell? ⟨B, 2, none⟩ = some (.int .i64 K) ∧ W2.cell? ⟨b2, o2 + k, none⟩ = some (.int .i64 X) ∧ W2.cell? ⟨w0.heap.size, k, none⟩ = some (cv14 W2 w0.heap.size k) ∧ W2.frozen? ⟨w0.heap.size, k, none⟩ = false ∧ w0.heap.size < W2.heap.size ∧ Below w0.heap.size w0 W2) := hide fun W1 W2 h1 h2 h3 h4 h5 => by
        have h := h1.trans (h2.mono h1.size)
        obtain ⟨x0, x1, x2, _⟩ := PB.out.below h
        obtain ⟨v, hv⟩ := Option.isSome_iff_exists.1 h4
        have h6 := (h2.cell (p := ⟨w0.heap.size, k, none⟩) h3).trans hv
        exact ⟨x0, x1, x2, HR2.out _ h, cv14_of h6, (h2.frozen (p := ⟨w0.heap.size, k, none⟩) h3).trans h5, Nat.lt_of_lt_of_le h3 h2.size, h⟩
      have HSC : Hid (∀ W V, W.cell? ⟨B, 0, none⟩ = some (.slice (some ⟨b1, o1, none⟩) n c) ∧ W.cell? ⟨B, 1, none⟩ = some (.int .i64 S) ∧ W.cell? ⟨B, 2, none⟩ = some (.int .i64 K) ∧ W.cell? ⟨b2, o2 + k, none⟩ = some (.int .i64 X) ∧ W.cell? ⟨w0.heap.size, k, none⟩ = some (cv14 W w0.heap.size k) ∧ W.frozen? ⟨w0.heap.size, k, none⟩ = false ∧ w0.heap.size < W.heap.size ∧ Below w0.heap.size w0 W →
          (W.setCell ⟨w0.heap.size, k, none⟩ V).cell? ⟨B, 0, none⟩ = some (.slice (some ⟨b1, o1, none⟩) n c) ∧ (W.setCell ⟨w0.heap.size, k, none⟩ V).cell? ⟨B, 1, none⟩ = some (.int .i64 S) ∧ (W.setCell ⟨w0.heap.size, k, none⟩ V).cell? ⟨B, 2, none⟩ = some (.int .i64 K) ∧ (W.setCell ⟨w0.heap.size, k, none⟩ V).cell? ⟨b2, o2 + k, none⟩ = some (.int .i64 X) ∧ (W.setCell ⟨w0.heap.size, k, none⟩ V).cell? ⟨w0.heap.size, k, none⟩ = some (cv14 (W.setCell ⟨w0.heap.size, k, none⟩ V) w0.heap.size k) ∧ (W.setCell ⟨w0.heap.size, k, none⟩ V).frozen? ⟨w0.heap.size, k, none⟩ = false ∧ w0.heap.size < (W.setCell ⟨w0.heap.size, k, none⟩ V).heap.size ∧ Below w0.heap.size w0 (W.setCell ⟨w0.heap.size, k, none⟩ V)) := hide fun W V ⟨_, _, _, _, h4, h5, h6, h7⟩ => by
        have h := h7.setCell (p := ⟨w0.heap.size, k, none⟩) (Nat.le_refl _) V
        obtain ⟨x0, x1, x2, _⟩ := PB.out.below h
        exact ⟨x0, x1, x2, HR2.out _ h, cv14_of (World.cell?_setCell_same _ _ _ h4), (World.frozen?_setCell ..).trans h5, by simpa using h6, h⟩
      have c0 : wr.cell? ⟨w0.heap.size, k, none⟩ = some (.int .i64 ((Lo.cuT S K nd t k).getD k 0)) := by rw [HO.out.cellAt _ (by omega), ints_get _ _ (by rw [Lo.cuT, Lo.tbl_len]; exact hlt)]
      have hS0 := HST.out wr wr.drew HB.out (Below.refl _ _).drew hz (some14 c0) (HO.out.frozenAt k)
      have HOd := hide HO.out.drew
      clear c0 hmk rr1 rr2
      go_wp2_with fail
      go_region_held3 (fun w' => w'.cell? ⟨B, 0, none⟩ = some (.slice (some ⟨b1, o1, none⟩) n c) ∧ w'.cell? ⟨B, 1, none⟩ = some (.int .i64 S) ∧ w'.cell? ⟨B, 2, none⟩ = some (.int .i64 K) ∧ w'.cell? ⟨b2, o2 + k, none⟩ = some (.int .i64 X) ∧ w'.cell? ⟨w0.heap.size, k, none⟩ = some (cv14 w' w0.heap.size k) ∧ w'.frozen? ⟨w0.heap.size, k, none⟩ = false ∧ w0.heap.size < w'.heap.size ∧ Below w0.heap.size w0 w')
        (first | exact hS0 | assumption | exact HSC.out _ _ (by assumption) | fail)
        (first
        | (go_at_call 30; obtain ⟨_, _, _, _, hcS, hfS, hzS, hbS⟩ := ‹_ ∧ _ ∧ _ ∧ _ ∧ _ ∧ _ ∧ _ ∧ _›; refine (HCo.out _).mono ?_; rintro e w3 ⟨rfl, hb3⟩; have hS3 := HST.out _ _ hbS hb3 hzS (some14 hcS) hfS; have HO3 := hide (own_below HOd.out hb3); clear HOd)
        | (go_at_call 60; obtain ⟨_, _, _, _, hcT, hfT, hzT, hbT⟩ := ‹_ ∧ _ ∧ _ ∧ _ ∧ _ ∧ _ ∧ _ ∧ _›; refine (HOK.out _ hbT).mono ?_; rintro e w4 ⟨rfl, hb4⟩; have hS4 := HST.out _ _ hbT hb4 hzT (some14 hcT) hfT; have HO4 := hide (own_below HO3.out hb4); clear HO3)
        | fail)
      obtain ⟨_, _, _, _, _, _, hzE, hbE⟩ := ‹_ ∧ _ ∧ _ ∧ _ ∧ _ ∧ _ ∧ _ ∧ _›
      obtain ⟨st1, st2⟩ := HO4.out.stored k (.int .i64 (X + Y))
      rw [ints_set, HSET.out] at st1
      have HST1 := hide st1
      have HBE := hide hbE
      have HZE := hide hzE
      clear st1 st2 hbE hzE hb3 hb4 hbS hbT hS3 hS4 hS0 hcS hfS hzS hcT hfT hzT
      go_wp2_with fail
      exact ⟨⟨k + 1, by go_num, by omega, HST1, HBE, HZE.out⟩, by simp only [intOf]; omega⟩
    · have hke : k = t := by omega
      subst hke
      have HE := hide (show wr.ownsRow w0.heap.size 3 1 (.slice (some ⟨w0.heap.size, 0, none⟩) k k) k (ints (Lo.cuL S K nd k)) by rw [← Lo.cuT_all]; exact HO.out)
      have HBB := hide (HB0.out.trans (HB.out.mono HB0.out.size))
      clear hmk
      go_wp2_with fail
      go_ret
      exact ⟨_, rfl, HBB.out, owns_low HE.out (by omega), fun g hg => by cases hg; exact hz, Nat.le_refl _⟩
namespace Lo
open Lt
theorem tab_at {S K : Int} {nd : Nat → Int} {m t : Nat} (h : t ≤ m) : (tab S K nd m).getD t 0 = T S K nd t := tab_get S K nd m t h
theorem tab_step {S K : Int} {nd : List Int} {t : Nat} (h : 0 < t) : tab S K (fn nd) t = tab S K (fn nd) (t - 1) ++ [minTo (fn (cuL S K nd t)) (t - 1)] := by
  obtain ⟨m, rfl⟩ : ∃ m, t = m + 1 := ⟨t - 1, by omega⟩
  rw [Nat.add_sub_cancel, tab]
  congr 2
  have key : ∀ k, k ≤ m → minTo (fun d => (tab S K (fn nd) m).getD d 0 + one S K (fn nd) d (m + 1)) k = minTo (fn (cuL S K nd (m + 1))) k := by
    have e : ∀ d, d ≤ m → (tab S K (fn nd) m).getD d 0 + one S K (fn nd) d (m + 1) = fn (cuL S K nd (m + 1)) d := fun d hd => by
      rw [tab_at hd, show fn (cuL S K nd (m + 1)) d = at_ S K (fn nd) (m + 1) d from cuL_at (by omega)]; rfl
    intro k
    induction k with
    | zero => intro _; exact e 0 (by omega)
    | succ k ih =>
      intro hk
      rw [minTo, minTo, ih (by omega), e (k + 1) hk]
  exact key m (Nat.le_refl _)
end Lo
theorem own_at14 {w : World} {lo n : Nat} {v : Value} {xs : List Int} (hx : xs.length = n) (h : w.ownsRow lo 3 1 v n (ints xs)) (h1 : 1 ≤ n) : ∃ b c, v = .slice (some ⟨b, 0, none⟩) n c ∧ n ≤ c ∧ ARow w (some ⟨b, 0, none⟩) xs := by
  rcases h.2 with ⟨rfl, h0⟩ | ⟨g, cap, cur, rfl, _, _, hnc, _⟩
  · omega
  · exact ⟨g, cap, rfl, hnc, arow_owns hx.symm h⟩
set_option maxRecDepth 100000 in
set_option maxHeartbeats 8000000 in
theorem lt14_any {a : Option Addr} {n c : Nat} {S K : Int} {nd : List Int} {w : World} (s0 : 0 ≤ S) (s1 : S ≤ 100) (k0 : 0 ≤ K) (k1 : K ≤ 10) (HN : Hid (nd.length = n)) (hn : n ≤ 10) (hc : n ≤ c) (HA : Hid (ARow w a nd)) (hb : Pf.allB nd 0 20 = true) :
    Calls Try.prog 38 #[.agg #[.slice a n c, .int .i64 S, .int .i64 K]] w fun e w' => ∃ b cb, e = .returned (.slice (some ⟨b, 0, none⟩) (n + 1) cb) ∧ Below w.heap.size w w' ∧ AV w' w.heap.size w'.heap.size (.slice (some ⟨b, 0, none⟩) (n + 1) cb) (n + 1) (Lt.tab S K (Lo.fn nd) n) := by
  have hB0 := below_new w (.cells #[.slice a n c, .int .i64 S, .int .i64 K] 25)
  have pb0 := TBox.new w (.slice a n c) (.int .i64 S) (.int .i64 K) 25
  obtain ⟨w0, hw0⟩ : ∃ W, W = w.alloc (.cells #[.slice a n c, .int .i64 S, .int .i64 K] 25) := ⟨_, rfl⟩
  rw [← hw0] at hB0 pb0
  have HW0 := hide hw0.symm
  obtain ⟨B, hB⟩ : ∃ b, b = w.heap.size := ⟨_, rfl⟩
  rw [← hB] at pb0
  have HBe := hide hB.symm
  have PB := hide pb0
  have R0 := hide (HA.out.below hB0)
  have HB0 := hide hB0
  have HLIT := hide (show (w0.alloc (.cells #[.int .i64 0] 3)).ownsRow w0.heap.size 3 1 (.slice (some ⟨w0.heap.size, 0, none⟩) 1 1) 1 (ints (Lt.tab S K (Lo.fn nd) 0)) from by
    have h := World.ownsRow_lit (base := w0.heap.size) (e := 3) (size := 1) w0 #[.int .i64 0] 1 (Nat.le_refl _) (by unfold maxLen; omega) (by simp)
    exact h)
  have HTL : Hid (∀ t, (Lt.tab S K (Lo.fn nd) t).length = t + 1) := hide (Lt.tab_len S K (Lo.fn nd))
  have HCU := hide fun (W : World) (h : Below w0.heap.size w0 W) (t : Nat) (h1 : 1 ≤ t) (ht : t ≤ n) (aT : Option Addr) (cT : Nat) (r : Hid (ARow W aT (Lt.tab S K (Lo.fn nd) (t - 1)))) => cu_any (w := W) (c := c) (cT := cT) (m := t) s0 s1 k0 k1 HN hn hc ht (hide (by rw [HTL.out]; omega)) (Nat.le_refl _) (hide fun d hd => Lo.tab_at (by omega)) (hide (R0.out.below h)) r hb
  have hBw : w.heap.size ≤ w0.heap.size := HB0.out.size
  clear hw0 hB pb0 hB0 HA hb s0 s1 k0 k1
  go_enter Try.func38, Try.ntmps38
  go_upto_region 1 with fail
  rw [HW0.out, HBe.out]
  clear HW0 HBe
  go_wp2_with fail
  go_loopw [3, 4] (fun s3 s wr => ∃ (t : Nat), s = .int .i64 t ∧ 1 ≤ t ∧ t ≤ n + 1 ∧ Hid (wr.ownsRow w0.heap.size 3 1 s3 t (ints (Lt.tab S K (Lo.fn nd) (t - 1)))) ∧ Hid (Below w0.heap.size w0 wr)) (fun _ s _ => n + 1 - (intOf s).toNat)
  case atStart => exact ⟨1, rfl, Nat.le_refl _, by omega, HLIT, hide (below_new _ _)⟩
  case round =>
    clear HLIT
    obtain ⟨t, rfl, ht1, htn, HO, HB⟩ := hrel
    obtain ⟨p0, p1, p2, _⟩ := PB.out.below HB.out
    obtain ⟨bT, cT, rfl, hcT, rT⟩ := own_at14 (by rw [HTL.out]; omega) HO.out ht1
    have RT := hide rT
    clear rT
    by_cases hlt : t ≤ n
    · have i1 : (t : Int) ≤ (n : Int) := by omega
      have HLL := hide (Lo.cuL_len S K nd t)
      have HSTEP := hide (Lo.tab_step (S := S) (K := K) (nd := nd) (t := t) (by omega))
      go_wp2_with fail
      refine (HCU.out _ HB.out t ht1 hlt _ _ RT).mono ?_
      rintro e w3 ⟨b3, rfl, hb3, o3⟩
      have HB3 := hide (HB.out.trans (hb3.mono HB.out.size))
      have HO3 := hide (own_below HO.out hb3)
      have R3 := hide (arow_owns HLL.out.symm o3.1)
      clear hb3 o3 HO RT
      go_wp2_with fail
      refine (min14 HLL ht1 (by omega) R3).mono ?_
      rintro e w4 ⟨rfl, hw4⟩
      obtain rfl := hw4.symm
      generalize Lt.minTo (Lo.fn (Lo.cuL S K nd t)) (t - 1) = M at *
      obtain ⟨v', w', hr, own', hg⟩ := push_int (x := M) HO3.out (by omega) HB3.out.size
      have HO' : Hid (w'.ownsRow w0.heap.size 3 1 v' (t + 1) (ints (Lt.tab S K (Lo.fn nd) (t + 1 - 1)))) := hide (by rw [Nat.add_sub_cancel, HSTEP.out, ints_snoc]; exact own')
      have HB' := hide (HB3.out.trans (grown_under' hg HO3.out (Nat.le_refl _) HB3.out.size))
      clear own' hg HO3
      go_wp2_with (first | (at_builtin; refine Lib.wpList_append_run _ rfl _ _ _ _ rfl _ _ rfl rfl _ _ (hr _) ?_))
      go_roundw
      case rel => exact ⟨t + 1, by go_num, by omega, by omega, HO', HB'⟩
      case measure => simp only [intOf]; omega
    · have hke : t = n + 1 := by omega
      subst hke
      have HBB := hide (HB0.out.trans (HB.out.mono HB0.out.size))
      have j1 : ¬ (n : Int) + 1 ≤ (n : Int) := by omega
      go_wp2_with fail
      go_ret
      exact ⟨bT, cT, rfl, HBB.out, owns_low HO.out hBw, fun g hg => (HO.out.lt g hg).2, Nat.le_refl _⟩
end Go.Proofs.Ytebohpgdhbammaa
namespace Go.Proofs.Ytebohpgdhbammaa
open Go.RowKit

theorem mem9 {α : Type} (l : List α) (d : α) {i : Nat} (h : i < l.length) : l.getD i d ∈ l := by rw [List.getD_eq_getElem?_getD, List.getElem?_eq_getElem h]; exact List.getElem_mem h
theorem add_plain9 (b o j : Nat) : (⟨b, o, none⟩ : Addr).add j = ⟨b, o + j, none⟩ := by unfold Addr.add; split <;> simp_all
/-- One value more behind an owned list, and where it lies then. -/
theorem push_9 {w : World} {base n e t bytes : Nat} {z x v : Value} {xs : List Value} (hu : Try.prog.underlying t = some (.slice e)) (hinf : ∃ i, Try.prog.info? e = some i ∧ i.zero = some z ∧ i.size = 1 ∧ i.bytes = bytes) (hz : z.cells.size = 1) (hx : x.oneCell' = true) (h24 : bytes ≤ 24) (hown : w.ownsRow base e 1 v n xs) (hn : n ≤ 100000) (hb : base ≤ w.heap.size) :
    ∃ g cap w', (∀ ty, (Builtin.append_ #[t, t] ty #[v, .slice (some ⟨w.heap.size, 0, none⟩) 1 1]).run Try.prog (w.alloc (.cells #[x] e)) = .ok (.slice (some ⟨g, 0, none⟩) (n + 1) cap) w') ∧ w'.ownsRow base e 1 (.slice (some ⟨g, 0, none⟩) (n + 1) cap) (n + 1) (xs ++ [x]) ∧ (w.alloc (.cells #[x] e)).grownBy w' v.ownBlock ∧ (v.ownBlock = some g ∨ g = w.heap.size + 1) := by
  obtain ⟨i0, hi, hz0, hz1, hz2⟩ := hinf
  have hby : (n + 1) * bytes ≤ 100001 * 24 := Nat.mul_le_mul (by omega) h24
  obtain ⟨g, cap, w', h1, h2, h3, h4, _⟩ := run_append_lies (P := Try.prog) (w := w.alloc (.cells #[x] e)) t 0 base e i0 _ 1 bytes hu hi hz0 hz1 hz2 hz (by decide) v n xs (hown.alloc _) ⟨w.heap.size, 0, none⟩ 1 1 [x] rfl (fun j u hj => by
      have hj2 : j = 0 := by
        have := (List.getElem?_eq_some_iff.1 hj).1
        simp at this; omega
      subst hj2
      rw [add_plain9]
      simp at hj; subst hj; simp) (fun u hu => by simp at hu; subst hu; exact hx) (by omega) (by unfold maxLen; omega) (by omega) (by simp; omega) _ rfl
  refine ⟨g, cap, w', fun _ => h1, h2, h3, ?_⟩
  rcases h4 with h4 | h4
  · exact Or.inl h4
  · exact Or.inr (by rw [h4]; simp)
theorem step_append_run9 {P : Program} {w : World} {ops : Array Oper} {o : Oper} {a : Act} {K : Act → World → Prop} {Q : Exit → Act → World → Prop} {E : Prop} (hgd : o.guard = none) (d s : Operand) (t t' : TypeId)
    (ho : o.op = .call { callee := .builtin .append, args := #[d, s], argTypes := #[t, t'] }) (vd vs : Value) (hd : a.eval d = vd) (hs : a.eval s = vs)
    (v' : Value) (w' : World) (hr : (Builtin.append_ #[t, t'] o.type #[vd, vs]).run P w = .ok v' w') (h : K (a.put o.dst v') w') :
    if Region.wanted o (yielded ops a.tmps) = true then Oper.wp P o a w K Q else E := by
  have hw : Region.wanted o (yielded ops a.tmps) = true := by simp [Region.wanted, hgd]
  rw [if_pos hw]
  unfold Oper.wp execOp
  simp only [ho, resolve, invoke, builtin, Sem.run_bind, Sem.run_pure, Result.andThen_ok, List.map_toArray, List.map_cons, List.map_nil, hd, hs, hr]
  exact h
end Go.Proofs.Ytebohpgdhbammaa
namespace Go.Proofs.Ytebohpgdhbammaa
open Go.RowKit

/-- Fits, to be read: a list of lists. -/
def CRow (w : World) (a : Option Addr) (F : List (List Int)) : Prop :=
  F = [] ∨ ∃ b off, a = some ⟨b, off, none⟩ ∧ b < w.heap.size ∧ ∀ i, i < F.length → ∃ ai ci, w.cell? ⟨b, off + i, none⟩ = some (.slice ai (F.getD i []).length ci) ∧ ARow w ai (F.getD i [])
theorem CRow.below {w w' : World} {a : Option Addr} {F : List (List Int)} (h : CRow w a F) (hb : Below w.heap.size w w') : CRow w' a F := by
  rcases h with h | ⟨b, off, ha, hl, hc⟩
  · exact Or.inl h
  · refine Or.inr ⟨b, off, ha, Nat.lt_of_lt_of_le hl hb.size, fun i hi => ?_⟩
    obtain ⟨ai, ci, h1, h2⟩ := hc i hi
    exact ⟨ai, ci, (hb.cell (p := ⟨b, off + i, none⟩) hl).trans h1, h2.below hb⟩
theorem CRow.at {w : World} {a : Option Addr} {F : List (List Int)} (h : CRow w a F) {i : Nat} (hi : i < F.length) : ∃ b off ai ci, a = some ⟨b, off, none⟩ ∧ b < w.heap.size ∧ w.cell? ⟨b, off + i, none⟩ = some (.slice ai (F.getD i []).length ci) ∧ ARow w ai (F.getD i []) := by
  rcases h with h | ⟨b, off, ha, hl, hc⟩
  · rw [h] at hi; simp at hi
  · obtain ⟨ai, ci, h1, h2⟩ := hc i hi
    exact ⟨b, off, ai, ci, ha, hl, h1, h2⟩
def CFits (F : List (List Int)) : Prop := ∀ i, (F.getD i []).length ≤ maxLen
def cv (gs : List Nat) (F : List (List Int)) (i : Nat) : Value := .slice (some ⟨gs.getD i 0, 0, none⟩) (F.getD i []).length (F.getD i []).length
def cvals (gs : List Nat) (F : List (List Int)) (k m : Nat) : List Value := (List.range m).map fun i => if i < k then cv gs F i else .slice none 0 0
/-- The first k of m rows, each in a block of its own, all of them owned. -/
def CSo (w : World) (base B : Nat) (gs : List Nat) (F : List (List Int)) (k m : Nat) : Prop :=
  gs.length = k ∧ w.ownsRow base 23 1 (.slice (some ⟨B, 0, none⟩) m m) m (cvals gs F k m) ∧ (∀ i, i < k → w.ownsRow base 3 1 (cv gs F i) (F.getD i []).length (ints (F.getD i []))) ∧ gs.Pairwise (· < ·) ∧ ∀ g ∈ gs, B < g
theorem CSo.below {w w' : World} {base B k m : Nat} {gs : List Nat} {F : List (List Int)} (h : CSo w base B gs F k m) (hb : Below w.heap.size w w') : CSo w' base B gs F k m :=
  ⟨h.1, g_own h.2.1 hb, fun i hi => g_own (h.2.2.1 i hi) hb, h.2.2.2⟩
theorem CSo.at_mem {w : World} {base B k m : Nat} {gs : List Nat} {F : List (List Int)} (h : CSo w base B gs F k m) {i : Nat} (hi : i < k) : gs.getD i 0 ∈ gs := by
  have hi' : i < gs.length := by rw [h.1]; exact hi
  rw [Pf.getD_lt _ _ hi']; exact List.getElem_mem _
theorem CSo.lt {w : World} {base B k m : Nat} {gs : List Nat} {F : List (List Int)} (h : CSo w base B gs F k m) {g : Nat} (hg : g ∈ gs) : base ≤ g ∧ g < w.heap.size := by
  obtain ⟨i, hi, rfl⟩ := List.getElem_of_mem hg
  have := h.2.2.1 i (by rw [← h.1]; exact hi)
  have := this.lt (gs.getD i 0) rfl
  rwa [Pf.getD_lt _ _ hi] at this
theorem cvals_snoc {gs : List Nat} {F : List (List Int)} {k m g n : Nat} (hk : gs.length = k) (hn : (F.getD k []).length = n) : (cvals gs F k m).set k (.slice (some ⟨g, 0, none⟩) n n) = cvals (gs ++ [g]) F (k + 1) m := by
  apply List.ext_getElem
  · simp [cvals]
  · intro i h1 h2
    simp only [cvals, List.length_map, List.length_range] at h2
    rw [List.getElem_set]
    by_cases e : k = i
    · subst e
      simp [cvals, cv, ← hn, ← hk]
    · simp only [e, if_false, cvals, List.getElem_map, List.getElem_range]
      by_cases hi : i < k
      · simp [hi, show i < k + 1 by omega, cv, hk]
      · simp [hi, show ¬ i < k + 1 by omega]
theorem CSo.step {w w2 : World} {base B k m g n : Nat} {gs : List Nat} {F : List (List Int)} (h : CSo w base B gs F k m) (hb : Below w.heap.size w w2) (hbase : base ≤ w.heap.size)
    (own : w2.ownsRow w.heap.size 3 1 (.slice (some ⟨g, 0, none⟩) n n) n (ints (F.getD k []))) (hn : (F.getD k []).length = n) :
    CSo (w2.setCell ⟨B, k, none⟩ (.slice (some ⟨g, 0, none⟩) n n)) base B (gs ++ [g]) F (k + 1) m := by
  obtain ⟨hB0, hB1⟩ := h.2.1.lt B rfl
  obtain ⟨hg0, hg1⟩ := own.lt g rfl
  obtain ⟨st1, st2⟩ := (g_own h.2.1 hb).stored k (.slice (some ⟨g, 0, none⟩) n n)
  rw [cvals_snoc h.1 hn] at st1
  refine ⟨by simp [h.1], st1, fun i hi => ?_, ?_, ?_⟩
  · by_cases e : i = k
    · subst e
      have e1 : cv (gs ++ [g]) F i = .slice (some ⟨g, 0, none⟩) n n := by simp [cv, ← h.1, ← hn]
      rw [e1, hn]
      exact (owns_low own hbase).kept st2 (Or.inr (by simp [Value.ownBlock]; omega))
    · have hi' : i < k := by omega
      have e1 : cv (gs ++ [g]) F i = cv gs F i := by simp [cv, List.getElem?_append, h.1, hi']
      rw [e1]
      have hm := h.2.2.2.2 _ (h.at_mem hi')
      exact (g_own (h.2.2.1 i hi') hb).kept st2 (Or.inr (by simp only [cv, Value.ownBlock, ne_eq, Option.some.injEq]; omega))
  · rw [List.pairwise_append]
    refine ⟨h.2.2.2.1, by simp, fun a ha b hb' => ?_⟩
    simp at hb'
    have := (h.lt ha).2
    omega
  · intro x hx
    rcases List.mem_append.1 hx with hx | hx
    · exact h.2.2.2.2 x hx
    · simp at hx; omega
/-- Fits of one's own, all of them below hi. -/
def COw (w : World) (B hi : Nat) (F : List (List Int)) : Prop := hi ≤ w.heap.size ∧ B < hi ∧ ∃ gs, (∀ g ∈ gs, g < hi) ∧ CSo w B B gs F F.length F.length
theorem COw.below {w w' : World} {B hi : Nat} {F : List (List Int)} (h : COw w B hi F) (hb : Below w.heap.size w w') : COw w' B hi F := by
  obtain ⟨h1, h2, gs, h3, h4⟩ := h
  exact ⟨Nat.le_trans h1 hb.size, h2, gs, h3, h4.below hb⟩
theorem COw.row {w : World} {B hi : Nat} {F : List (List Int)} (h : COw w B hi F) : CRow w (some ⟨B, 0, none⟩) F := by
  obtain ⟨h1, h2, gs, h3, h⟩ := h
  refine Or.inr ⟨B, 0, rfl, (h.2.1.lt B rfl).2, fun i hi => ⟨_, (F.getD i []).length, ?_, arow_owns rfl (h.2.2.1 i hi)⟩⟩
  rw [Nat.zero_add, h.2.1.cellAt i (by omega)]
  simp [cvals, hi, cv]
end Go.Proofs.Ytebohpgdhbammaa
namespace Go.Proofs.Ytebohpgdhbammaa
open Go.RowKit

theorem own_form2 {w : World} {base e s n : Nat} {v : Value} {xs : List Value} (h : w.ownsRow base e s v n xs) : ∃ a cap, v = .slice a n cap := by
  rcases h.2 with ⟨rfl, hn⟩ | ⟨g, cap, cur, rfl, _⟩
  · exact ⟨none, 0, by rw [hn]⟩
  · exact ⟨_, _, rfl⟩
theorem own_keep2 {w w' : World} {base e s n : Nat} {v : Value} {xs : List Value} (h : w.ownsRow base e s v n xs) (hb : ∀ g, v.ownBlock = some g → g < w.heap.size → w'.heap[g]? = w.heap[g]?) : w'.ownsRow base e s v n xs := by
  rcases h with ⟨h0, h | ⟨g', cap, cur, rfl, h2, h3, h4⟩⟩
  · exact ⟨h0, Or.inl h⟩
  · exact ⟨h0, Or.inr ⟨g', cap, cur, rfl, h2, (hb g' rfl (Array.getElem?_eq_some_iff.1 h3).1).trans h3, h4⟩⟩
theorem own_below2 {w w' : World} {base e s n : Nat} {v : Value} {xs : List Value} (h : w.ownsRow base e s v n xs) (hb : Below w.heap.size w w') : w'.ownsRow base e s v n xs := own_keep2 h fun _ _ hl => hb.block _ hl
theorem own_low2 {w : World} {base base' e s n : Nat} {v : Value} {xs : List Value} (h : w.ownsRow base e s v n xs) (hb : base' ≤ base) : w.ownsRow base' e s v n xs := by
  rcases h with ⟨h0, h | ⟨g, cap, cur, h1, h2, h3⟩⟩
  · exact ⟨h0, Or.inl h⟩
  · exact ⟨h0, Or.inr ⟨g, cap, cur, h1, Nat.le_trans hb h2, h3⟩⟩
theorem infoS : ∃ i, Try.prog.info? 23 = some i ∧ i.zero = some (.slice none 0 0) ∧ i.size = 1 ∧ i.bytes = 24 := by
  have h : (Try.prog.info? 23).map (fun i => (i.zero, i.size, i.bytes)) = some (some (.slice none 0 0), 1, 24) := by kernel_rfl
  obtain ⟨i, hi, hzz⟩ := Option.map_eq_some_iff.1 h
  simp only [Prod.mk.injEq] at hzz
  exact ⟨i, hi, hzz.1, hzz.2.1, hzz.2.2⟩
def nilS : Value := .slice none 0 0
def LL {α : Type} (W : World) (base T E s : Nat) (enc : List α → List Value) (v : Value) (us : List Value) (R : List (List α)) : Prop :=
  W.ownsRow base T 1 v R.length us ∧ (∀ i, i < R.length → W.ownsRow base E s (us.getD i nilS) (R.getD i []).length (enc (R.getD i []))) ∧
  (∀ i g, i < R.length → (us.getD i nilS).ownBlock = some g → v.ownBlock ≠ some g) ∧
  (∀ i j g, i < R.length → j < R.length → i ≠ j → (us.getD i nilS).ownBlock = some g → (us.getD j nilS).ownBlock ≠ some g)
theorem LL.len {α : Type} {W : World} {base T E s : Nat} {enc : List α → List Value} {v : Value} {us : List Value} {R : List (List α)} (h : LL W base T E s enc v us R) : us.length = R.length := by
  have := h.1.1; omega
theorem LL.nil {α : Type} (W : World) (base T E s : Nat) (enc : List α → List Value) : LL W base T E s enc nilS [] ([] : List (List α)) :=
  ⟨World.ownsRow_nil _ _ _ _, fun _ hi => absurd hi (Nat.not_lt_zero _), fun _ _ hi => absurd hi (Nat.not_lt_zero _), fun _ _ _ hi => absurd hi (Nat.not_lt_zero _)⟩
theorem LL.keep {α : Type} {W W' : World} {base T E s : Nat} {enc : List α → List Value} {v : Value} {us : List Value} {R : List (List α)} (h : LL W base T E s enc v us R) (hb : ∀ g, base ≤ g → g < W.heap.size → W'.heap[g]? = W.heap[g]?) : LL W' base T E s enc v us R :=
  ⟨own_keep2 h.1 fun g hv hl => hb g (h.1.lt g hv).1 hl, fun i hi => own_keep2 (h.2.1 i hi) fun g hv hl => hb g ((h.2.1 i hi).lt g hv).1 hl, h.2.2⟩
theorem LL.below {α : Type} {W W' : World} {base T E s : Nat} {enc : List α → List Value} {v : Value} {us : List Value} {R : List (List α)} (h : LL W base T E s enc v us R) (hb : Below W.heap.size W W') : LL W' base T E s enc v us R := h.keep fun g _ hl => hb.block g hl
theorem LL.form {α : Type} {W : World} {base T E s : Nat} {enc : List α → List Value} {v : Value} {us : List Value} {R : List (List α)} (h : LL W base T E s enc v us R) : ∃ a c, v = .slice a R.length c := own_form2 h.1
theorem LL.cell {α : Type} {W : World} {base T E s G cap : Nat} {enc : List α → List Value} {us : List Value} {R : List (List α)} (h : LL W base T E s enc (.slice (some ⟨G, 0, none⟩) R.length cap) us R) {i : Nat} (hi : i < R.length) : W.cell? ⟨G, i, none⟩ = some (us.getD i nilS) := by
  have hl := h.len
  rw [h.1.cellAt i (by omega), List.getD_eq_getElem?_getD, List.getElem?_eq_getElem (by omega)]; rfl
theorem getD_set' {α : Type} {l : List α} {i b : Nat} {x d : α} (hi : i < l.length) : (l.set i x).getD b d = if b = i then x else l.getD b d := by
  by_cases e : b = i
  · subst e; simp [hi]
  · rw [if_neg e]; simp [Ne.symm e]
theorem getD_snoc {α : Type} {l : List α} {b : Nat} {x d : α} (hb : b < l.length + 1) : (l ++ [x]).getD b d = if b = l.length then x else l.getD b d := by
  by_cases e : b = l.length
  · subst e; simp
  · rw [if_neg e]; simp [List.getElem?_append_left (show b < l.length by omega)]
/-- A row in place i is another one now. -/
theorem LL.put {α : Type} {W W' : World} {base T E s G cap i : Nat} {enc : List α → List Value} {us : List Value} {R : List (List α)} {u' : Value} {r' : List α} (h : LL W base T E s enc (.slice (some ⟨G, 0, none⟩) R.length cap) us R) (hi : i < R.length)
    (hB : ∀ b, b < W.heap.size → some b ≠ (us.getD i nilS).ownBlock → W'.heap[b]? = W.heap[b]?) (_hs : W.heap.size ≤ W'.heap.size) (hu : W'.ownsRow base E s u' r'.length (enc r')) (hf : ∀ g, u'.ownBlock = some g → (us.getD i nilS).ownBlock = some g ∨ W.heap.size ≤ g) :
    LL (W'.setCell ⟨G, i, none⟩ u') base T E s enc (.slice (some ⟨G, 0, none⟩) R.length cap) (us.set i u') (R.set i r') := by
  have hl := h.len
  have hG : G < W.heap.size := (h.1.lt G rfl).2
  have hGi : ∀ j, j < R.length → (us.getD j nilS).ownBlock ≠ some G := fun j hj e => h.2.2.1 j G hj e rfl
  have hG' : W'.ownsRow base T 1 (.slice (some ⟨G, 0, none⟩) R.length cap) R.length us := own_keep2 h.1 fun g hv hl' => hB g hl' (fun e => by
    obtain rfl : G = g := by simpa [Value.ownBlock] using hv
    exact hGi i hi e.symm)
  have huG : u'.ownBlock ≠ some G := fun e => by
    rcases hf G e with e' | e'
    · exact hGi i hi e'
    · omega
  have far : ∀ g, g ≠ G → (W'.setCell ⟨G, i, none⟩ u').heap[g]? = W'.heap[g]? := fun g hg => Below.heap_setCell W' ⟨G, i, none⟩ u' g hg
  refine ⟨by rw [List.length_set]; exact (hG'.stored i u').1, fun j hj => ?_, fun j g hj he => ?_, fun j k g hj hk hne he => ?_⟩
  · rw [List.length_set] at hj
    rw [getD_set' (by omega), getD_set' hi]
    by_cases e : j = i
    · rw [if_pos e, if_pos e]
      exact own_keep2 hu fun g hv _ => far g (fun e' => huG (e' ▸ hv))
    · rw [if_neg e, if_neg e]
      refine own_keep2 (own_keep2 (h.2.1 j hj) fun g hv hl' => hB g hl' (fun e' => h.2.2.2 j i g hj hi e hv e'.symm)) fun g hv _ => far g (fun e' => hGi j hj (e' ▸ hv))
  · rw [List.length_set] at hj
    rw [getD_set' (by omega)] at he
    intro e2
    obtain rfl : G = g := by simpa [Value.ownBlock] using e2
    by_cases e : j = i
    · rw [if_pos e] at he; exact huG he
    · rw [if_neg e] at he; exact hGi j hj he
  · rw [List.length_set] at hj hk
    rw [getD_set' (by omega)] at he ⊢
    by_cases e1 : j = i
    · subst e1
      rw [if_pos rfl] at he
      rw [if_neg (Ne.symm hne)]
      intro e2
      rcases hf g he with e' | e'
      · exact h.2.2.2 j k g hj hk hne e' e2
      · have := ((h.2.1 k hk).lt g e2).2; omega
    · rw [if_neg e1] at he
      by_cases e2 : k = i
      · subst e2
        rw [if_pos rfl]
        intro e3
        rcases hf g e3 with e' | e'
        · exact h.2.2.2 j k g hj hk hne he e'
        · have := ((h.2.1 j hj).lt g he).2; omega
      · rw [if_neg e2]; exact h.2.2.2 j k g hj hk hne he
/-- One row more. -/
theorem LL.snoc {α : Type} {W W' : World} {base T E s : Nat} {enc : List α → List Value} {v v' : Value} {us : List Value} {R : List (List α)} {u : Value} {r : List α} (h : LL W base T E s enc v us R)
    (hv : W'.ownsRow base T 1 v' (R.length + 1) (us ++ [u])) (hB : ∀ b, b < W.heap.size → some b ≠ v.ownBlock → W'.heap[b]? = W.heap[b]?) (hf : ∀ g, v'.ownBlock = some g → v.ownBlock = some g ∨ W.heap.size ≤ g)
    (hu : W'.ownsRow base E s u r.length (enc r)) (huf : ∀ g, u.ownBlock = some g → W.heap.size ≤ g ∧ v'.ownBlock ≠ some g) :
    LL W' base T E s enc v' (us ++ [u]) (R ++ [r]) := by
  have hl := h.len
  refine ⟨by rw [List.length_append]; exact hv, fun j hj => ?_, fun j g hj he => ?_, fun j k g hj hk hne he => ?_⟩
  · rw [List.length_append] at hj
    simp only [List.length_cons, List.length_nil] at hj
    rw [getD_snoc (by omega), getD_snoc hj, hl]
    by_cases e : j = R.length
    · rw [if_pos e, if_pos e]; exact hu
    · rw [if_neg e, if_neg e]
      exact own_keep2 (h.2.1 j (by omega)) fun g hv' hl' => hB g hl' (fun e' => h.2.2.1 j g (by omega) hv' e'.symm)
  · rw [List.length_append] at hj
    simp only [List.length_cons, List.length_nil] at hj
    rw [getD_snoc (by omega), hl] at he
    intro e2
    by_cases e : j = R.length
    · rw [if_pos e] at he; exact (huf g he).2 e2
    · rw [if_neg e] at he
      rcases hf g e2 with e' | e'
      · exact h.2.2.1 j g (by omega) he e'
      · have := ((h.2.1 j (by omega)).lt g he).2; omega
  · rw [List.length_append] at hj hk
    simp only [List.length_cons, List.length_nil] at hj hk
    rw [getD_snoc (by omega), hl] at he ⊢
    by_cases e1 : j = R.length
    · rw [if_pos e1] at he
      rw [if_neg (by omega)]
      intro e2
      have h1 := (huf g he).1
      have h2 := ((h.2.1 k (by omega)).lt g e2).2
      omega
    · rw [if_neg e1] at he
      by_cases e2 : k = R.length
      · rw [if_pos e2]
        intro e3
        have h1 := (huf g e3).1
        have h2 := ((h.2.1 j (by omega)).lt g he).2
        omega
      · rw [if_neg e2]; exact h.2.2.2 j k g (by omega) (by omega) hne he
/-- Lists of ints can be read. -/
theorem LL.crow {W : World} {base T E : Nat} {a : Option Addr} {c : Nat} {us : List Value} {R : List (List Int)} (h : LL W base T E 1 ints (.slice a R.length c) us R) : CRow W a R := by
  rcases h.1.2 with ⟨hv, hn⟩ | ⟨g, cap, cur, hv, _, hg, _⟩
  · exact Or.inl (List.length_eq_zero_iff.1 hn)
  · cases hv
    refine Or.inr ⟨g, 0, rfl, (Array.getElem?_eq_some_iff.1 hg).1, fun i hi => ?_⟩
    have ho := h.2.1 i hi
    have hc := h.cell hi
    rw [Nat.zero_add, hc]
    rcases ho.2 with ⟨hv, hn⟩ | ⟨g', cap', cur', hv, _⟩
    · exact ⟨none, 0, by rw [hv, hn], Or.inl (List.length_eq_zero_iff.1 hn)⟩
    · refine ⟨some ⟨g', 0, none⟩, cap', by rw [hv], ?_⟩
      rw [hv] at ho
      exact arow_owns rfl ho
theorem LL.keep2 {α : Type} {W W' : World} {base T E s : Nat} {enc : List α → List Value} {v : Value} {us : List Value} {R : List (List α)} (h : LL W base T E s enc v us R) (hb : ∀ g, g < W.heap.size → (v.ownBlock = some g ∨ ∃ i, i < R.length ∧ (us.getD i nilS).ownBlock = some g) → W'.heap[g]? = W.heap[g]?) : LL W' base T E s enc v us R :=
  ⟨own_keep2 h.1 fun g hv hl => hb g hl (Or.inl hv), fun i hi => own_keep2 (h.2.1 i hi) fun g hv hl => hb g hl (Or.inr ⟨i, hi, hv⟩), h.2.2⟩
/-- One number in row i is another one now. -/
theorem LL.write {W : World} {base T i k : Nat} {v : Value} {us : List Value} {R : List (List Int)} {x : Int} (h : LL W base T 3 1 ints v us R) (hi : i < R.length) (hk : k < (R.getD i []).length) :
    ∃ g c, us.getD i nilS = .slice (some ⟨g, 0, none⟩) (R.getD i []).length c ∧ W.cell? ⟨g, k, none⟩ = some (.int .i64 ((R.getD i []).getD k 0)) ∧ W.frozen? ⟨g, k, none⟩ = false ∧ base ≤ g ∧ g < W.heap.size ∧
      LL (W.setCell ⟨g, k, none⟩ (.int .i64 x)) base T 3 1 ints v us (R.set i ((R.getD i []).set k x)) := by
  have ho := h.2.1 i hi
  have hl := h.len
  obtain ⟨g, c, e, _, _⟩ := ho.form (by omega)
  rw [e] at ho
  have hgi : (us.getD i nilS).ownBlock = some g := by rw [e]; rfl
  obtain ⟨st1, st2⟩ := ho.stored k (.int .i64 x)
  rw [ints_set] at st1
  have far : ∀ b, b ≠ g → (W.setCell ⟨g, k, none⟩ (.int .i64 x)).heap[b]? = W.heap[b]? := fun b hb => Below.heap_setCell W ⟨g, k, none⟩ _ b hb
  refine ⟨g, c, e, ?_, ho.frozenAt k, (ho.lt g rfl).1, (ho.lt g rfl).2, ⟨?_, fun j hj => ?_, fun j b hj he => h.2.2.1 j b (by rwa [List.length_set] at hj) he, fun j l b hj hl' hne he => h.2.2.2 j l b (by rwa [List.length_set] at hj) (by rwa [List.length_set] at hl') hne he⟩⟩
  · rw [ho.cellAt k (by omega), ints_get _ k hk]
  · rw [List.length_set]
    exact own_keep2 h.1 fun b hv _ => far b (fun e' => h.2.2.1 i g hi hgi (e' ▸ hv))
  · rw [List.length_set] at hj
    rw [getD_set' hi]
    by_cases e' : j = i
    · subst e'
      rw [if_pos rfl, List.length_set, e]
      exact st1
    · rw [if_neg e']
      exact own_keep2 (h.2.1 j hj) fun b hv _ => far b (fun e2 => h.2.2.2 j i g hj hi e' (e2 ▸ hv) hgi)
theorem LL.low {W : World} {base base' T : Nat} {v : Value} {us : List Value} {R : List (List Int)} (h : LL W base T 3 1 ints v us R) (hb : base' ≤ base) : LL W base' T 3 1 ints v us R :=
  ⟨own_low2 h.1 hb, fun i hi => own_low2 (h.2.1 i hi) hb, h.2.2⟩
/-- One number, in memory. -/
theorem LL.at2 {W : World} {base T i k n cap G : Nat} {us : List Value} {R : List (List Int)} (h : LL W base T 3 1 ints (.slice (some ⟨G, 0, none⟩) n cap) us R) (hn : R.length = n) (hi : i < n) (hk : k < (R.getD i []).length) :
    ∃ g c, W.cell? ⟨G, i, none⟩ = some (.slice (some ⟨g, 0, none⟩) (R.getD i []).length c) ∧ us.getD i nilS = .slice (some ⟨g, 0, none⟩) (R.getD i []).length c ∧ W.cell? ⟨g, k, none⟩ = some (.int .i64 ((R.getD i []).getD k 0)) := by
  subst hn
  obtain ⟨g, c, e, h1, _⟩ := h.write (x := 0) hi hk
  exact ⟨g, c, by rw [← e]; exact h.cell hi, e, h1⟩
end Go.Proofs.Ytebohpgdhbammaa
namespace Go.Proofs.Ytebohpgdhbammaa
open Go.RowKit

theorem own_full {w : World} {base e g n c : Nat} {xs : List Value} (h : w.ownsRow base e 1 (.slice (some ⟨g, 0, none⟩) n c) n xs) : n ≤ c ∧ ∃ ys, ys.length = c ∧ ys.take n = xs ∧ w.ownsRow base e 1 (.slice (some ⟨g, 0, none⟩) c c) c ys := by
  rcases h.2 with ⟨h', _⟩ | ⟨g', cap', cur, h', hb, hg, hnc, hcm, hcs, htake⟩
  · simp at h'
  · simp only [Value.slice.injEq, Option.some.injEq, Addr.mk.injEq, and_true, true_and] at h'
    obtain ⟨rfl, rfl⟩ := h'
    rw [Nat.mul_one] at hcs htake
    exact ⟨hnc, cur.toList, by simpa using hcs, htake, by simpa using hcs, Or.inr ⟨g, c, cur, rfl, hb, hg, Nat.le_refl _, hcm, by rw [Nat.mul_one]; exact hcs, by rw [Nat.mul_one]; exact List.take_of_length_le (by simp [hcs])⟩⟩
theorem own_prefix {w : World} {base e g n c : Nat} {ys : List Value} (h : w.ownsRow base e 1 (.slice (some ⟨g, 0, none⟩) c c) c ys) (hn : n ≤ c) : w.ownsRow base e 1 (.slice (some ⟨g, 0, none⟩) n c) n (ys.take n) := by
  have hl := h.1
  rcases h.2 with ⟨h', _⟩ | ⟨g', cap', cur, h', hb, hg, hnc, hcm, hcs, htake⟩
  · simp at h'
  · simp only [Value.slice.injEq, Option.some.injEq, Addr.mk.injEq, and_true, true_and] at h'
    obtain ⟨rfl, rfl⟩ := h'
    rw [Nat.mul_one] at hcs htake hl
    refine ⟨by rw [List.length_take]; omega, Or.inr ⟨g, c, cur, rfl, hb, hg, hn, hcm, by rw [Nat.mul_one]; exact hcs, ?_⟩⟩
    rw [← htake, Nat.mul_one, List.take_take, Nat.min_eq_left hn]
def setL (xs : List Value) : Nat → List Value → List Value
  | _, [] => xs
  | o, v :: r => setL (xs.set o v) (o + 1) r
theorem setL_len : ∀ (vs xs : List Value) (o : Nat), (setL xs o vs).length = xs.length
  | [], _, _ => rfl
  | v :: r, xs, o => by rw [setL, setL_len r]; simp
theorem setL_eq : ∀ (vs xs : List Value) (o : Nat), o + vs.length ≤ xs.length → setL xs o vs = xs.take o ++ vs ++ xs.drop (o + vs.length)
  | [], xs, o, _ => by simp [setL]
  | v :: r, xs, o, h => by
    simp only [List.length_cons] at h
    rw [setL, setL_eq r _ _ (by simp; omega), List.take_succ_eq_append_getElem (by simp; omega)]
    simp only [List.length_cons, List.getElem_set_self, List.take_set_of_le (Nat.le_refl o)]
    rw [List.drop_set_of_lt (by omega), show o + 1 + r.length = o + (r.length + 1) by omega]
    simp
theorem own_cells {base e g N : Nat} : ∀ (vs xs : List Value) (o : Nat) (w : World), w.ownsRow base e 1 (.slice (some ⟨g, 0, none⟩) N N) N xs → (w.setCells g o vs).ownsRow base e 1 (.slice (some ⟨g, 0, none⟩) N N) N (setL xs o vs) ∧ Below base w (w.setCells g o vs)
  | [], _, _, w, h => ⟨h, Below.refl _ _⟩
  | v :: r, xs, o, w, h => by
    have h1 := (h.stored o v).1
    have h2 := own_cells r (xs.set o v) (o + 1) _ h1
    exact ⟨h2.1, ((Below.refl base w).setCell (p := ⟨g, o, none⟩) (h.lt g rfl).1 v).trans h2.2⟩
theorem own_drew {w : World} {base e s n : Nat} {v : Value} {xs : List Value} (h : w.ownsRow base e s v n xs) : w.drew.ownsRow base e s v n xs := own_keep2 h fun _ _ _ => rfl
end Go.Proofs.Ytebohpgdhbammaa
namespace Go.Proofs
open Go.Shelf
def Try.laysNm215_ren : Go.Shelf.Ren := ⟨fun | 15 => 49 | n => n, fun | 22 => 23 | 3 => 3 | 4 => 4 | n => n, fun | n => n⟩
theorem Try.laysNm215 : Go.Proofs.Lays2.n15 Try.prog Try.laysNm215_ren := {
  mixed := by kernel_rfl
  f15 := Try.func49.trans (congrArg some (by kernel_rfl))
  t3 := Try.underlying3
  a3 := Try.isAgg3
  z3 := Try.sizeOf3
  v3 := Try.zeroValue3
  t4 := Try.underlying4
  a4 := Try.isAgg4
  z4 := Try.sizeOf4
  v4 := Try.zeroValue4
  t22 := Try.underlying23
  a22 := Try.isAgg23
  z22 := Try.sizeOf23
  v22 := Try.zeroValue23
  i3 := by kernel_rfl }
open Go.RowKit Go.Lib in
theorem Try.slices_Clone_int (b off n c : Nat) (zs : List Int) (w : World) (hz : n ≤ zs.length) (hbig : n * 8 ≤ 140737488355328) (hc : ∀ j, j < zs.length → w.cell? ⟨b, off + j, none⟩ = some (.int .i64 (zs.getD j 0))) :
    Calls Try.prog 49 #[.slice (some ⟨b, off, none⟩) n c] w fun e w' => ∃ v', e = .returned v' ∧ w'.ownsRow w.heap.size 3 1 v' n ((zs.take n).map (Value.int .i64)) ∧ v' ≠ .slice none 0 0 ∧ Below w.heap.size w w' := Any.slices_Clone_int Try.laysNm215 b off n c zs w hz hbig hc
def Try.lays2n21_ren : Go.Shelf.Ren := ⟨fun | 21 => 39 | 27 => 56 | 28 => 57 | 35 => 61 | 39 => 63 | n => n, fun | 22 => 23 | 3 => 3 | 4 => 4 | 0 => 0 | n => n, fun | n => n⟩
theorem Try.lays2n21 : Go.Proofs.Lays2.n21 Try.prog Try.lays2n21_ren := {
  mixed := by kernel_rfl
  f21 := Try.func39.trans (congrArg some (by kernel_rfl))
  f27 := Try.func56.trans (congrArg some (by kernel_rfl))
  f28 := Try.func57.trans (congrArg some (by kernel_rfl))
  f35 := Try.func61.trans (congrArg some (by kernel_rfl))
  f39 := Try.func63.trans (congrArg some (by kernel_rfl))
  t0 := Try.underlying0
  a0 := Try.isAgg0
  z0 := Try.sizeOf0
  v0 := Try.zeroValue0
  t3 := Try.underlying3
  a3 := Try.isAgg3
  z3 := Try.sizeOf3
  v3 := Try.zeroValue3
  t4 := Try.underlying4
  a4 := Try.isAgg4
  z4 := Try.sizeOf4
  v4 := Try.zeroValue4
  t22 := Try.underlying23
  a22 := Try.isAgg23
  z22 := Try.sizeOf23
  v22 := Try.zeroValue23
  i3 := by kernel_rfl }
end Go.Proofs
namespace Go.Proofs.Ytebohpgdhbammaa
open Go.RowKit

set_option maxRecDepth 100000 in
set_option maxHeartbeats 1000000 in
theorem ins14 {W : World} {base b n c : Nat} {P : List Int} {x : Int} (own : W.ownsRow base 3 1 (.slice (some ⟨b, 0, none⟩) n c) n (ints P)) (hn : P.length = n) (h1 : 1 ≤ n) (h9 : n ≤ 1000) (hb : base ≤ W.heap.size) :
    Calls Try.prog 39 #[.slice (some ⟨b, 0, none⟩) n c, .int .i64 0, .slice (some ⟨W.heap.size, 0, none⟩) 1 1] (W.alloc (.cells #[.int .i64 x] 3)) fun e w' =>
      ∃ b' c', e = .returned (.slice (some ⟨b', 0, none⟩) (n + 1) c') ∧ w'.ownsRow base 3 1 (.slice (some ⟨b', 0, none⟩) (n + 1) c') (n + 1) (ints (x :: P)) ∧ Below base W w' := by
  have own1 := own.alloc (.cells #[.int .i64 x] 3)
  obtain ⟨hbl, hbu⟩ := own.lt b rfl
  obtain ⟨hnc, ys, hyl, hyt, hfull⟩ := own_full own1
  have hcm : c ≤ maxLen := by
    rcases own.2 with ⟨h', _⟩ | ⟨g', cap', cur, h', _, _, _, h4, _⟩
    · simp at h'
    · cases h'; exact h4
  have hPl : (ints P).length = n := by simp [ints, hn]
  have hcs : ∀ j v, (ints P)[j]? = some v → (W.alloc (.cells #[.int .i64 x] 3)).cell? ⟨b, 0 + j, none⟩ = some v := fun j v h => by
    have hj : j < n := by have := (List.getElem?_eq_some_iff.1 h).1; omega
    rw [Nat.zero_add, own1.cellAt j (by omega)]; exact h
  have hvs : ∀ j v, ([Value.int .i64 x])[j]? = some v → (W.alloc (.cells #[.int .i64 x] 3)).cell? ⟨W.heap.size, 0 + j, none⟩ = some v := fun j v h => by
    have hj : j = 0 := by have := (List.getElem?_eq_some_iff.1 h).1; simpa using this
    subst hj
    simp at h
    subst h
    simp
  have h1c : ∀ v ∈ ints P, v.oneCell' = true := fun v hv => by
    obtain ⟨y, _, rfl⟩ := List.mem_map.1 hv; rfl
  have h1v : ∀ v ∈ [Value.int .i64 x], v.oneCell' = true := fun v hv => by simp at hv; subst hv; rfl
  have hB0 : Below base W (W.alloc (.cells #[.int .i64 x] 3)) := (below_new W _).mono hb
  unfold maxLen at hcm
  by_cases hroom : n + 1 ≤ c
  · refine Calls.mono (R := fun e w' => e = .returned (.slice (some ⟨b, 0, none⟩) (n + 1) c) ∧ w' = ((W.alloc (.cells #[.int .i64 x] 3)).drew.setCells b (0 + (0 + 1)) ((ints P).drop 0)).setCells b (0 + 0) [.int .i64 x]) ?_ ?_
    · exact Any2.slices_Insert_int_shift Try.lays2n21 b 0 n c 0 W.heap.size 0 1 1 (ints P) [.int .i64 x] _ (by omega) (by omega) hroom (by omega) (by omega) hPl rfl hcs
        (fun j hj => by rw [Nat.zero_add, hfull.cellAt j (by omega), List.getElem?_eq_getElem (by omega)]; rfl)
        (fun j _ => hfull.frozenAt _) hvs h1c h1v 3 3 1 c (by unfold World.shape?; rw [heap_alloc_new]; rfl) (by
          rcases hfull.2 with ⟨h', _⟩ | ⟨g', cap', cur, h', _, hg, _, _, hcs', _⟩
          · simp at h'
          · cases h'
            unfold World.shape?
            rw [hg]
            simp only [Nat.mul_one] at hcs'
            rw [← hcs']) (by omega) (by unfold World.frozen?; simp only [heap_alloc_new]; rfl) (by unfold World.frozen?; simp only [heap_alloc_new]; rfl)
    · rintro e w' ⟨rfl, rfl⟩
      have d1 := own_drew hfull
      obtain ⟨o1, b1⟩ := own_cells (ints P) ys 1 _ d1
      obtain ⟨o2, b2⟩ := own_cells [.int .i64 x] (setL ys 1 (ints P)) 0 _ o1
      refine ⟨b, c, rfl, ?_, (hB0.drew.trans b1).trans b2⟩
      have := own_prefix o2 hroom
      have e1 : (setL (setL ys 1 (ints P)) 0 [.int .i64 x]).take (n + 1) = ints (x :: P) := by
        obtain ⟨y, ys', rfl⟩ : ∃ y ys', ys = y :: ys' := by
          cases ys with
          | nil => simp at hyl; omega
          | cons y ys' => exact ⟨y, ys', rfl⟩
        rw [setL_eq [.int .i64 x] _ _ (by rw [setL_len]; simp), setL_eq (ints P) _ _ (by omega), hPl]
        simp [ints, hn]
      rw [e1] at this
      exact this
  · refine Calls.mono (R := fun e w' => e = .returned (.slice (some ⟨(W.alloc (.cells #[.int .i64 x] 3)).heap.size, 0, none⟩) (n + 1) (grownCap (W.alloc (.cells #[.int .i64 x] 3)) (n + 1) c 3)) ∧
        w' = ((((W.alloc (.cells #[.int .i64 x] 3)).alloc (.cells (((ints P).take 0).toArray ++ Builtin.zeroCells (Value.int .i64 0).cells (n + 1 - 0) ++ Builtin.zeroCells (Value.int .i64 0).cells (grownCap (W.alloc (.cells #[.int .i64 x] 3)) (n + 1) c 3 - (n + 1))) 3)).drew.setCells (W.alloc (.cells #[.int .i64 x] 3)).heap.size 0 [.int .i64 x]).drew).setCells (W.alloc (.cells #[.int .i64 x] 3)).heap.size (0 + 1) ((ints P).drop 0)) ?_ ?_
    · exact Any2.slices_Insert_int_grow Try.lays2n21 b 0 n c 0 W.heap.size 0 1 1 (ints P) [.int .i64 x] _ (by omega) (by omega) hnc (by omega) (by omega) hPl rfl hcs hvs h1c h1v
    · rintro e w' ⟨rfl, rfl⟩
      obtain ⟨cap, hcap⟩ : ∃ cap, cap = grownCap (W.alloc (.cells #[.int .i64 x] 3)) (n + 1) c 3 := ⟨_, rfl⟩
      have hge : n + 1 ≤ cap := by rw [hcap]; exact grownCap_ge _ _ _ _
      have hle : cap ≤ maxLen := by rw [hcap]; exact grownCap_le_maxLen _ _ _ _ (by unfold maxLen; omega)
      rw [← hcap]
      obtain ⟨arr, harr⟩ : ∃ arr, arr = ((ints P).take 0).toArray ++ Builtin.zeroCells (Value.int .i64 0).cells (n + 1 - 0) ++ Builtin.zeroCells (Value.int .i64 0).cells (cap - (n + 1)) := ⟨_, rfl⟩
      have hsz : arr.size = cap := by rw [harr]; simp [Builtin.zeroCells, Value.cells]; omega
      rw [← harr]
      have o0 := World.ownsRow_lit (base := base) (e := 3) (size := 1) (W.alloc (.cells #[.int .i64 x] 3)) arr cap (Nat.le_trans hb (by simp)) hle (by rw [Nat.mul_one]; exact hsz)
      have b0 : Below base W ((W.alloc (.cells #[.int .i64 x] 3)).alloc (.cells arr 3)) := hB0.trans ((below_new _ _).mono (Nat.le_trans hb (by simp)))
      obtain ⟨o1, b1⟩ := own_cells [.int .i64 x] arr.toList 0 _ (own_drew o0)
      obtain ⟨o2, b2⟩ := own_cells (ints P) _ 1 _ (own_drew o1)
      refine ⟨_, cap, rfl, ?_, ((b0.drew.trans b1).drew.trans b2)⟩
      have := own_prefix o2 hge
      have hal : arr.toList.length = cap := by simpa using hsz
      have e1 : (setL (setL arr.toList 0 [.int .i64 x]) 1 (ints P)).take (n + 1) = ints (x :: P) := by
        obtain ⟨y, ys', hy⟩ : ∃ y ys', arr.toList = y :: ys' := by
          cases h : arr.toList with
          | nil => rw [h] at hal; simp at hal; omega
          | cons y ys' => exact ⟨y, ys', rfl⟩
        rw [hy] at hal ⊢
        simp only [List.length_cons] at hal
        rw [setL_eq (ints P) _ _ (by rw [setL_len]; simp only [List.length_cons]; omega), setL_eq [.int .i64 x] _ _ (by simp), hPl]
        simp [ints, hn]
      rw [e1] at this
      exact this

set_option maxRecDepth 100000 in
set_option maxHeartbeats 1000000 in
theorem ins14_0 {W : World} {base : Nat} {x : Int} (hb : base ≤ W.heap.size) :
    Calls Try.prog 39 #[.slice none 0 0, .int .i64 0, .slice (some ⟨W.heap.size, 0, none⟩) 1 1] (W.alloc (.cells #[.int .i64 x] 3)) fun e w' =>
      ∃ b' c', e = .returned (.slice (some ⟨b', 0, none⟩) 1 c') ∧ w'.ownsRow base 3 1 (.slice (some ⟨b', 0, none⟩) 1 c') 1 (ints [x]) ∧ Below base W w' := by
  have hvs : ∀ j v, ([Value.int .i64 x])[j]? = some v → (W.alloc (.cells #[.int .i64 x] 3)).cell? ⟨W.heap.size, 0 + j, none⟩ = some v := fun j v h => by
    have hj : j = 0 := by have := (List.getElem?_eq_some_iff.1 h).1; simpa using this
    subst hj
    simp at h
    subst h
    simp
  have h1v : ∀ v ∈ [Value.int .i64 x], v.oneCell' = true := fun v hv => by simp at hv; subst hv; rfl
  have hB0 : Below base W (W.alloc (.cells #[.int .i64 x] 3)) := (below_new W _).mono hb
  refine (Any2.slices_Insert_int_end_grow Try.lays2n21 none 0 0 W.heap.size 0 1 1 [] [.int .i64 x] _ (by omega) (by omega) (by omega) (by omega) rfl rfl (fun _ => rfl) (fun a h => by cases h) hvs h1v).mono ?_
  rintro e w' ⟨rfl, rfl⟩
  obtain ⟨cap, hcap⟩ : ∃ cap, cap = grownCap (W.alloc (.cells #[.int .i64 x] 3)) (0 + 1) 0 3 := ⟨_, rfl⟩
  have hge : 0 + 1 ≤ cap := by rw [hcap]; exact grownCap_ge _ _ _ _
  have hle : cap ≤ maxLen := by rw [hcap]; exact grownCap_le_maxLen _ _ _ _ (by unfold maxLen; omega)
  obtain ⟨arr, harr⟩ : ∃ arr, arr = (([] : List Value) ++ [Value.int .i64 x]).toArray ++ Builtin.zeroCells (Value.int .i64 0).cells (cap - (0 + 1)) := ⟨_, rfl⟩
  have hsz : arr.size = cap := by rw [harr]; simp [Builtin.zeroCells, Value.cells]; omega
  have o0 := World.ownsRow_lit (base := base) (e := 3) (size := 1) (W.alloc (.cells #[.int .i64 x] 3)).drew arr cap (Nat.le_trans hb (by show _ ≤ (W.alloc (.cells #[.int .i64 x] 3)).heap.size; simp)) hle (by rw [Nat.mul_one]; exact hsz)
  have := own_prefix o0 hge
  have e1 : arr.toList.take (0 + 1) = ints [x] := by rw [harr]; simp [ints]
  rw [e1] at this
  subst hcap harr
  exact ⟨_, _, rfl, this, (hB0.drew.trans ((below_new _ _).mono (Nat.le_trans hb (by show _ ≤ (W.alloc (.cells #[.int .i64 x] 3)).heap.size; simp))))⟩
set_option maxRecDepth 100000 in
set_option maxHeartbeats 4000000 in
theorem ll14_any {a aT : Option Addr} {n c m cT t : Nat} {S K : Int} {nd TB : List Int} {w : World} (s0 : 0 ≤ S) (s1 : S ≤ 100) (k0 : 0 ≤ K) (k1 : K ≤ 10) (HN : Hid (nd.length = n)) (hn : n ≤ 10) (hc : n ≤ c) (ht1 : 1 ≤ t) (ht : t ≤ n) (HM : Hid (TB.length = m)) (hm : t < m) (HT : Hid (∀ d, d ≤ t → TB.getD d 0 = Lt.T S K (Lo.fn nd) d)) (HA : Hid (ARow w a nd)) (HA' : Hid (ARow w aT TB)) (hb : Pf.allB nd 0 20 = true) :
    Calls Try.prog 40 #[.agg #[.slice a n c, .int .i64 S, .int .i64 K], .slice aT m cT, .int .i64 (t : Int)] w fun e w' => e = .returned (.int .i64 ((Lo.last S K (Lo.fn nd) t : Nat) : Int)) ∧ Below w.heap.size w w' := by
  have hB0 := below_new w (.cells #[.slice a n c, .int .i64 S, .int .i64 K] 25)
  have pb0 := TBox.new w (.slice a n c) (.int .i64 S) (.int .i64 K) 25
  obtain ⟨w0, hw0⟩ : ∃ W, W = w.alloc (.cells #[.slice a n c, .int .i64 S, .int .i64 K] 25) := ⟨_, rfl⟩
  rw [← hw0] at hB0 pb0
  have HW0 := hide hw0.symm
  obtain ⟨B, hB⟩ : ∃ b, b = w.heap.size := ⟨_, rfl⟩
  rw [← hB] at pb0
  have HBe := hide hB.symm
  obtain ⟨p0, p1, p2, _⟩ := pb0
  have R0 := hide (HA.out.below hB0)
  have R1 := hide (HA'.out.below hB0)
  have HB0 := hide hB0
  have HCU := hide (cu_any (w := w0) (c := c) (cT := cT) s0 s1 k0 k1 HN hn hc ht HM (by omega) (hide fun d hd => HT.out d (by omega)) R0 R1 hb)
  have HLL := hide (Lo.cuL_len S K nd t)
  have HGO := hide fun (d : Nat) (hl : Lo.dn S K (Lo.fn nd) t d = Lo.last S K (Lo.fn nd) t) (h : Lo.at_ S K (Lo.fn nd) t d ≠ Lt.T S K (Lo.fn nd) t) => Lo.dn_go (show 0 < t by omega) hl h
  have HSTOP := hide fun (d : Nat) (h : Lo.at_ S K (Lo.fn nd) t d = Lt.T S K (Lo.fn nd) t) => Lo.dn_stop (S := S) (K := K) (nd := Lo.fn nd) h
  have HLA : Hid (Lo.dn S K (Lo.fn nd) t (t - 1) = Lo.last S K (Lo.fn nd) t) := hide rfl
  clear hw0 hB hB0 HA HA' hb s0 s1 k0 k1
  go_enter Try.func40, Try.ntmps40
  go_upto_region 1 with fail
  rw [HW0.out, HBe.out]
  clear HW0 HBe
  go_wp2_with fail
  refine HCU.out.mono ?_
  rintro e w1 ⟨b1, rfl, hb1, o1⟩
  have HB1 := hide (HB0.out.trans (hb1.mono HB0.out.size))
  have RT := hide (R1.out.below hb1)
  have RC := hide (arow_owns HLL.out.symm o1.1)
  obtain ⟨b2, o2, rfl, r2⟩ := RT.out.at (i := t) (by rw [HM.out]; exact hm)
  rw [HT.out t (Nat.le_refl _)] at r2
  clear hb1 o1 HCU
  go_wp2_with fail
  go_loopw [8] (fun s wr => ∃ (d q : Nat), s = .int .i64 d ∧ d < t ∧ Hid (Lo.dn S K (Lo.fn nd) t d = Lo.last S K (Lo.fn nd) t) ∧ wr = w1.drewN q) (fun s _ => (intOf s).toNat)
  case atStart => exact ⟨t - 1, 0, by congr 1; omega, by omega, HLA, rfl⟩
  case round =>
    clear HLA
    obtain ⟨d, q, rfl, hdt, HD, rfl⟩ := hrel
    obtain ⟨b3, o3, e3, r3⟩ := RC.out.at (i := d) (by rw [HLL.out]; exact hdt)
    cases e3
    rw [Nat.zero_add, Lo.cuL_at hdt] at r3
    have i0 : (0 : Int) ≤ (d : Int) := by omega
    have i1 : (d : Int) < (t : Int) := by omega
    have i2 : (0 : Int) ≤ (t : Int) := by omega
    have i3 : (t : Int) < (m : Int) := by omega
    have HG1 := hide (HGO.out d HD.out)
    have HS1 := hide (HSTOP.out d)
    generalize Lo.at_ S K (Lo.fn nd) t d = X at *
    generalize Lt.T S K (Lo.fn nd) t = Y at *
    by_cases hxy : X = Y
    · subst hxy
      have HE : Hid (Lo.last S K (Lo.fn nd) t = d) := hide (by rw [← HD.out]; exact HS1.out rfl)
      have hxx : (X != X) = false := by simp
      go_wp2_with fail
      go_quiet (fail)
      go_wp2_with fail
      go_ret
      exact ⟨by rw [HE.out]; rfl, below_drewN (below_drewN HB1.out _) _⟩
    · have hxx : (X != Y) = true := by simpa using hxy
      obtain ⟨d1, hd1⟩ := HG1.out hxy
      have HD1 := hide hd1
      clear hd1
      go_wp2_with fail
      go_quiet (fail)
      go_wp2_with fail
      go_roundw
      case rel => exact ⟨d - 1, _, by first | (congr 1; omega) | go_num, by omega, HD1, rfl⟩
      case measure => simp only [intOf]; omega
end Go.Proofs.Ytebohpgdhbammaa
namespace Go.Proofs.Ytebohpgdhbammaa
namespace Lo
open Lt
def blL (nd : List Int) (S K : Int) : List Int := if goodB nd S K then lotsL nd (bdL nd S K) else []
def blI (nd : List Int) (S K : Int) : Int := if goodB nd S K then T S K (fn nd) nd.length else 0
theorem blL_le {nd : List Int} {S K : Int} : (blL nd S K).length ≤ 10 := by
  cases h : goodB nd S K
  · simp [blL, h]
  · rw [blL, if_pos h, lots_len]; exact (good_of h).n10
end Lo
open Go.RowKit
/-- The days found so far: nothing, or a list of one's own. -/
def DY14 (base : Nat) (w : World) (v : Value) (acc : List Int) : Prop := (acc = [] ∧ v = .slice none 0 0) ∨ (1 ≤ acc.length ∧ ∃ b c, v = .slice (some ⟨b, 0, none⟩) acc.length c ∧ w.ownsRow base 3 1 (.slice (some ⟨b, 0, none⟩) acc.length c) acc.length (ints acc))
theorem DY14.below {base : Nat} {w w' : World} {v : Value} {acc : List Int} (h : DY14 base w v acc) (hb : Below w.heap.size w w') : DY14 base w' v acc := by
  rcases h with h | ⟨h1, b, c, h2, h3⟩
  · exact Or.inl h
  · exact Or.inr ⟨h1, b, c, h2, own_below h3 hb⟩
theorem DY14.row {base : Nat} {w : World} {v : Value} {acc : List Int} (h : DY14 base w v acc) : ∃ a c, v = .slice a acc.length c ∧ ARow w a acc := by
  rcases h with ⟨rfl, rfl⟩ | ⟨_, b, c, h2, h3⟩
  · exact ⟨none, 0, rfl, Or.inl rfl⟩
  · exact ⟨_, c, h2, arow_owns rfl h3⟩
theorem ins_dy {W : World} {base : Nat} {v : Value} {acc : List Int} {x : Int} (h : DY14 base W v acc) (hb : base ≤ W.heap.size) (hl : acc.length ≤ 100) :
    Calls Try.prog 39 #[v, .int .i64 0, .slice (some ⟨W.heap.size, 0, none⟩) 1 1] (W.alloc (.cells #[.int .i64 x] 3)) fun e w' =>
      ∃ b' c', e = .returned (.slice (some ⟨b', 0, none⟩) (acc.length + 1) c') ∧ w'.ownsRow base 3 1 (.slice (some ⟨b', 0, none⟩) (acc.length + 1) c') (acc.length + 1) (ints (x :: acc)) ∧ Below base W w' := by
  rcases h with ⟨rfl, rfl⟩ | ⟨h1, b, c, rfl, h3⟩
  · exact ins14_0 hb
  · exact ins14 h3 rfl h1 (by omega) hb
set_option maxRecDepth 100000 in
set_option maxHeartbeats 8000000 in
theorem bl_w {a : Option Addr} {n c : Nat} {xs : List Int} {S K : Int} {w : World} (hc : n ≤ c) (HN : Hid (xs.length = n)) (HA : Hid (ARow w a xs)) :
    Calls Try.prog 10 #[.agg #[.slice a n c, .int .i64 S, .int .i64 K]] w fun e w' => ∃ v, e = .returned (.tuple #[v, .int .i64 (Lo.blI xs S K), .bool (Lo.goodB xs S K)]) ∧ Below w.heap.size w w' ∧ AV w' w.heap.size w'.heap.size v (Lo.blL xs S K).length (Lo.blL xs S K) := by
  have hB0 := below_new w (.cells #[.slice a n c, .int .i64 S, .int .i64 K] 25)
  have pb0 := TBox.new w (.slice a n c) (.int .i64 S) (.int .i64 K) 25
  obtain ⟨w0, hw0⟩ : ∃ W, W = w.alloc (.cells #[.slice a n c, .int .i64 S, .int .i64 K] 25) := ⟨_, rfl⟩
  rw [← hw0] at hB0 pb0
  have HW0 := hide hw0.symm
  obtain ⟨B, hB⟩ : ∃ b, b = w.heap.size := ⟨_, rfl⟩
  rw [← hB] at pb0
  have HBe := hide hB.symm
  have PB := hide pb0
  have R0 := hide (HA.out.below hB0)
  have HB0 := hide hB0
  clear hw0 hB pb0 hB0 HA
  obtain ⟨YY, hY⟩ : ∃ G, G = Lo.blL xs S K := ⟨_, rfl⟩
  obtain ⟨II, hI⟩ : ∃ G, G = Lo.blI xs S K := ⟨_, rfl⟩
  rw [← hY, ← hI]
  cases hg : Lo.goodB xs S K
  · have HG := hide hg
    have HNO : Hid (∀ W, Below w.heap.size w W → ∃ v, Ending.returned (.tuple #[.slice none 0 0, .int .i64 0, .bool false]) = .returned (.tuple #[v, .int .i64 II, .bool false]) ∧ Below w.heap.size w W ∧ AV W w.heap.size W.heap.size v YY.length YY) := hide fun W h => by
      rw [hY, hI, Lo.blL, Lo.blI, hg]
      exact ⟨_, rfl, h, av_nil14 _ _⟩
    obtain ⟨p0, p1, p2, _⟩ := PB.out
    clear hg hY hI
    go_enter Try.func10, Try.ntmps10
    go_upto_region 1 with fail
    rw [HW0.out, HBe.out]
    clear HW0 HBe
    go_wp2_with fail
    refine (gt_eq HN R0 HG).mono ?_
    rintro e w1 ⟨rfl, hb1⟩
    have HB1 := hide (HB0.out.trans (hb1.mono HB0.out.size))
    clear hb1
    go_wp2_with fail
    exact bodyPost_ret (v := .tuple #[.slice none 0 0, .int .i64 0, .bool false]) (by simp [results, Try.results10, go_sem]) rfl (HNO.out _ HB1.out)
  · have HG := hide hg
    have g := Lo.good_of hg
    obtain ⟨n1, n10, hall, s0, s1, k0, k1⟩ := g
    rw [HN.out] at n1 n10
    have HYES : Hid (∀ v W, Below w.heap.size w W → (∃ lo hi, w.heap.size ≤ lo ∧ AV W lo hi v n (Lo.lotsL xs (Lo.bdL xs S K))) → ∃ v', Ending.returned (.tuple #[v, .int .i64 (Lt.T S K (Lo.fn xs) n), .bool true]) = .returned (.tuple #[v', .int .i64 II, .bool true]) ∧ Below w.heap.size w W ∧ AV W w.heap.size W.heap.size v' YY.length YY) := hide fun v W h ⟨lo, hi, h1, h2⟩ => by
      rw [hY, hI, Lo.blL, Lo.blI, if_pos hg, if_pos hg, HN.out]
      refine ⟨v, rfl, h, ?_⟩
      rw [Lo.lots_len, HN.out]
      exact ⟨owns_low h2.1 h1, fun g hg => by have := (h2.1.lt g hg).2; exact this, Nat.le_refl _⟩
    have HLT := hide fun (W : World) (r : Hid (ARow W a xs)) => lt14_any (w := W) (c := c) s0 s1 k0 k1 HN n10 hc r hall
    have HTL : Hid ((Lt.tab S K (Lo.fn xs) n).length = n + 1) := hide (Lt.tab_len S K (Lo.fn xs) n)
    have HLA := hide fun (W : World) (r : Hid (ARow W a xs)) (t : Nat) (ht1 : 1 ≤ t) (ht : t ≤ n) (aT : Option Addr) (cT : Nat) (rT : Hid (ARow W aT (Lt.tab S K (Lo.fn xs) n))) => ll14_any (w := W) (c := c) (cT := cT) s0 s1 k0 k1 HN n10 hc ht1 ht HTL (by omega) (hide fun d hd => Lo.tab_at (by omega)) r rT hall
    have HLO := hide fun (W : World) (r : Hid (ARow W a xs)) (ds : List Int) (hds : ds.length ≤ 100) (a' : Option Addr) (c' : Nat) (r' : ARow W a' ds) => lo_av (w := W) (c := c) (c' := c') (m := ds.length) HN (hide rfl) n10 (by omega) r (hide r') hall
    have HBD : Hid (∀ t acc, 0 < t → Lo.bd S K (Lo.fn xs) t acc = Lo.bdL xs S K → Lo.bd S K (Lo.fn xs) (Lo.last S K (Lo.fn xs) t) (((Lo.last S K (Lo.fn xs) t : Nat) : Int) :: acc) = Lo.bdL xs S K ∧ Lo.last S K (Lo.fn xs) t < t) := hide fun t acc h0 h => ⟨by rw [← h, Lo.bd_pos h0], Lo.last_lt h0⟩
    have HBS : Hid (Lo.bd S K (Lo.fn xs) n [] = Lo.bdL xs S K) := hide (by unfold Lo.bdL; rw [HN.out])
    have HBZ : Hid (∀ acc, Lo.bd S K (Lo.fn xs) 0 acc = Lo.bdL xs S K → acc = Lo.bdL xs S K) := hide fun acc h => by rw [← h, Lo.bd_zero]
    have HTN := hide (Lo.tab_at (S := S) (K := K) (nd := Lo.fn xs) (Nat.le_refl n))
    obtain ⟨p0, p1, p2, _⟩ := PB.out
    clear hg hY hI hall s0 s1 k0 k1
    go_enter Try.func10, Try.ntmps10
    go_upto_region 1 with fail
    rw [HW0.out, HBe.out]
    clear HW0 HBe
    go_wp2_with fail
    refine (gt_eq HN R0 HG).mono ?_
    rintro e w1 ⟨rfl, hb1⟩
    have HU1 : Hid (Below w0.heap.size w0 w1) := hide hb1
    have R1 := hide (R0.out.below hb1)
    obtain ⟨p0, p1, p2, _⟩ := PB.out.below hb1
    clear hb1
    go_wp2_with fail
    refine (HLT.out _ R1).mono ?_
    rintro e w2 ⟨bT, cT, rfl, hb2, o2⟩
    have HU2 := hide (HU1.out.trans (hb2.mono HU1.out.size))
    have HB2 := hide (HB0.out.trans (HU2.out.mono HB0.out.size))
    have RT := hide (arow_owns HTL.out.symm o2.1)
    obtain ⟨p0, p1, p2, hBw⟩ := PB.out.below HU2.out
    have P2 := hide (PB.out.below HU2.out)
    have R2 := hide (R0.out.below HU2.out)
    have hz2 : w.heap.size ≤ w2.heap.size := HB2.out.size
    clear hb2 o2 R1 HU1
    go_wp2_with fail
    clear p0 p1 p2
    go_loopw [6, 7] (fun s6 s7 wr => ∃ (t : Nat) (acc : List Int), s7 = .int .i64 t ∧ t ≤ n ∧ acc.length + t ≤ n ∧ Hid (Lo.bd S K (Lo.fn xs) t acc = Lo.bdL xs S K) ∧ Hid (DY14 w2.heap.size wr s6 acc) ∧ Hid (Below w2.heap.size w2 wr)) (fun _ s7 _ => (intOf s7).toNat)
    case atStart => exact ⟨n, [], rfl, Nat.le_refl _, by simp, HBS, hide (Or.inl ⟨rfl, rfl⟩), hide (Below.refl _ _)⟩
    case round =>
      clear HBS
      obtain ⟨t, acc, rfl, htn, hlen, HBd, HD, HB⟩ := hrel
      obtain ⟨p0, p1, p2, _⟩ := P2.out.below HB.out
      by_cases h0 : 0 < t
      · have i0 : (0 : Int) < (t : Int) := by omega
        obtain ⟨hn1, hn2⟩ := HBD.out t acc h0 HBd.out
        have HN1 := hide hn1
        have HCall := hide (HLA.out wr (hide (R2.out.below HB.out)) t h0 htn _ cT (hide (RT.out.below HB.out)))
        generalize Lo.last S K (Lo.fn xs) t = l at *
        clear hn1
        go_wp2_with fail
        refine HCall.out.mono ?_
        rintro e w3 ⟨rfl, hb3⟩
        have HD3 := hide (HD.out.below hb3)
        have HB3 := hide (HB.out.trans (hb3.mono HB.out.size))
        have HINS := hide (ins_dy (x := (l : Int)) HD3.out HB3.out.size (by omega))
        clear hb3 HD
        go_wp2_with fail
        refine HINS.out.mono ?_
        rintro e w4 ⟨b4, c4, rfl, own4, hb4⟩
        have HB4 := hide (HB3.out.trans hb4)
        have HD4 : Hid (DY14 w2.heap.size w4 (.slice (some ⟨b4, 0, none⟩) (acc.length + 1) c4) ((l : Int) :: acc)) := hide (Or.inr ⟨by simp, b4, c4, rfl, own4⟩)
        have c0 : w4.cell? ⟨b4, 0, none⟩ = some (.int .i64 (l : Int)) := by rw [own4.cellAt 0 (by omega)]; rfl
        have l0 : (0 : Int) < ((acc.length + 1 : Nat) : Int) := by omega
        have l2 : ((l : Int) :: acc).length + l ≤ n := by simp only [List.length_cons]; omega
        clear own4 hb4 HINS HD3
        go_wp2_with fail
        exact ⟨⟨l, _, rfl, by omega, l2, HN1, HD4, HB4⟩, by simp only [intOf]; omega⟩
      · have ht0 : t = 0 := by omega
        subst ht0
        obtain rfl := HBZ.out acc HBd.out
        obtain ⟨a6, c6, rfl, r6⟩ := HD.out.row
        have HLQ := hide (HLO.out wr (hide (R2.out.below HB.out)) (Lo.bdL xs S K) (by omega) a6 c6 r6)
        have HCT : Hid (∀ W, Below w2.heap.size w2 W → W.cell? ⟨bT, n, none⟩ = some (.int .i64 (Lt.T S K (Lo.fn xs) n))) := hide fun W h => by
          obtain ⟨b7, o7, e7, r7⟩ := (RT.out.below h).at (i := n) (by rw [HTL.out]; omega)
          cases e7
          rw [Nat.zero_add] at r7
          rw [r7, HTN.out]
        have HST : Hid (∀ W1 W2, Below w2.heap.size w2 W1 → Below W1.heap.size W1 W2 → W2.cell? ⟨B, 0, none⟩ = some (.slice a n c) ∧ W2.cell? ⟨bT, n, none⟩ = some (.int .i64 (Lt.T S K (Lo.fn xs) n)) ∧ Below w2.heap.size w2 W2) := hide fun W1 W2 h1 h2 => by
          have h := h1.trans (h2.mono h1.size)
          exact ⟨(P2.out.below h).1, HCT.out _ h, h⟩
        have hS0 := HST.out wr wr.drew HB.out (Below.refl _ _).drew
        have j0 : (0 : Int) ≤ (n : Int) := by omega
        have j1 : (n : Int) < (n : Int) + 1 := by omega
        have j2 : (n : Int) < ((n + 1 : Nat) : Int) := by omega
        have HDW := hide (HLO.out wr.drew (hide (R2.out.below HB.out.drew)) (Lo.bdL xs S K) (by omega) a6 c6 r6)
        clear p0 p1 p2 r6 HLQ
        go_wp2_with fail
        go_region_held3 (fun w' => w'.cell? ⟨B, 0, none⟩ = some (.slice a n c) ∧ w'.cell? ⟨bT, n, none⟩ = some (.int .i64 (Lt.T S K (Lo.fn xs) n)) ∧ Below w2.heap.size w2 w')
          (first | exact hS0 | assumption | fail)
          (first
          | (go_at_call 41; obtain ⟨_, _, hbS⟩ := ‹_ ∧ _ ∧ _›; refine HDW.out.mono ?_; rintro e w4 ⟨b4, rfl, hb4, o4⟩; have HE := hide (show ∃ lo hi, w.heap.size ≤ lo ∧ AV w4 lo hi (.slice (some ⟨b4, 0, none⟩) n n) n (Lo.lotsL xs (Lo.bdL xs S K)) from ⟨_, _, Nat.le_trans hz2 hbS.size, o4⟩); clear o4; have hS4 := HST.out _ _ hbS hb4)
          | fail)
        obtain ⟨_, _, hbE⟩ := ‹_ ∧ _ ∧ _›
        have HBE := hide (HB2.out.trans (hbE.mono HB2.out.size))
        clear hbE hb4 hbS hS4 hS0
        go_wp2_with fail
        exact bodyPost_ret (v := .tuple #[.slice (some ⟨b4, 0, none⟩) n n, .int .i64 (Lt.T S K (Lo.fn xs) n), .bool true]) (by simp [results, Try.results10, go_sem]) rfl (HYES.out _ _ HBE.out HE.out)
end Go.Proofs.Ytebohpgdhbammaa
namespace Go.Proofs.Ytebohpgdhbammaa
namespace Lo
open Lt
theorem min_cu {S K : Int} {nd : List Int} {t d : Nat} (h1 : 1 ≤ d) (hd : d < t) : minTo (fn (cuL S K nd t)) (d + 1 - 1) = if at_ S K (fn nd) t d < minTo (fn (cuL S K nd t)) (d - 1) then at_ S K (fn nd) t d else minTo (fn (cuL S K nd t)) (d - 1) := by
  obtain ⟨m, rfl⟩ : ∃ m, d = m + 1 := ⟨d - 1, by omega⟩
  simp only [Nat.add_sub_cancel]
  rw [minTo, show fn (cuL S K nd t) (m + 1) = at_ S K (fn nd) t (m + 1) from cuL_at hd]
theorem min_cu0 {S K : Int} {nd : List Int} {t : Nat} (h : 1 ≤ t) : minTo (fn (cuL S K nd t)) (1 - 1) = one S K (fn nd) 0 t := by
  show fn (cuL S K nd t) 0 = _
  rw [show fn (cuL S K nd t) 0 = at_ S K (fn nd) t 0 from cuL_at h, at_, T_zero]; omega
end Lo
open Go.RowKit
theorem so14_z {a : Option Addr} {n c t : Nat} {S K : Int} {nd : List Int} {w : World} (s0 : 0 ≤ S) (s1 : S ≤ 100) (k0 : 0 ≤ K) (k1 : K ≤ 10) (HN : Hid (nd.length = n)) (hn : n ≤ 10) (ht : t ≤ n) (HA : Hid (ARow w a nd)) (hb : Pf.allB nd 0 20 = true) :
    Calls Try.prog 43 #[.agg #[.slice a n c, .int .i64 S, .int .i64 K], .int .i64 0, .int .i64 (t : Int)] w fun e w' => e = .returned (.int .i64 (Lt.one S K (Lo.fn nd) 0 t)) ∧ Below w.heap.size w w' := so14_any (d := 0) s0 s1 k0 k1 HN hn (Nat.zero_le _) ht HA hb
set_option maxRecDepth 100000 in
set_option maxHeartbeats 8000000 in
theorem slt14_any {a : Option Addr} {n c : Nat} {S K : Int} {nd : List Int} {w : World} (s0 : 0 ≤ S) (s1 : S ≤ 100) (k0 : 0 ≤ K) (k1 : K ≤ 10) (HN : Hid (nd.length = n)) (hn : n ≤ 10) (HA : Hid (ARow w a nd)) (hb : Pf.allB nd 0 20 = true) :
    Calls Try.prog 42 #[.agg #[.slice a n c, .int .i64 S, .int .i64 K]] w fun e w' => ∃ b cb, e = .returned (.slice (some ⟨b, 0, none⟩) (n + 1) cb) ∧ Below w.heap.size w w' ∧ AV w' w.heap.size w'.heap.size (.slice (some ⟨b, 0, none⟩) (n + 1) cb) (n + 1) (Lt.tab S K (Lo.fn nd) n) := by
  have hB0 := below_new w (.cells #[.slice a n c, .int .i64 S, .int .i64 K] 25)
  have pb0 := TBox.new w (.slice a n c) (.int .i64 S) (.int .i64 K) 25
  obtain ⟨w0, hw0⟩ : ∃ W, W = w.alloc (.cells #[.slice a n c, .int .i64 S, .int .i64 K] 25) := ⟨_, rfl⟩
  rw [← hw0] at hB0 pb0
  have HW0 := hide hw0.symm
  obtain ⟨B, hB⟩ : ∃ b, b = w.heap.size := ⟨_, rfl⟩
  rw [← hB] at pb0
  have HBe := hide hB.symm
  have PB := hide pb0
  have R0 := hide (HA.out.below hB0)
  have HB0 := hide hB0
  have HLIT := hide (show (w0.alloc (.cells #[.int .i64 0] 3)).ownsRow w0.heap.size 3 1 (.slice (some ⟨w0.heap.size, 0, none⟩) 1 1) 1 (ints (Lt.tab S K (Lo.fn nd) 0)) from by
    have h := World.ownsRow_lit (base := w0.heap.size) (e := 3) (size := 1) w0 #[.int .i64 0] 1 (Nat.le_refl _) (by unfold maxLen; omega) (by simp)
    exact h)
  have HTL : Hid (∀ t, (Lt.tab S K (Lo.fn nd) t).length = t + 1) := hide (Lt.tab_len S K (Lo.fn nd))
  have HP : ∀ i, i < n → 0 ≤ Lo.fn nd i ∧ Lo.fn nd i ≤ 20 := fun k hk => Pf.inB_yes (Pf.allB_get hb (show k < nd.length by rw [HN.out]; exact hk))
  have HTB := hide fun (d : Nat) (hd : d ≤ n) => Lo.T_bd hn s0 s1 k0 k1 HP d hd
  have HOB := hide fun (d t : Nat) (ht : t ≤ n) => Lo.one_bd hn s0 s1 k0 k1 HP (d := d) ht
  have HOne := hide fun (W : World) (h : Below w0.heap.size w0 W) (d t : Nat) (h1 : d ≤ t) (ht : t ≤ n) => so14_any (w := W) (c := c) (d := d) (t := t) s0 s1 k0 k1 HN hn h1 ht (hide (R0.out.below h)) hb
  have HOne0 := hide fun (W : World) (h : Below w0.heap.size w0 W) (t : Nat) (ht : t ≤ n) => so14_z (w := W) (c := c) (t := t) s0 s1 k0 k1 HN hn ht (hide (R0.out.below h)) hb
  have hBw : w.heap.size ≤ w0.heap.size := HB0.out.size
  have HST : Hid (∀ W1 W2, Below w0.heap.size w0 W1 → Below W1.heap.size W1 W2 → W2.cell? ⟨B, 0, none⟩ = some (.slice a n c) ∧ W2.cell? ⟨B, 1, none⟩ = some (.int .i64 S) ∧ W2.cell? ⟨B, 2, none⟩ = some (.int .i64 K) ∧ Below w0.heap.size w0 W2) := hide fun W1 W2 h1 h2 => by
    have h := h1.trans (h2.mono h1.size)
    obtain ⟨x0, x1, x2, _⟩ := PB.out.below h
    exact ⟨x0, x1, x2, h⟩
  clear hw0 hB pb0 hB0 HA hb s0 s1 k0 k1 HP
  go_enter Try.func42, Try.ntmps42
  go_upto_region 1 with fail
  rw [HW0.out, HBe.out]
  clear HW0 HBe
  go_wp2_with fail
  go_loopw [3, 4, 5, 6, 7] (fun s3 s _ _ _ wr => ∃ (t : Nat), s = .int .i64 t ∧ 1 ≤ t ∧ t ≤ n + 1 ∧ Hid (wr.ownsRow w0.heap.size 3 1 s3 t (ints (Lt.tab S K (Lo.fn nd) (t - 1)))) ∧ Hid (Below w0.heap.size w0 wr)) (fun _ s _ _ _ _ => n + 1 - (intOf s).toNat)
  case atStart => exact ⟨1, rfl, Nat.le_refl _, by omega, HLIT, hide (below_new _ _)⟩
  case round =>
    clear HLIT
    obtain ⟨t, rfl, ht1, htn, HO, HB⟩ := hrel
    obtain ⟨p0, p1, p2, _⟩ := PB.out.below HB.out
    obtain ⟨bT, cT, rfl, hcT, rT⟩ := own_at14 (by rw [HTL.out]; omega) HO.out ht1
    clear rT
    by_cases hlt : t ≤ n
    · have i1 : (t : Int) ≤ (n : Int) := by omega
      have HSTEP := hide (Lo.tab_step (S := S) (K := K) (nd := nd) (t := t) (by omega))
      have HMI := hide fun (d : Nat) (h1 : 1 ≤ d) (hd : d < t) => Lo.min_cu (S := S) (K := K) (nd := nd) h1 hd
      have HM0 := hide (Lo.min_cu0 (S := S) (K := K) (nd := nd) ht1)
      go_wp2_with fail
      refine (HOne0.out _ HB.out t hlt).mono ?_
      rintro e w3 ⟨rfl, hb3⟩
      have HB3 := hide (HB.out.trans (hb3.mono HB.out.size))
      have HO3 := hide (own_below HO.out hb3)
      clear hb3 HO p0 p1 p2
      rw [← HM0.out]
      go_wp2_with fail
      go_loopw [5, 6, 7] (fun s5 s6 _ wr => ∃ (d : Nat) (x : Int), s5 = .int .i64 x ∧ s6 = .int .i64 d ∧ 1 ≤ d ∧ d ≤ t ∧ Hid (x = Lt.minTo (Lo.fn (Lo.cuL S K nd t)) (d - 1)) ∧ Hid (Below w3.heap.size w3 wr)) (fun _ s6 _ _ => t - (intOf s6).toNat)
      case atStart => exact ⟨1, _, rfl, rfl, Nat.le_refl _, ht1, hide rfl, hide (Below.refl _ _)⟩
      case round =>
        obtain ⟨d, x, rfl, rfl, hd1, hdt, HX, HBd⟩ := hrel
        have HU := hide (HB3.out.trans (HBd.out.mono HB3.out.size))
        have HOd := hide (own_below HO3.out HBd.out)
        by_cases hlt2 : d < t
        · have j0 : (0 : Int) ≤ (d : Int) := by omega
          have j1 : (d : Int) < (t : Int) := by omega
          have HR2 : Hid (∀ W, Below w3.heap.size w3 W → W.cell? ⟨bT, d, none⟩ = some (.int .i64 (Lt.T S K (Lo.fn nd) d))) := hide fun W h => by
            have ho := own_below HO3.out h
            rw [ho.cellAt _ (by omega), ints_get _ _ (by rw [HTL.out]; omega), Lo.tab_at (by omega)]
          have HMd := hide (HMI.out d hd1 hlt2)
          rw [← HX.out] at HMd
          obtain ⟨u0, u1⟩ := HTB.out d (by omega)
          obtain ⟨v0, v1⟩ := HOB.out d t hlt
          have HAT : Hid (Lo.at_ S K (Lo.fn nd) t d = Lt.T S K (Lo.fn nd) d + Lt.one S K (Lo.fn nd) d t) := hide rfl
          rw [HAT.out] at HMd
          have HOd2 := hide fun (W : World) (h : Below w0.heap.size w0 W) => HOne.out W h d t hdt hlt
          generalize Lt.T S K (Lo.fn nd) d = X at *
          generalize Lt.one S K (Lo.fn nd) d t = Y at *
          have e1 : IntKind.i64.wrap (X + Y) = X + Y := by rw [IntKind.wrap_i64]; omega
          have HSS : Hid (∀ W1 W2, Below w3.heap.size w3 W1 → Below W1.heap.size W1 W2 → W2.cell? ⟨B, 0, none⟩ = some (.slice a n c) ∧ W2.cell? ⟨B, 1, none⟩ = some (.int .i64 S) ∧ W2.cell? ⟨B, 2, none⟩ = some (.int .i64 K) ∧ W2.cell? ⟨bT, d, none⟩ = some (.int .i64 X) ∧ Below w3.heap.size w3 W2) := hide fun W1 W2 h1 h2 => by
            have h := h1.trans (h2.mono h1.size)
            obtain ⟨x0, x1, x2, _⟩ := PB.out.below (HB3.out.trans (h.mono HB3.out.size))
            exact ⟨x0, x1, x2, HR2.out _ h, h⟩
          have hS0 := HSS.out wr wr.drew HBd.out (Below.refl _ _).drew
          have HQ : Hid (∀ W, Below w3.heap.size w3 W → Below w0.heap.size w0 W) := hide fun W h => HB3.out.trans (h.mono HB3.out.size)
          go_wp2_with fail
          go_region_held3 (fun w' => w'.cell? ⟨B, 0, none⟩ = some (.slice a n c) ∧ w'.cell? ⟨B, 1, none⟩ = some (.int .i64 S) ∧ w'.cell? ⟨B, 2, none⟩ = some (.int .i64 K) ∧ w'.cell? ⟨bT, d, none⟩ = some (.int .i64 X) ∧ Below w3.heap.size w3 w')
            (first | exact hS0 | assumption | fail)
            (first
            | (go_at_call 43; obtain ⟨_, _, _, _, hbS⟩ := ‹_ ∧ _ ∧ _ ∧ _ ∧ _›; refine (HOd2.out _ (HQ.out _ hbS)).mono ?_; rintro e w4 ⟨rfl, hb4⟩; have hS4 := HSS.out _ _ hbS hb4)
            | fail)
          obtain ⟨_, _, _, _, hbE⟩ := ‹_ ∧ _ ∧ _ ∧ _ ∧ _›
          have HBE := hide hbE
          clear hbE hb4 hbS hS4 hS0
          by_cases hxy : X + Y < x
          · rw [if_pos hxy] at HMd
            go_wp2_with fail
            go_roundw
            case rel => exact ⟨d + 1, X + Y, rfl, by go_num, by omega, by omega, hide HMd.out.symm, HBE⟩
            case measure => simp only [intOf]; omega
          · rw [if_neg hxy] at HMd
            go_wp2_with fail
            go_roundw
            case rel => exact ⟨d + 1, x, rfl, by go_num, by omega, by omega, hide HMd.out.symm, HBE⟩
            case measure => simp only [intOf]; omega
        · have hke : d = t := by omega
          subst hke
          obtain ⟨v', w', hr, own', hg⟩ := push_int (x := x) HOd.out (by omega) HU.out.size
          have HO' : Hid (w'.ownsRow w0.heap.size 3 1 v' (d + 1) (ints (Lt.tab S K (Lo.fn nd) (d + 1 - 1)))) := hide (by rw [Nat.add_sub_cancel, HSTEP.out, ints_snoc, ← HX.out]; exact own')
          have HB' := hide (HU.out.trans (grown_under' hg HOd.out (Nat.le_refl _) HU.out.size))
          clear own' hg HOd
          go_wp2_with (first | (at_builtin; refine Lib.wpList_append_run _ rfl _ _ _ _ rfl _ _ rfl rfl _ _ (hr _) ?_))
          go_roundw
          case rel => exact ⟨d + 1, by go_num, by omega, by omega, HO', HB'⟩
          case measure => simp only [intOf]; omega
    · have hke : t = n + 1 := by omega
      subst hke
      have HBB := hide (HB0.out.trans (HB.out.mono HB0.out.size))
      have j1 : ¬ (n : Int) + 1 ≤ (n : Int) := by omega
      go_wp2_with fail
      go_ret
      exact ⟨bT, cT, rfl, HBB.out, owns_low HO.out hBw, fun g hg => (HO.out.lt g hg).2, Nat.le_refl _⟩
end Go.Proofs.Ytebohpgdhbammaa
namespace Go.Proofs.Ytebohpgdhbammaa
open Go.RowKit

set_option maxRecDepth 100000 in
set_option maxHeartbeats 2000000 in
theorem sl14_any {a a' : Option Addr} {n c m c' : Nat} {xs ls : List Int} {S K : Int} {w : World} (HN : Hid (xs.length = n)) (HM : Hid (ls.length = m)) (HA : Hid (ARow w a xs)) (HA' : Hid (ARow w a' ls)) :
    Calls Try.prog 32 #[.agg #[.slice a n c, .int .i64 S, .int .i64 K], .slice a' m c'] w fun e w' => e = .returned (.bool (Lo.lotsB xs S K ls)) ∧ Below w.heap.size w w' := by
  have hB0 := below_new w (.cells #[.slice a n c, .int .i64 S, .int .i64 K] 25)
  have pb0 := TBox.new w (.slice a n c) (.int .i64 S) (.int .i64 K) 25
  obtain ⟨w0, hw0⟩ : ∃ W, W = w.alloc (.cells #[.slice a n c, .int .i64 S, .int .i64 K] 25) := ⟨_, rfl⟩
  rw [← hw0] at hB0 pb0
  have HW0 := hide hw0.symm
  obtain ⟨B, hB⟩ : ∃ b, b = w.heap.size := ⟨_, rfl⟩
  rw [← hB] at pb0
  have HBe := hide hB.symm
  have PB := hide pb0
  have R0 := hide (HA.out.below hB0)
  have R1 := hide (HA'.out.below hB0)
  have HB0 := hide hB0
  clear hw0 hB pb0 hB0 HA HA'
  cases hg : Lo.goodB xs S K
  · have HG := hide hg
    have HN0 : Hid (Lo.lotsB xs S K ls = false) := hide (by simp [Lo.lotsB, hg])
    obtain ⟨p0, p1, p2, _⟩ := PB.out
    clear hg
    go_enter Try.func32, Try.ntmps32
    go_upto_region 1 with fail
    rw [HW0.out, HBe.out]
    clear HW0 HBe
    go_wp2_with fail
    refine (sgt_eq HN R0 HG).mono ?_
    rintro e w1 ⟨rfl, hb1⟩
    have HB1 := hide (HB0.out.trans (hb1.mono HB0.out.size))
    clear hb1
    go_wp2_with fail
    go_ret
    exact ⟨ret_bool HN0.out.symm, HB1.out⟩
  · have HG := hide hg
    have g := Lo.good_of hg
    obtain ⟨n1, n10, hall, _⟩ := g
    rw [HN.out] at n1 n10
    by_cases hmn : m = n
    · subst hmn
      have e1 : ((m : Int) == (m : Int)) = true := by simp
      obtain ⟨b2, h2⟩ : ∃ b, Pf.allB ls 0 200 = b := ⟨_, rfl⟩
      have H2 := hide h2
      have HN0 : Hid (Lo.lotsB xs S K ls = b2) := hide (by simp [Lo.lotsB, h2, hg, HN.out, HM.out])
      obtain ⟨p0, p1, p2, _⟩ := PB.out
      clear hg h2 hall
      go_enter Try.func32, Try.ntmps32
      go_upto_region 1 with fail
      rw [HW0.out, HBe.out]
      clear HW0 HBe
      go_wp2_with fail
      refine (sgt_eq HN R0 HG).mono ?_
      rintro e w1 ⟨rfl, hb1⟩
      have HB1 := hide (HB0.out.trans (hb1.mono HB0.out.size))
      have R1x := hide (R1.out.below hb1)
      obtain ⟨p0, p1, p2, _⟩ := PB.out.below hb1
      clear hb1
      go_wp2_with fail
      refine (all_hid R1x HM (by omega) H2).mono ?_
      rintro e w2 ⟨rfl, hw2⟩
      obtain rfl := hw2.symm
      go_wp2_with fail
      go_ret
      exact ⟨ret_bool HN0.out.symm, HB1.out⟩
    · have e1 : ((m : Int) == (n : Int)) = false := by simp; omega
      have HN0 : Hid (Lo.lotsB xs S K ls = false) := hide (by simp [Lo.lotsB, HN.out, HM.out, hmn])
      obtain ⟨p0, p1, p2, _⟩ := PB.out
      clear hg hall
      go_enter Try.func32, Try.ntmps32
      go_upto_region 1 with fail
      rw [HW0.out, HBe.out]
      clear HW0 HBe
      go_wp2_with fail
      refine (sgt_eq HN R0 HG).mono ?_
      rintro e w1 ⟨rfl, hb1⟩
      have HB1 := hide (HB0.out.trans (hb1.mono HB0.out.size))
      obtain ⟨p0, p1, p2, _⟩ := PB.out.below hb1
      clear hb1
      go_wp2_with fail
      go_ret
      exact ⟨ret_bool HN0.out.symm, HB1.out⟩
/-- What the model's lots cost: -1 where something lacks. -/
def sc14 (S K : Int) (nd ls : List Int) (n : Nat) : Int := if Lo.enB nd ls then Lt.cst S K (Lo.fn nd) (Lo.fn ls) n else -1
set_option maxRecDepth 100000 in
set_option maxHeartbeats 4000000 in
theorem sc14_any {a a' : Option Addr} {n c c' : Nat} {S K : Int} {nd ls : List Int} {w : World} (s0 : 0 ≤ S) (s1 : S ≤ 100) (k0 : 0 ≤ K) (k1 : K ≤ 10) (HN : Hid (nd.length = n)) (HL : Hid (ls.length = n)) (hn : n ≤ 10) (HA : Hid (ARow w a nd)) (HA' : Hid (ARow w a' ls)) (hb1 : Pf.allB nd 0 20 = true) (hb2 : Pf.allB ls 0 200 = true) :
    Calls Try.prog 33 #[.agg #[.slice a n c, .int .i64 S, .int .i64 K], .slice a' n c'] w fun e w' => e = .returned (.int .i64 (sc14 S K nd ls n)) ∧ Below w.heap.size w w' := by
  have hB0 := below_new w (.cells #[.slice a n c, .int .i64 S, .int .i64 K] 25)
  have pb0 := TBox.new w (.slice a n c) (.int .i64 S) (.int .i64 K) 25
  obtain ⟨w0, hw0⟩ : ∃ W, W = w.alloc (.cells #[.slice a n c, .int .i64 S, .int .i64 K] 25) := ⟨_, rfl⟩
  rw [← hw0] at hB0 pb0
  have HW0 := hide hw0.symm
  obtain ⟨B, hB⟩ : ∃ b, b = w.heap.size := ⟨_, rfl⟩
  rw [← hB] at pb0
  have HBe := hide hB.symm
  obtain ⟨p0, p1, p2, _⟩ := pb0
  have R0 := hide (HA.out.below hB0)
  have R1 := hide (HA'.out.below hB0)
  have HB0 := hide hB0
  have HD := hide fun (k : Nat) (hk : k ≤ n) => Lo.left_bds hb1 hb2 HN.out HL.out hk
  have HCB := hide fun (k : Nat) (hk : k ≤ n) => Lo.cst_bds s0 s1 k0 k1 hn hb1 hb2 HN.out HL.out hk
  have HP1 := hide fun (k : Nat) (hk : k < n) => Pf.inB_yes (Pf.allB_get hb1 (show k < nd.length by rw [HN.out]; exact hk))
  have HP2 := hide fun (k : Nat) (hk : k < n) => Pf.inB_yes (Pf.allB_get hb2 (show k < ls.length by rw [HL.out]; exact hk))
  have HMB := hide fun (l : Int) (l0 : -200 ≤ l) (l1 : l ≤ 2000) => Lo.mul_bd k0 k1 l0 l1
  clear hw0 hB hB0 HA HA' hb1 hb2 k0 k1
  go_enter Try.func33, Try.ntmps33
  go_upto_region 1 with fail
  rw [HW0.out, HBe.out]
  clear HW0 HBe
  go_wp2_with fail
  go_loop [4, 5, 6, 7, 8, 11] (fun s4 s5 s6 _ _ s => ∃ (k : Nat) (x l : Int), s4 = .int .i64 0 ∧ s5 = .int .i64 x ∧ s6 = .int .i64 l ∧ s = .int .i64 k ∧ k ≤ n ∧ Hid (x = Lt.cst S K (Lo.fn nd) (Lo.fn ls) k) ∧ Hid (l = Lt.left (Lo.fn nd) (Lo.fn ls) k) ∧ Hid (∀ i, i < k → 0 ≤ Lt.left (Lo.fn nd) (Lo.fn ls) (i + 1))) (fun _ _ _ _ _ s => n - (intOf s).toNat)
  case atStart => exact ⟨0, 0, 0, rfl, rfl, rfl, rfl, Nat.zero_le _, hide rfl, hide rfl, hide fun i hi => absurd hi (Nat.not_lt_zero _)⟩
  case round =>
    obtain ⟨k, x, l, rfl, rfl, rfl, rfl, hk, HX, HLf, HALL⟩ := hrel
    by_cases hlt : k < n
    · obtain ⟨b1, o1, rfl, r1⟩ := R0.out.at (i := k) (by rw [HN.out]; exact hlt)
      obtain ⟨b2, o2, rfl, r2⟩ := R1.out.at (i := k) (by rw [HL.out]; exact hlt)
      have i0 : (0 : Int) ≤ (k : Int) := by omega
      have i1 : (k : Int) < (n : Int) := by omega
      obtain ⟨q0, q1⟩ := HP1.out k hlt
      obtain ⟨q2, q3⟩ := HP2.out k hlt
      obtain ⟨d0, d1⟩ := HD.out k hk
      obtain ⟨d2, d3⟩ := HD.out (k + 1) hlt
      obtain ⟨c0, c1⟩ := HCB.out k hk
      have HE : Hid (l + (ls.getD k 0 - nd.getD k 0) = Lt.left (Lo.fn nd) (Lo.fn ls) (k + 1)) := hide (by rw [HLf.out, Lo.left_succ])
      have HE2 : Hid (x + ((if 0 < ls.getD k 0 then S else 0) + K * Lt.left (Lo.fn nd) (Lo.fn ls) (k + 1)) = Lt.cst S K (Lo.fn nd) (Lo.fn ls) (k + 1)) := hide (by rw [HX.out, Lo.cst_succ])
      rw [← HX.out] at c0 c1
      rw [← HLf.out] at d0 d1
      rw [← HE.out] at d2 d3 HE2
      have hkk : (k : Int) ≤ 10 := by omega
      have x0 : -20000 ≤ x := by omega
      have x1 : x ≤ 201000 := by omega
      have l0 : -200 ≤ l := by omega
      have l1 : l ≤ 2000 := by omega
      have HNOT := hide fun (h : Lt.left (Lo.fn nd) (Lo.fn ls) (k + 1) < 0) => Lo.en_not (nd := nd) (lots := ls) (i := k) (by rw [HL.out]; exact hlt) h
      rw [← HE.out] at HNOT
      obtain ⟨m0, m1⟩ := HMB.out (l + (ls.getD k 0 - nd.getD k 0)) (by omega) (by omega)
      generalize nd.getD k 0 = p at *
      generalize ls.getD k 0 = q at *
      by_cases hneg : l + (q - p) < 0
      · have HF : Hid (sc14 S K nd ls n = -1) := hide (by rw [sc14, HNOT.out hneg]; rfl)
        clear d0 d1 d2 d3 c0 c1 hkk m0 m1
        by_cases hq : 0 < q
        · go_wp2_with fail
          go_ret
          exact ⟨ret_int HF.out.symm, HB0.out⟩
        · go_wp2_with fail
          go_ret
          exact ⟨ret_int HF.out.symm, HB0.out⟩
      · have HALL2 : Hid (∀ i, i < k + 1 → 0 ≤ Lt.left (Lo.fn nd) (Lo.fn ls) (i + 1)) := hide fun i hi => by
          by_cases e : i = k
          · subst e; rw [← HE.out]; omega
          · exact HALL.out i (by omega)
        clear d0 d1 d2 d3 c0 c1 hkk
        by_cases hq : 0 < q
        · rw [if_pos hq] at HE2
          have HE3 : Hid (x + S + K * (l + (q - p)) = Lt.cst S K (Lo.fn nd) (Lo.fn ls) (k + 1)) := hide (by rw [← HE2.out]; omega)
          go_wp2_with fail
          go_round
          case rel => exact ⟨k + 1, x + S + K * (l + (q - p)), l + (q - p), rfl, by go_num, by go_num, by go_num, by omega, HE3, HE, HALL2⟩
          case measure => simp only [intOf]; omega
        · rw [if_neg hq] at HE2
          have HE3 : Hid (x + K * (l + (q - p)) = Lt.cst S K (Lo.fn nd) (Lo.fn ls) (k + 1)) := hide (by rw [← HE2.out]; omega)
          go_wp2_with fail
          go_round
          case rel => exact ⟨k + 1, x + K * (l + (q - p)), l + (q - p), rfl, by go_num, by go_num, by go_num, by omega, HE3, HE, HALL2⟩
          case measure => simp only [intOf]; omega
    · have hke : k = n := by omega
      subst hke
      have HF : Hid (sc14 S K nd ls k = x) := hide (by
        rw [sc14, if_pos (Lo.en_of fun i hi => HALL.out i (by rw [HL.out] at hi; exact hi)), HX.out])
      go_wp2_with fail
      go_ret
      exact ⟨ret_int HF.out.symm, HB0.out⟩
set_option maxRecDepth 100000 in
set_option maxHeartbeats 4000000 in
theorem slc_any14 {a a' : Option Addr} {n c m c' : Nat} {xs ls : List Int} {S K : Int} {w : World} (HN : Hid (xs.length = n)) (HM : Hid (ls.length = m)) (HA : Hid (ARow w a xs)) (HA' : Hid (ARow w a' ls)) :
    Calls Try.prog 7 #[.agg #[.slice a n c, .int .i64 S, .int .i64 K], .slice a' m c'] w fun e w' => e = .returned (.tuple #[.int .i64 (Lo.lcI xs S K ls), .bool (Lo.okB xs S K ls)]) ∧ Below w.heap.size w w' := by
  have hB0 := below_new w (.cells #[.slice a n c, .int .i64 S, .int .i64 K] 25)
  have pb0 := TBox.new w (.slice a n c) (.int .i64 S) (.int .i64 K) 25
  obtain ⟨w0, hw0⟩ : ∃ W, W = w.alloc (.cells #[.slice a n c, .int .i64 S, .int .i64 K] 25) := ⟨_, rfl⟩
  rw [← hw0] at hB0 pb0
  have HW0 := hide hw0.symm
  obtain ⟨B, hB⟩ : ∃ b, b = w.heap.size := ⟨_, rfl⟩
  rw [← hB] at pb0
  have HBe := hide hB.symm
  have PB := hide pb0
  have R0 := hide (HA.out.below hB0)
  have R1 := hide (HA'.out.below hB0)
  have HB0 := hide hB0
  have HAE := hide (sl14_any (c := c) (c' := c') (S := S) (K := K) HN HM R0 R1)
  clear hw0 hB pb0 hB0 HA HA'
  cases ho : Lo.lotsB xs S K ls
  · have HI0 : Hid (Lo.lcI xs S K ls = 0) := hide (by simp [Lo.lcI, Lo.okB, ho])
    have HI1 : Hid (Lo.okB xs S K ls = false) := hide (by simp [Lo.okB, ho])
    rw [ho] at HAE
    obtain ⟨p0, p1, p2, _⟩ := PB.out
    clear ho
    go_enter Try.func7, Try.ntmps7
    go_upto_region 1 with fail
    rw [HW0.out, HBe.out]
    clear HW0 HBe
    go_wp2_with fail
    refine HAE.out.mono ?_
    rintro e w1 ⟨rfl, hb1⟩
    have HB1 := hide (HB0.out.trans (hb1.mono HB0.out.size))
    clear hb1
    go_wp2_with fail
    go_ret2
    exact ⟨by rw [HI0.out, HI1.out]; rfl, HB1.out⟩
  · rw [ho] at HAE
    have h := ho
    simp only [Lo.lotsB, Bool.and_eq_true, decide_eq_true_eq] at h
    have g := Lo.good_of h.1
    obtain ⟨n1, n10, hall, s0, s1, k0, k1⟩ := g
    have hmn : m = n := by rw [← HM.out, ← HN.out]; exact h.2.1
    subst hmn
    rw [HN.out] at n1 n10
    have HOL := hide fun (W : World) (hW : Below w0.heap.size w0 W) => sc14_any (c := c) (c' := c') (w := W) s0 s1 k0 k1 HN HM n10 (hide (R0.out.below hW)) (hide (R1.out.below hW)) hall h.2.2
    cases he : Lo.enB xs ls
    · have HI0 : Hid (Lo.lcI xs S K ls = 0) := hide (by simp [Lo.lcI, Lo.okB, he])
      have HI1 : Hid (Lo.okB xs S K ls = false) := hide (by simp [Lo.okB, he])
      have hsc : sc14 S K xs ls m = -1 := by rw [sc14, he]; rfl
      rw [hsc] at HOL
      obtain ⟨p0, p1, p2, _⟩ := PB.out
      clear ho h s0 s1 k0 k1 hall he hsc
      go_enter Try.func7, Try.ntmps7
      go_upto_region 1 with fail
      rw [HW0.out, HBe.out]
      clear HW0 HBe
      go_wp2_with fail
      refine HAE.out.mono ?_
      rintro e w1 ⟨rfl, hb1⟩
      have HB1 := hide hb1
      obtain ⟨p0, p1, p2, _⟩ := PB.out.below hb1
      clear hb1
      go_wp2_with fail
      refine (HOL.out _ HB1.out).mono ?_
      rintro e w2 ⟨rfl, hb2⟩
      have HB2 := hide (HB0.out.trans ((HB1.out.trans (hb2.mono HB1.out.size)).mono HB0.out.size))
      clear hb2
      go_wp2_with fail
      go_ret2
      exact ⟨by rw [HI0.out, HI1.out]; rfl, HB2.out⟩
    · have HI1 : Hid (Lo.okB xs S K ls = true) := hide (by simp [Lo.okB, he, ho])
      have HI0 : Hid (Lo.lcI xs S K ls = sc14 S K xs ls m) := hide (by rw [Lo.lcI, HI1.out, sc14, he, HN.out]; rfl)
      have hnn : 0 ≤ sc14 S K xs ls m := by
        rw [sc14, he, if_pos rfl]
        exact (Lo.cst_bd m s0 s1 k0 k1 fun j hj => by
          have h1 := Lo.left_bds hall h.2.2 HN.out HM.out (j := j) hj
          cases j with
          | zero => exact ⟨Int.le_refl _, by show (0 : Int) ≤ 2000; omega⟩
          | succ j => exact ⟨Lo.en_at he (by rw [HM.out]; omega), by omega⟩).1
      generalize sc14 S K xs ls m = V at *
      have hv : ¬ V < 0 := by omega
      obtain ⟨p0, p1, p2, _⟩ := PB.out
      clear ho h s0 s1 k0 k1 hall he
      go_enter Try.func7, Try.ntmps7
      go_upto_region 1 with fail
      rw [HW0.out, HBe.out]
      clear HW0 HBe
      go_wp2_with fail
      refine HAE.out.mono ?_
      rintro e w1 ⟨rfl, hb1⟩
      have HB1 := hide hb1
      obtain ⟨p0, p1, p2, _⟩ := PB.out.below hb1
      clear hb1
      go_wp2_with fail
      refine (HOL.out _ HB1.out).mono ?_
      rintro e w2 ⟨rfl, hb2⟩
      have HB2 := hide (HB0.out.trans ((HB1.out.trans (hb2.mono HB1.out.size)).mono HB0.out.size))
      clear hb2
      go_wp2_with fail
      go_ret2
      exact ⟨by rw [HI0.out, HI1.out]; rfl, HB2.out⟩
end Go.Proofs.Ytebohpgdhbammaa
namespace Go.Proofs.Ytebohpgdhbammaa
open Go.RowKit

theorem own_at14b {w : World} {lo n : Nat} {v : Value} {xs : List Value} (h : w.ownsRow lo 3 1 v n xs) (h1 : 1 ≤ n) : ∃ b c, v = .slice (some ⟨b, 0, none⟩) n c := by
  rcases h.2 with ⟨rfl, h0⟩ | ⟨g, cap, cur, rfl, _⟩
  · omega
  · exact ⟨g, cap, rfl⟩
theorem dy_own14 {base : Nat} {w : World} {v : Value} {acc : List Int} (h1 : 1 ≤ acc.length) (h : w.ownsRow base 3 1 v acc.length (ints acc)) : DY14 base w v acc := by
  obtain ⟨b, c, rfl⟩ := own_at14b h h1
  exact Or.inr ⟨h1, b, c, rfl, h⟩
theorem pre_int14 {W : World} {base : Nat} {a : Option Addr} {n c : Nat} {acc : List Int} {x : Int} (h : DY14 base W (.slice a n c) acc) (hb : base ≤ W.heap.size) (hl : acc.length ≤ 100) :
    ∃ v' w', (∀ ty, (Builtin.append_ #[23, 23] ty #[.slice (some ⟨W.heap.size, 0, none⟩) 1 1, .slice a n c]).run Try.prog (W.alloc (.cells #[.int .i64 x] 3)) = .ok v' w') ∧ w'.ownsRow base 3 1 v' (acc.length + 1) (ints (x :: acc)) ∧ Below base W w' := by
  obtain ⟨i0', hi', hz0, hz1, hz2⟩ := infoI
  obtain ⟨a', c', e, r⟩ := h.row
  cases e
  have hlit := World.ownsRow_lit (base := base) (e := 3) (size := 1) W #[.int .i64 x] 1 hb (by unfold maxLen; omega) (by simp)
  obtain ⟨v', w', h1, h2, h3⟩ := run_append_v (P := Try.prog) (W.alloc (.cells #[.int .i64 x] 3)) base 23 0 3 i0' _ 8 Try.underlying23 hi' hz0 hz1 hz2 rfl _ 1 _ hlit a acc.length c (ints acc) (by rw [ints_len]) (r.alloc _).vrow (fun u hu => by simp only [ints, List.mem_map] at hu; obtain ⟨_, _, rfl⟩ := hu; rfl) (by unfold maxLen; omega) (by omega) (by simp; omega)
  rw [Nat.add_comm] at h2
  exact ⟨v', w', fun _ => h1, h2, ((below_new W _).mono hb).trans (grown_under10 h3 (fun b e => by simp [Value.ownBlock] at e; omega) (by simp; omega))⟩
set_option maxRecDepth 100000 in
set_option maxHeartbeats 8000000 in
theorem sbl_w {a : Option Addr} {n c : Nat} {xs : List Int} {S K : Int} {w : World} (HN : Hid (xs.length = n)) (HA : Hid (ARow w a xs)) :
    Calls Try.prog 11 #[.agg #[.slice a n c, .int .i64 S, .int .i64 K]] w fun e w' => ∃ v, e = .returned (.tuple #[v, .int .i64 (Lo.blI xs S K), .bool (Lo.goodB xs S K)]) ∧ Below w.heap.size w w' ∧ AV w' w.heap.size w'.heap.size v (Lo.blL xs S K).length (Lo.blL xs S K) := by
  have hB0 := below_new w (.cells #[.slice a n c, .int .i64 S, .int .i64 K] 25)
  have pb0 := TBox.new w (.slice a n c) (.int .i64 S) (.int .i64 K) 25
  obtain ⟨w0, hw0⟩ : ∃ W, W = w.alloc (.cells #[.slice a n c, .int .i64 S, .int .i64 K] 25) := ⟨_, rfl⟩
  rw [← hw0] at hB0 pb0
  have HW0 := hide hw0.symm
  obtain ⟨B, hB⟩ : ∃ b, b = w.heap.size := ⟨_, rfl⟩
  rw [← hB] at pb0
  have HBe := hide hB.symm
  have PB := hide pb0
  have R0 := hide (HA.out.below hB0)
  have HB0 := hide hB0
  clear hw0 hB pb0 hB0 HA
  obtain ⟨YY, hY⟩ : ∃ G, G = Lo.blL xs S K := ⟨_, rfl⟩
  obtain ⟨II, hI⟩ : ∃ G, G = Lo.blI xs S K := ⟨_, rfl⟩
  rw [← hY, ← hI]
  cases hg : Lo.goodB xs S K
  · have HG := hide hg
    have HNO : Hid (∀ W, Below w.heap.size w W → ∃ v, Ending.returned (.tuple #[.slice none 0 0, .int .i64 0, .bool false]) = .returned (.tuple #[v, .int .i64 II, .bool false]) ∧ Below w.heap.size w W ∧ AV W w.heap.size W.heap.size v YY.length YY) := hide fun W h => by
      rw [hY, hI, Lo.blL, Lo.blI, hg]
      exact ⟨_, rfl, h, av_nil14 _ _⟩
    obtain ⟨p0, p1, p2, _⟩ := PB.out
    clear hg hY hI
    go_enter Try.func11, Try.ntmps11
    go_upto_region 1 with fail
    rw [HW0.out, HBe.out]
    clear HW0 HBe
    go_wp2_with fail
    refine (sgt_eq HN R0 HG).mono ?_
    rintro e w1 ⟨rfl, hb1⟩
    have HB1 := hide (HB0.out.trans (hb1.mono HB0.out.size))
    clear hb1
    go_wp2_with fail
    exact bodyPost_ret (v := .tuple #[.slice none 0 0, .int .i64 0, .bool false]) (by simp [results, Try.results11, go_sem]) rfl (HNO.out _ HB1.out)
  · have HG := hide hg
    have g := Lo.good_of hg
    have g0 := g
    obtain ⟨n1, n10, hall, s0, s1, k0, k1⟩ := g
    rw [HN.out] at n1 n10
    have HYES : Hid (∀ v W, Below w.heap.size w W → (∃ lo hi, w.heap.size ≤ lo ∧ AV W lo hi v n (Lo.lotsL xs (Lo.bdL xs S K))) → ∃ v', Ending.returned (.tuple #[v, .int .i64 (Lt.T S K (Lo.fn xs) n), .bool true]) = .returned (.tuple #[v', .int .i64 II, .bool true]) ∧ Below w.heap.size w W ∧ AV W w.heap.size W.heap.size v' YY.length YY) := hide fun v W h ⟨lo, hi, h1, h2⟩ => by
      rw [hY, hI, Lo.blL, Lo.blI, if_pos hg, if_pos hg, HN.out]
      refine ⟨v, rfl, h, ?_⟩
      rw [Lo.lots_len, HN.out]
      exact ⟨owns_low h2.1 h1, fun g hg => by have := (h2.1.lt g hg).2; exact this, Nat.le_refl _⟩
    have HLT := hide fun (W : World) (r : Hid (ARow W a xs)) => slt14_any (w := W) (c := c) s0 s1 k0 k1 HN n10 r hall
    have HTL : Hid ((Lt.tab S K (Lo.fn xs) n).length = n + 1) := hide (Lt.tab_len S K (Lo.fn xs) n)
    have HP : ∀ i, i < n → 0 ≤ Lo.fn xs i ∧ Lo.fn xs i ≤ 20 := fun k hk => Pf.inB_yes (Pf.allB_get hall (show k < xs.length by rw [HN.out]; exact hk))
    have HTB := hide fun (d : Nat) (hd : d ≤ n) => Lo.T_bd n10 s0 s1 k0 k1 HP d hd
    have HOB := hide fun (d t : Nat) (ht : t ≤ n) => Lo.one_bd n10 s0 s1 k0 k1 HP (d := d) ht
    have HOne := hide fun (W : World) (r : Hid (ARow W a xs)) (d t : Nat) (h1 : d ≤ t) (ht : t ≤ n) => so14_any (w := W) (c := c) (d := d) (t := t) s0 s1 k0 k1 HN n10 h1 ht r hall
    have hDD : Lo.dayB (Lo.bdL xs S K) n = true := by rw [← HN.out]; exact Lo.bdL_days (by rw [HN.out]; exact n1)
    have HFor := hide fun (W : World) (r : Hid (ARow W a xs)) (a' : Option Addr) (c' : Nat) (r' : ARow W a' (Lo.bdL xs S K)) => sfor_any (w := W) (c := c) (c' := c') (S := S) (K := K) (m := (Lo.bdL xs S K).length) HN (hide rfl) n10 hDD r (hide r') hall
    have hok := Lo.lots_ok (nd := xs) (days := Lo.bdL xs S K) hg
    have hBC := Lo.best_cost g0
    rw [HN.out] at hBC
    have hok2 := hok
    simp only [Lo.okB, Lo.lotsB, Bool.and_eq_true, decide_eq_true_eq] at hok2
    have HLL : Hid ((Lo.lotsL xs (Lo.bdL xs S K)).length = n) := hide (by rw [Lo.lots_len, HN.out])
    have hsc : sc14 S K xs (Lo.lotsL xs (Lo.bdL xs S K)) n = Lt.T S K (Lo.fn xs) n := by rw [sc14, if_pos hok2.2, hBC]
    have HSC := hide fun (W : World) (r : Hid (ARow W a xs)) (a' : Option Addr) (r' : ARow W a' (Lo.lotsL xs (Lo.bdL xs S K))) => sc14_any (w := W) (c := c) (c' := n) s0 s1 k0 k1 HN HLL n10 r (hide r') hall hok2.1.2.2
    rw [hsc] at HSC
    have HGO := hide fun (t d : Nat) (h0 : 0 < t) (hl : Lo.dn S K (Lo.fn xs) t d = Lo.last S K (Lo.fn xs) t) (h : Lo.at_ S K (Lo.fn xs) t d ≠ Lt.T S K (Lo.fn xs) t) => Lo.dn_go h0 hl h
    have HSTOP := hide fun (t d : Nat) (h : Lo.at_ S K (Lo.fn xs) t d = Lt.T S K (Lo.fn xs) t) => Lo.dn_stop (S := S) (K := K) (nd := Lo.fn xs) h
    have HBD : Hid (∀ t acc, 0 < t → Lo.bd S K (Lo.fn xs) t acc = Lo.bdL xs S K → Lo.bd S K (Lo.fn xs) (Lo.last S K (Lo.fn xs) t) (((Lo.last S K (Lo.fn xs) t : Nat) : Int) :: acc) = Lo.bdL xs S K ∧ Lo.last S K (Lo.fn xs) t < t) := hide fun t acc h0 h => ⟨by rw [← h, Lo.bd_pos h0], Lo.last_lt h0⟩
    have HBS : Hid (Lo.bd S K (Lo.fn xs) n [] = Lo.bdL xs S K) := hide (by unfold Lo.bdL; rw [HN.out])
    have HBZ : Hid (∀ acc, Lo.bd S K (Lo.fn xs) 0 acc = Lo.bdL xs S K → acc = Lo.bdL xs S K) := hide fun acc h => by rw [← h, Lo.bd_zero]
    obtain ⟨p0, p1, p2, _⟩ := PB.out
    clear hg hY hI hall s0 s1 k0 k1 HP hDD hok hok2 hBC hsc g0
    go_enter Try.func11, Try.ntmps11
    go_upto_region 1 with fail
    rw [HW0.out, HBe.out]
    clear HW0 HBe
    go_wp2_with fail
    refine (sgt_eq HN R0 HG).mono ?_
    rintro e w1 ⟨rfl, hb1⟩
    have HU1 : Hid (Below w0.heap.size w0 w1) := hide hb1
    have R1 := hide (R0.out.below hb1)
    obtain ⟨p0, p1, p2, _⟩ := PB.out.below hb1
    clear hb1
    go_wp2_with fail
    refine (HLT.out _ R1).mono ?_
    rintro e w2 ⟨bT, cT, rfl, hb2, o2⟩
    have HU2 := hide (HU1.out.trans (hb2.mono HU1.out.size))
    have HB2 := hide (HB0.out.trans (HU2.out.mono HB0.out.size))
    have RT := hide (arow_owns HTL.out.symm o2.1)
    obtain ⟨p0, p1, p2, hBw⟩ := PB.out.below HU2.out
    have P2 := hide (PB.out.below HU2.out)
    have R2 := hide (R0.out.below HU2.out)
    have hz2 : w.heap.size ≤ w2.heap.size := HB2.out.size
    have HCT : Hid (∀ W, Below w2.heap.size w2 W → ∀ d, d ≤ n → W.cell? ⟨bT, d, none⟩ = some (.int .i64 (Lt.T S K (Lo.fn xs) d))) := hide fun W h d hd => by
      obtain ⟨b7, o7, e7, r7⟩ := (RT.out.below h).at (i := d) (by rw [HTL.out]; omega)
      cases e7
      rw [Nat.zero_add] at r7
      rw [r7, Lo.tab_at hd]
    clear hb2 o2 R1 HU1
    go_wp2_with fail
    clear p0 p1 p2
    go_loopw [6, 7, 8] (fun s6 s7 _ wr => ∃ (t : Nat) (acc : List Int), s7 = .int .i64 t ∧ t ≤ n ∧ acc.length + t ≤ n ∧ Hid (Lo.bd S K (Lo.fn xs) t acc = Lo.bdL xs S K) ∧ Hid (DY14 w2.heap.size wr s6 acc) ∧ Hid (Below w2.heap.size w2 wr)) (fun _ s7 _ _ => (intOf s7).toNat)
    case atStart => exact ⟨n, [], rfl, Nat.le_refl _, by simp, HBS, hide (Or.inl ⟨rfl, rfl⟩), hide (Below.refl _ _)⟩
    case round =>
      clear HBS
      obtain ⟨t, acc, rfl, htn, hlen, HBd, HD, HB⟩ := hrel
      obtain ⟨p0, p1, p2, _⟩ := P2.out.below HB.out
      by_cases h0 : 0 < t
      · have i0 : (0 : Int) < (t : Int) := by omega
        obtain ⟨hn1, hn2⟩ := HBD.out t acc h0 HBd.out
        have HN1 := hide hn1
        clear hn1
        obtain ⟨aD, cD, rfl, rD⟩ := HD.out.row
        clear rD
        obtain ⟨w3, hw3⟩ : ∃ W, W = wr := ⟨_, rfl⟩
        subst hw3
        go_wp2_with fail
        clear p0 p1 p2
        go_loopw [8] (fun s8 wr => ∃ (d : Nat), s8 = .int .i64 d ∧ d < t ∧ Hid (Lo.dn S K (Lo.fn xs) t d = Lo.last S K (Lo.fn xs) t) ∧ Hid (Below w3.heap.size w3 wr)) (fun s8 _ => (intOf s8).toNat)
        case atStart => exact ⟨t - 1, by congr 1; omega, by omega, hide rfl, hide (Below.refl _ _)⟩
        case round =>
          obtain ⟨d, rfl, hdt, HDn, HBd2⟩ := hrel
          have HU := hide (HB.out.trans (HBd2.out.mono HB.out.size))
          have j0 : (0 : Int) ≤ (d : Int) := by omega
          have j1 : (d : Int) < (n : Int) + 1 := by omega
          have j2 : (d : Int) < ((n + 1 : Nat) : Int) := by omega
          have j3 : (0 : Int) ≤ (t : Int) := by omega
          have j4 : (t : Int) < (n : Int) + 1 := by omega
          have j5 : (t : Int) < ((n + 1 : Nat) : Int) := by omega
          have HG1 := hide (HGO.out t d h0 HDn.out)
          have HS1 := hide (HSTOP.out t d)
          obtain ⟨u0, u1⟩ := HTB.out d (by omega)
          obtain ⟨v0, v1⟩ := HOB.out d t htn
          have HC1 := hide fun (W : World) (h : Below w2.heap.size w2 W) => HCT.out W h d (by omega)
          have HC2 := hide fun (W : World) (h : Below w2.heap.size w2 W) => HCT.out W h t htn
          have HOd := hide fun (W : World) (h : Below w2.heap.size w2 W) => HOne.out W (hide (R2.out.below h)) d t (by omega) htn
          have HAT : Hid (Lo.at_ S K (Lo.fn xs) t d = Lt.T S K (Lo.fn xs) d + Lt.one S K (Lo.fn xs) d t) := hide rfl
          rw [HAT.out] at HG1 HS1
          generalize Lt.T S K (Lo.fn xs) d = X at *
          generalize Lt.one S K (Lo.fn xs) d t = Y at *
          generalize Lt.T S K (Lo.fn xs) t = Z at *
          have e1 : IntKind.i64.wrap (X + Y) = X + Y := by rw [IntKind.wrap_i64]; omega
          have HSS : Hid (∀ W1 W2, Below w3.heap.size w3 W1 → Below W1.heap.size W1 W2 → W2.cell? ⟨B, 0, none⟩ = some (.slice a n c) ∧ W2.cell? ⟨B, 1, none⟩ = some (.int .i64 S) ∧ W2.cell? ⟨B, 2, none⟩ = some (.int .i64 K) ∧ W2.cell? ⟨bT, d, none⟩ = some (.int .i64 X) ∧ W2.cell? ⟨bT, t, none⟩ = some (.int .i64 Z) ∧ Below w3.heap.size w3 W2) := hide fun W1 W2 h1 h2 => by
            have h := h1.trans (h2.mono h1.size)
            have h' := HB.out.trans (h.mono HB.out.size)
            obtain ⟨x0, x1, x2, _⟩ := P2.out.below h'
            exact ⟨x0, x1, x2, HC1.out _ h', HC2.out _ h', h⟩
          have hS0 := HSS.out wr wr.drew HBd2.out (Below.refl _ _).drew
          have HQ : Hid (∀ W, Below w3.heap.size w3 W → Below w2.heap.size w2 W) := hide fun W h => HB.out.trans (h.mono HB.out.size)
          clear HC1 HC2
          go_wp2_with fail
          go_region_held3 (fun w' => w'.cell? ⟨B, 0, none⟩ = some (.slice a n c) ∧ w'.cell? ⟨B, 1, none⟩ = some (.int .i64 S) ∧ w'.cell? ⟨B, 2, none⟩ = some (.int .i64 K) ∧ w'.cell? ⟨bT, d, none⟩ = some (.int .i64 X) ∧ w'.cell? ⟨bT, t, none⟩ = some (.int .i64 Z) ∧ Below w3.heap.size w3 w')
            (first | exact hS0 | assumption | fail)
            (first
            | (go_at_call 43; obtain ⟨_, _, _, _, _, hbS⟩ := ‹_ ∧ _ ∧ _ ∧ _ ∧ _ ∧ _›; refine (HOd.out _ (HQ.out _ hbS)).mono ?_; rintro e w4 ⟨rfl, hb4⟩; have hS4 := HSS.out _ _ hbS hb4)
            | fail)
          obtain ⟨_, _, _, _, _, hbE⟩ := ‹_ ∧ _ ∧ _ ∧ _ ∧ _ ∧ _›
          have HBE := hide hbE
          clear hbE hb4 hbS hS4 hS0
          by_cases hxy : X + Y = Z
          · have hxx : (X + Y != Z) = false := by simpa using hxy
            have HLs : Hid (Lo.last S K (Lo.fn xs) t = d) := hide (by rw [← HDn.out]; exact HS1.out hxy)
            rw [HLs.out] at HN1 hn2
            have HB4 := hide (HQ.out _ HBE.out)
            obtain ⟨v', w', hr, own', hbw⟩ := pre_int14 (x := (d : Int)) (HD.out.below HBE.out) HB4.out.size (by omega)
            have HD' : Hid (DY14 w2.heap.size w' v' ((d : Int) :: acc)) := hide (dy_own14 (by simp) (by simpa using own'))
            have HB' := hide (HB4.out.trans hbw)
            have l2 : ((d : Int) :: acc).length + d ≤ n := by simp only [List.length_cons]; omega
            clear own' hbw hxy
            go_wp2_with (first | (at_builtin; refine Lib.wpList_append_run _ rfl _ _ _ _ rfl _ _ rfl rfl _ _ (hr _) ?_))
            exact ⟨⟨d, _, rfl, by omega, l2, HN1, HD', HB'⟩, by simp only [intOf]; omega⟩
          · have hxx : (X + Y != Z) = true := by simpa using hxy
            obtain ⟨d1, hd1⟩ := HG1.out hxy
            have HD1 := hide hd1
            clear hd1
            go_wp2_with fail
            go_roundw
            case rel => exact ⟨d - 1, by first | (congr 1; omega) | go_num, by omega, HD1, HBE⟩
            case measure => simp only [intOf]; omega
      · have ht0 : t = 0 := by omega
        subst ht0
        obtain rfl := HBZ.out acc HBd.out
        obtain ⟨a6, c6, rfl, r6⟩ := HD.out.row
        have HFq := hide (HFor.out wr (hide (R2.out.below HB.out)) a6 c6 r6)
        clear r6
        go_wp2_with fail
        refine HFq.out.mono ?_
        rintro e w4 ⟨b4, rfl, hb4, o4⟩
        have HB4 := hide (HB.out.trans (hb4.mono HB.out.size))
        have R4 := hide (R2.out.below HB4.out)
        have RL := hide (arow_owns HLL.out.symm o4.1)
        have O4 := hide o4
        have hzb : w.heap.size ≤ wr.heap.size := Nat.le_trans hz2 HB.out.size
        obtain ⟨p0, p1, p2, _⟩ := P2.out.below HB4.out
        clear hb4 o4
        go_wp2_with fail
        refine (HSC.out _ R4 _ RL.out).mono ?_
        rintro e w5 ⟨rfl, hb5⟩
        have HBE := hide (HB2.out.trans ((HB4.out.trans (hb5.mono HB4.out.size)).mono HB2.out.size))
        have HE := hide (show ∃ lo hi, w.heap.size ≤ lo ∧ AV w5 lo hi (.slice (some ⟨b4, 0, none⟩) n n) n (Lo.lotsL xs (Lo.bdL xs S K)) from ⟨_, _, hzb, O4.out.below hb5⟩)
        clear hb5
        go_wp2_with fail
        exact bodyPost_ret (v := .tuple #[.slice (some ⟨b4, 0, none⟩) n n, .int .i64 (Lt.T S K (Lo.fn xs) n), .bool true]) (by simp [results, Try.results11, go_sem]) rfl (HYES.out _ _ HBE.out HE.out)
end Go.Proofs.Ytebohpgdhbammaa
