/-
  Lots on given days: what lotsOn of the program and l14For of the model answer.
-/
import Derived.Test.YticekgjgknfloaaAd14
import Derived.Test.YticekgjgknfloaaRf14
namespace Go.Proofs.Yticekgjgknfloaa
namespace Lo
open Lt
open Bx (sumTo lev)
theorem day_le {D : List Int} {n : Nat} (h : dayB D n = true) : D.length ≤ n := by
  simp only [dayB, Bool.and_eq_true] at h
  exact Ma.riseB_len h.2
theorem day_pos {D : List Int} {n : Nat} (h : dayB D n = true) : 0 < D.length := by
  simp only [dayB, Bool.and_eq_true, decide_eq_true_eq] at h
  exact h.1.1
theorem day_rise {D : List Int} {n : Nat} (h : dayB D n = true) {i : Nat} (hi : i < D.length) : Ma.least D i ≤ D.getD i 0 ∧ D.getD i 0 ≤ (n : Int) - 1 := by
  simp only [dayB, Bool.and_eq_true] at h
  exact Pf.inB_yes (List.all_eq_true.1 h.2 i (by simpa using hi))
theorem day_at {D : List Int} {n : Nat} (h : dayB D n = true) {i : Nat} (hi : i < D.length) : ∃ d : Nat, D.getD i 0 = (d : Int) ∧ d < n := by
  have h1 := day_rise h hi
  have h2 : 0 ≤ Ma.least D i := by
    simp only [dayB, Bool.and_eq_true] at h
    exact Ma.least_nn (many := n) fun j hj => List.all_eq_true.1 h.2 j (by simp; omega)
  exact ⟨(D.getD i 0).toNat, by omega, by omega⟩
theorem day_lt {D : List Int} {n : Nat} (h : dayB D n = true) {i : Nat} (hi : i + 1 < D.length) : D.getD i 0 < D.getD (i + 1) 0 := by
  have := (day_rise h hi).1
  simp only [Ma.least, Nat.add_eq_zero_iff, Nat.one_ne_zero, and_false, if_false, Nat.add_sub_cancel] at this
  omega
theorem day_mono {D : List Int} {n : Nat} (h : dayB D n = true) {i : Nat} : ∀ j, i ≤ j → j < D.length → D.getD i 0 ≤ D.getD j 0
  | 0, h1, _ => by
    have : i = 0 := by omega
    subst this; exact Int.le_refl _
  | j + 1, h1, h2 => by
    by_cases e : i = j + 1
    · subst e; exact Int.le_refl _
    · have a := day_mono h (i := i) j (by omega) (by omega)
      have b := day_lt h h2
      omega
/-- Where the i-th of these days begins; behind them, the end. -/
def bnd (D : List Int) (n i : Nat) : Nat := if i < D.length then (D.getD i 0).toNat else n
theorem bnd_lt {D : List Int} {n i : Nat} (hi : i < D.length) : bnd D n i = (D.getD i 0).toNat := by rw [bnd, if_pos hi]
theorem bnd_all (D : List Int) (n : Nat) : bnd D n D.length = n := by rw [bnd, if_neg (by omega)]
theorem bnd_zero {D : List Int} {n : Nat} (h : dayB D n = true) : bnd D n 0 = 0 := by
  rw [bnd_lt (day_pos h)]
  simp only [dayB, Bool.and_eq_true, beq_iff_eq] at h
  rw [h.1.2]; rfl
theorem has_day {D : List Int} {n : Nat} (h : dayB D n = true) {i : Nat} (hi : i < D.length) : D.contains ((bnd D n i : Nat) : Int) = true := by
  obtain ⟨d, e, _⟩ := day_at h hi
  rw [bnd_lt hi, e, Int.toNat_natCast, ← e, Pf.getD_lt D 0 hi, List.contains_eq_mem, decide_eq_true_eq]
  exact List.getElem_mem _
/-- A day of these, and the next of them. -/
structure Seg (D : List Int) (n d t : Nat) : Prop where
  lt : d < t
  tn : t ≤ n
  hd : D.contains (d : Int) = true
  ht : t = n ∨ D.contains (t : Int) = true
  no : ∀ x : Nat, D.contains (x : Int) = true → x < t → x ≤ d
theorem seg_day {D : List Int} {n : Nat} (h : dayB D n = true) {i : Nat} (hi : i < D.length) : Seg D n (bnd D n i) (bnd D n (i + 1)) := by
  obtain ⟨d, e, hd⟩ := day_at h hi
  have eb : bnd D n i = d := by rw [bnd_lt hi, e]; rfl
  by_cases h1 : i + 1 < D.length
  · obtain ⟨t, e1, ht⟩ := day_at h h1
    have et : bnd D n (i + 1) = t := by rw [bnd_lt h1, e1]; rfl
    have hl := day_lt h h1
    refine ⟨by omega, by omega, has_day h hi, Or.inr (has_day h h1), fun x hx hxt => ?_⟩
    obtain ⟨j, hj, ex⟩ := mem_at hx
    by_cases hji : j ≤ i
    · have := day_mono h i hji hi; omega
    · have := day_mono h j (show i + 1 ≤ j by omega) hj; omega
  · have et : bnd D n (i + 1) = n := by rw [bnd, if_neg h1]
    refine ⟨by omega, by omega, has_day h hi, Or.inl et, fun x hx _ => ?_⟩
    obtain ⟨j, hj, ex⟩ := mem_at hx
    have := day_mono h i (show j ≤ i by omega) hi; omega
theorem Seg.lots {D nd : List Int} {d t : Nat} (h : Seg D nd.length d t) (h0 : D.contains (0 : Int) = true) : fn (lotsL nd D) d = seg (fn nd) d t ∧ ∀ x, d < x → x < t → fn (lotsL nd D) x = 0 := by
  have hq : ∀ j, d ≤ j → j < t → lat D j = d := fun j h1 h2 => lat_seg h.hd h.no h0 h1 h2
  have hq2 : ∀ j, t ≤ j → j < nd.length → t ≤ lat D j := fun j h1 h2 => by
    rcases h.ht with ht | ht
    · omega
    · exact le_lat ht j h1
  have hq3 : ∀ j, j < d → lat D j < d := fun j h1 => by have := lat_le D j; omega
  have htn := h.tn
  have hlt := h.lt
  have hz : ∀ x, d < x → x < t → fn (lotsL nd D) x = 0 := fun x h1 h2 => by
    rw [lots_at (by omega)]
    refine Bx.lev_none fun i hi => ?_
    by_cases a : i < d
    · have := hq3 i a; omega
    · by_cases b : i < t
      · have := hq i (by omega) b; omega
      · have := hq2 i (by omega) hi; omega
  refine ⟨?_, hz⟩
  have hld := left_day (nd := nd) (days := D) (t := d) (by omega) (Or.inr h.hd)
  have hlt' := left_day (nd := nd) (days := D) (t := t) htn h.ht
  have a : sumTo (fn (lotsL nd D)) t = sumTo (fn (lotsL nd D)) (d + 1) := sum_stay t (by omega) fun j h1 h2 => hz j (by omega) h2
  have b : sumTo (fn (lotsL nd D)) (d + 1) = sumTo (fn (lotsL nd D)) d + fn (lotsL nd D) d := rfl
  unfold left at hld hlt'
  unfold seg
  omega
/-- Lots, day by day as the program gives them. -/
def lotsT (nd D : List Int) (k : Nat) : List Int := tbl nd.length fun d => lev (lat D) (fn nd) k d
theorem lotsT_zero (nd D : List Int) : lotsT nd D 0 = List.replicate nd.length 0 := by
  rw [← tbl_zero]; exact tbl_eq fun i _ => rfl
theorem lotsT_at {nd D : List Int} {k d : Nat} (h : d < nd.length) : (lotsT nd D k).getD d 0 = lev (lat D) (fn nd) k d := tbl_get _ h
theorem lotsT_set (nd D : List Int) (k : Nat) : (lotsT nd D k).set (lat D k) (lev (lat D) (fn nd) k (lat D k) + fn nd k) = lotsT nd D (k + 1) := tbl_set (by rw [Bx.lev_succ, if_pos rfl]) fun j _ hj => by
  rw [Bx.lev_succ, if_neg (fun e => hj e.symm)]; omega
theorem lev_bd {nd D : List Int} (h : Pf.allB nd 0 20 = true) {k : Nat} (hk : k ≤ nd.length) (d : Nat) : 0 ≤ lev (lat D) (fn nd) k d ∧ lev (lat D) (fn nd) k d ≤ 20 * (k : Int) := by
  have := sum_bd (f := fun j => if lat D j = d then fn nd j else 0) (lo := 0) (hi := 20) k fun j hj => by
    have := Pf.inB_yes (Pf.allB_get h (show j < nd.length by omega))
    show 0 ≤ (if lat D j = d then fn nd j else 0) ∧ (if lat D j = d then fn nd j else 0) ≤ 20
    split <;> omega
  rw [Int.zero_mul] at this
  exact this
/-- Lots, day by day as the model gives them: up to d whole, that of d so far. -/
def midT (nd D : List Int) (d k : Nat) : List Int := tbl nd.length fun x => if x < d then fn (lotsL nd D) x else if x = d then seg (fn nd) d k else 0
theorem midT_at {nd D : List Int} {d k : Nat} (h : d < nd.length) : (midT nd D d k).getD d 0 = seg (fn nd) d k := by
  rw [midT, tbl_get _ h, if_neg (by omega), if_pos rfl]
theorem midT_set (nd D : List Int) (d k : Nat) : (midT nd D d k).set d (seg (fn nd) d k + fn nd k) = midT nd D d (k + 1) := tbl_set (by
    rw [if_neg (by omega), if_pos rfl]; unfold seg; simp only [sumTo]; omega) fun j _ hj => by
  by_cases e : j < d
  · rw [if_pos e, if_pos e]
  · rw [if_neg e, if_neg e, if_neg hj, if_neg hj]
theorem midT_next {nd D : List Int} {d t : Nat} (h : Seg D nd.length d t) (h0 : D.contains (0 : Int) = true) : midT nd D d t = midT nd D t t := tbl_eq fun x hx => by
  obtain ⟨e1, e2⟩ := h.lots h0
  have hlt := h.lt
  have es : seg (fn nd) t t = 0 := by unfold seg; omega
  by_cases a : x < d
  · rw [if_pos a, if_pos (by omega)]
  · by_cases b : x = d
    · subst b; rw [if_neg (by omega), if_pos rfl, if_pos hlt, e1]
    · rw [if_neg a, if_neg b]
      by_cases c : x < t
      · rw [if_pos c, e2 x (by omega) c]
      · rw [if_neg c, es]; split <;> rfl
theorem midT_zero (nd D : List Int) : midT nd D 0 0 = List.replicate nd.length 0 := by
  rw [← tbl_zero]
  refine tbl_eq fun i _ => ?_
  have es : seg (fn nd) 0 0 = 0 := by unfold seg; omega
  rw [if_neg (by omega), es]; split <;> rfl
theorem midT_all (nd D : List Int) : midT nd D nd.length nd.length = lotsL nd D := tbl_eq fun i hi => by
  rw [if_pos hi, lots_at hi]
theorem seg_bd {nd : List Int} (h : Pf.allB nd 0 20 = true) {d k : Nat} (hd : d ≤ k) (hk : k ≤ nd.length) : 0 ≤ seg (fn nd) d k ∧ seg (fn nd) d k ≤ 20 * (k : Int) := by
  have hm := Bx.sum_mono (f := fn nd) (m := d) k hd fun i hi => (Pf.inB_yes (Pf.allB_get h (show i < nd.length by omega))).1
  have hp := Bx.sum_pos (f := fn nd) d fun i hi => (Pf.inB_yes (Pf.allB_get h (show i < nd.length by omega))).1
  have hb := sum_bd (f := fn nd) (lo := 0) (hi := 20) k fun i hi => Pf.inB_yes (Pf.allB_get h (show i < nd.length by omega))
  unfold seg
  omega
end Lo
open Go.RowKit

set_option maxHeartbeats 2000000 in
theorem lo_own {a a' : Option Addr} {n c m c' : Nat} {nd ds : List Int} {w : World} (HN : Hid (nd.length = n)) (HM : Hid (ds.length = m)) (hn : n ≤ 10) (hm : m ≤ 1048576) (HA : Hid (ARow w a nd)) (HA' : Hid (ARow w a' ds)) (hb : Pf.allB nd 0 20 = true) :
    Calls Try.prog 45 #[.slice a n c, .slice a' m c'] w fun e w' => e = .returned (.slice (some ⟨w.heap.size, 0, none⟩) n n) ∧ Below w.heap.size w w' ∧ w.heap.size < w'.heap.size ∧ w'.ownsRow w.heap.size 3 1 (.slice (some ⟨w.heap.size, 0, none⟩) n n) n (ints (Lo.lotsL nd ds)) := by
  have hmk := makeI_run n (by omega)
  have HB1 := hide fun (k : Nat) (hk : k < n) => Pf.inB_yes (Pf.allB_get hb (show k < nd.length by rw [HN.out]; exact hk))
  have HLV := hide fun (k : Nat) (hk : k ≤ n) (d : Nat) => Lo.lev_bd (D := ds) hb (show k ≤ nd.length by rw [HN.out]; exact hk) d
  have HMO := hide (made_own w n (by omega))
  clear hb
  go_enter Try.func45, Try.ntmps45
  go_wp2_with fail
  go_loopw [6, 7, 8, 14] (fun s6 _ _ s wr => ∃ (k l : Nat), s6 = .int .i64 l ∧ s = .int .i64 k ∧ k ≤ n ∧ Hid (k = 0 ∧ l = 0 ∨ 0 < k ∧ l = Lo.lat ds (k - 1)) ∧ Hid (wr.ownsRow w.heap.size 3 1 (.slice (some ⟨w.heap.size, 0, none⟩) n n) n (ints (Lo.lotsT nd ds k))) ∧ Hid (Below w.heap.size w wr) ∧ w.heap.size < wr.heap.size) (fun _ _ _ s _ => n - (intOf s).toNat)
  case atStart => exact ⟨0, 0, rfl, rfl, Nat.zero_le _, hide (Or.inl ⟨rfl, rfl⟩), hide (by rw [Lo.lotsT_zero, HN.out]; exact HMO.out), hide (below_new _ _), by simp⟩
  case round =>
    clear HMO
    obtain ⟨k, l, rfl, rfl, hk, HL, HO, HB, hz⟩ := hrel
    by_cases hlt : k < n
    · obtain ⟨b1, o1, rfl, r1⟩ := (HA.out.below HB.out).at (i := k) (by rw [HN.out]; exact hlt)
      have i0 : (0 : Int) ≤ (k : Int) := by omega
      have i1 : (k : Int) < (n : Int) := by omega
      obtain ⟨p0, p1⟩ := HB1.out k hlt
      have HLa : Hid ((if ds.contains (k : Int) then k else l) = Lo.lat ds k) := hide (by
        rcases HL.out with ⟨e1, e2⟩ | ⟨e1, e2⟩
        · subst e1; subst e2; rw [Lo.lat]; split <;> rfl
        · obtain ⟨j, rfl⟩ : ∃ j, k = j + 1 := ⟨k - 1, by omega⟩
          rw [Lo.lat, e2, Nat.add_sub_cancel])
      have hql : Lo.lat ds k < n := by have := Lo.lat_le ds k; omega
      have HSET := hide (Lo.lotsT_set nd ds k)
      obtain ⟨v0, v1⟩ := HLV.out k hk (Lo.lat ds k)
      have c0 : wr.cell? ⟨w.heap.size, Lo.lat ds k, none⟩ = some (.int .i64 (Bx.lev (Lo.lat ds) (Lo.fn nd) k (Lo.lat ds k))) := by rw [HO.out.cellAt _ (by omega), ints_get _ _ (by rw [Lo.lotsT, Lo.tbl_len, HN.out]; exact hql), Lo.lotsT_at (by rw [HN.out]; exact hql)]
      have f0 := HO.out.frozenAt (Lo.lat ds k)
      obtain ⟨st1, st2⟩ := HO.out.stored (Lo.lat ds k) (.int .i64 (Bx.lev (Lo.lat ds) (Lo.fn nd) k (Lo.lat ds k) + Lo.fn nd k))
      rw [ints_set, HSET.out] at st1
      have HCN := hide (con_any (c := c') (x := (k : Int)) HM.out hm (HA'.out.below HB.out))
      have HLQ : Hid (k + 1 = 0 ∧ Lo.lat ds k = 0 ∨ 0 < k + 1 ∧ Lo.lat ds k = Lo.lat ds (k + 1 - 1)) := hide (Or.inr ⟨by omega, rfl⟩)
      change wr.cell? _ = some (.int .i64 (Lo.fn nd k)) at r1
      generalize Bx.lev (Lo.lat ds) (Lo.fn nd) k (Lo.lat ds k) = V at *
      change 0 ≤ Lo.fn nd k at p0
      change Lo.fn nd k ≤ 20 at p1
      generalize Lo.fn nd k = p at *
      obtain ⟨q, hq⟩ : ∃ q, q = Lo.lat ds k := ⟨_, rfl⟩
      rw [← hq] at HLa HLQ hql c0 f0 st1
      have HST := hide st1
      have HB3 := hide (HB.out.setCell (p := ⟨w.heap.size, q, none⟩) (Nat.le_refl _) (.int .i64 (V + p)))
      have q0 : (0 : Int) ≤ (q : Int) := by omega
      have q1 : (q : Int) < (n : Int) := by omega
      have V1 : V ≤ 1000 := by omega
      clear hmk st1 st2 HO HSET hq HL v1
      cases hcon : ds.contains (k : Int)
      · rw [hcon] at HLa HCN
        have hlq := HLa.out
        simp only [Bool.false_eq_true, if_false] at hlq
        subst hlq
        clear HLa
        go_wp2_with fail
        refine HCN.out.mono ?_
        rintro e w1 ⟨rfl, hw1⟩
        obtain rfl := hw1.symm
        go_wp2_with fail
        exact ⟨⟨k + 1, l, rfl, by go_num, by omega, HLQ, HST, HB3, by simpa using hz⟩, by simp only [intOf]; omega⟩
      · rw [hcon] at HLa HCN
        have hlq := HLa.out
        simp only [if_true] at hlq
        subst hlq
        clear HLa
        go_wp2_with fail
        refine HCN.out.mono ?_
        rintro e w1 ⟨rfl, hw1⟩
        obtain rfl := hw1.symm
        go_wp2_with fail
        exact ⟨⟨k + 1, k, rfl, by go_num, by omega, HLQ, HST, HB3, by simpa using hz⟩, by simp only [intOf]; omega⟩
    · have hke : k = n := by omega
      subst hke
      have HE := hide (show wr.ownsRow w.heap.size 3 1 (.slice (some ⟨w.heap.size, 0, none⟩) k k) k (ints (Lo.lotsL nd ds)) by have := HO.out; rw [show Lo.lotsL nd ds = Lo.lotsT nd ds k by rw [← HN.out]; rfl]; exact this)
      clear hmk
      go_wp2_with fail
      go_ret
      exact ⟨rfl, HB.out, hz, HE.out⟩
theorem lo_av {a a' : Option Addr} {n c m c' : Nat} {nd ds : List Int} {w : World} (HN : Hid (nd.length = n)) (HM : Hid (ds.length = m)) (hn : n ≤ 10) (hm : m ≤ 1048576) (HA : Hid (ARow w a nd)) (HA' : Hid (ARow w a' ds)) (hb : Pf.allB nd 0 20 = true) :
    Calls Try.prog 45 #[.slice a n c, .slice a' m c'] w fun e w' => ∃ b, e = .returned (.slice (some ⟨b, 0, none⟩) n n) ∧ Below w.heap.size w w' ∧ AV w' w.heap.size w'.heap.size (.slice (some ⟨b, 0, none⟩) n n) n (Lo.lotsL nd ds) :=
  (lo_own HN HM hn hm HA HA' hb).mono fun _ _ h => ⟨_, h.1, h.2.1, AV.new h.2.2.2⟩
set_option maxHeartbeats 4000000 in
theorem sfor_any {a a' : Option Addr} {n c m c' : Nat} {S K : Int} {nd ds : List Int} {w : World} (HN : Hid (nd.length = n)) (HM : Hid (ds.length = m)) (hn : n ≤ 10) (hd : Lo.dayB ds n = true) (HA : Hid (ARow w a nd)) (HA' : Hid (ARow w a' ds)) (hb : Pf.allB nd 0 20 = true) :
    Calls Try.prog 41 #[.agg #[.slice a n c, .int .i64 S, .int .i64 K], .slice a' m c'] w fun e w' => ∃ b, e = .returned (.slice (some ⟨b, 0, none⟩) n n) ∧ Below w.heap.size w w' ∧ AV w' w.heap.size w'.heap.size (.slice (some ⟨b, 0, none⟩) n n) n (Lo.lotsL nd ds) := by
  have hB0 := below_new w (.cells #[.slice a n c, .int .i64 S, .int .i64 K] 27)
  have pb0 := TBox.new w (.slice a n c) (.int .i64 S) (.int .i64 K) 27
  obtain ⟨w0, hw0⟩ : ∃ W, W = w.alloc (.cells #[.slice a n c, .int .i64 S, .int .i64 K] 27) := ⟨_, rfl⟩
  rw [← hw0] at hB0 pb0
  have HW0 := hide hw0.symm
  obtain ⟨B, hB⟩ : ∃ b, b = w.heap.size := ⟨_, rfl⟩
  rw [← hB] at pb0
  have HBe := hide hB.symm
  have PB := hide pb0
  have R0 := hide (HA.out.below hB0)
  have R1 := hide (HA'.out.below hB0)
  have HB0 := hide hB0
  have hm10 : m ≤ n := by have := Lo.day_le hd; rw [HM.out] at this; exact this
  have hmk := makeI_run n (by omega)
  have HP := hide fun (k : Nat) (hk : k < n) => Pf.inB_yes (Pf.allB_get hb (show k < nd.length by rw [HN.out]; exact hk))
  have HSB := hide fun (d k : Nat) (h1 : d ≤ k) (hk : k ≤ n) => Lo.seg_bd hb h1 (show k ≤ nd.length by rw [HN.out]; exact hk)
  have HSG := hide fun (i : Nat) (hi : i < m) => Lo.seg_day hd (show i < ds.length by rw [HM.out]; exact hi)
  have HDA : Hid (∀ i, i < m → ds.getD i 0 = ((Lo.bnd ds n i : Nat) : Int)) := hide fun i hi => by
    have hi' : i < ds.length := by rw [HM.out]; exact hi
    obtain ⟨d, e, _⟩ := Lo.day_at hd hi'
    rw [Lo.bnd_lt hi', e]; rfl
  have HZ := hide (Lo.bnd_zero hd)
  have HEN : Hid (Lo.bnd ds n m = n) := hide (by have := Lo.bnd_all ds n; rwa [HM.out] at this)
  have H0 := hide (Lo.day_zero hd)
  have HMO := hide (made_own w0 n (by omega))
  have z0 : w.heap.size < w0.heap.size := by rw [hw0]; simp
  clear hw0 hB pb0 hB0 HA HA' hd hb
  go_enter Try.func41, Try.ntmps41
  go_upto_region 1 with fail
  rw [HW0.out, HBe.out]
  clear HW0 HBe
  obtain ⟨p0, p1, p2, _⟩ := PB.out
  go_wp2_with fail
  clear p0 p1 p2
  go_loopw [6, 7, 8, 9, 16] (fun _ _ _ _ s wr => ∃ (i : Nat), s = .int .i64 i ∧ i ≤ m ∧ Hid (wr.ownsRow w0.heap.size 3 1 (.slice (some ⟨w0.heap.size, 0, none⟩) n n) n (ints (Lo.midT nd ds (Lo.bnd ds n i) (Lo.bnd ds n i)))) ∧ Hid (Below w0.heap.size w0 wr) ∧ w0.heap.size < wr.heap.size) (fun _ _ _ _ s _ => m - (intOf s).toNat)
  case atStart => exact ⟨0, rfl, Nat.zero_le _, hide (by rw [HZ.out, Lo.midT_zero, HN.out]; exact HMO.out), hide (below_new _ _), by simp⟩
  case round =>
    clear HMO
    obtain ⟨i, rfl, hi, HO, HB, hz⟩ := hrel
    by_cases hlt : i < m
    · obtain ⟨b1, o1, rfl, r1⟩ := (R1.out.below HB.out).at (i := i) (by rw [HM.out]; exact hlt)
      have sg := HSG.out i hlt
      have SG := hide sg
      have sg1 := sg.lt
      have sg2 := sg.tn
      rw [HDA.out i hlt] at r1
      have i0 : (0 : Int) ≤ (i : Int) := by omega
      have i1 : (i : Int) < (m : Int) := by omega
      obtain ⟨p0, p1, p2, _⟩ := PB.out.below HB.out
      have HNX : Hid (i + 1 < m → (R1.out.below HB.out).at (i := i + 1) = (R1.out.below HB.out).at (i := i + 1)) := hide fun _ => rfl
      have r2 : i + 1 < m → wr.cell? ⟨b1, o1 + (i + 1), none⟩ = some (.int .i64 ((Lo.bnd ds n (i + 1) : Nat) : Int)) := fun h => by
        obtain ⟨b2, o2, e2, r2⟩ := (R1.out.below HB.out).at (i := i + 1) (by rw [HM.out]; exact h)
        cases e2
        rw [r2, HDA.out _ h]
      have HLE : Hid (¬ i + 1 < m → Lo.bnd ds n (i + 1) = n) := hide fun h => by rw [show i + 1 = m by omega]; exact HEN.out
      obtain ⟨t, ht⟩ : ∃ t, Lo.bnd ds n (i + 1) = t := ⟨_, rfl⟩
      obtain ⟨d, hd⟩ : ∃ d, Lo.bnd ds n i = d := ⟨_, rfl⟩
      rw [hd] at r1 HO SG sg1
      rw [ht] at SG sg1 sg2
      have HK : Hid (∀ {W : World}, W.ownsRow w0.heap.size 3 1 (.slice (some ⟨w0.heap.size, 0, none⟩) n n) n (ints (Lo.midT nd ds t t)) → Hid (W.ownsRow w0.heap.size 3 1 (.slice (some ⟨w0.heap.size, 0, none⟩) n n) n (ints (Lo.midT nd ds (Lo.bnd ds n (i + 1)) (Lo.bnd ds n (i + 1)))))) := hide fun h => hide (by rw [ht]; exact h)
      rw [ht] at r2 HLE
      clear ht hd sg HNX
      by_cases hnx : i + 1 < m
      · have q2 := r2 hnx
        have n1 : (i : Int) + 1 < (m : Int) := by omega
        have n0 : (0 : Int) ≤ (i : Int) + 1 := by omega
        go_wp2_with fail
        go_loopw [9] (fun s9 wr => ∃ (k : Nat), s9 = .int .i64 k ∧ d ≤ k ∧ k ≤ t ∧ Hid (wr.ownsRow w0.heap.size 3 1 (.slice (some ⟨w0.heap.size, 0, none⟩) n n) n (ints (Lo.midT nd ds d k))) ∧ Hid (Below w0.heap.size w0 wr) ∧ w0.heap.size < wr.heap.size) (fun s9 _ => t - (intOf s9).toNat)
        case atStart => exact ⟨d, rfl, Nat.le_refl _, by omega, HO, HB, hz⟩
        case round =>
          clear HO HB hz p0 p1 p2 r1 r2
          obtain ⟨k, rfl, hdk, hkt, HO, HB, hz⟩ := hrel
          by_cases hkl : k < t
          · have hkn : k < n := by omega
            obtain ⟨b2, o2, rfl, r3⟩ := (R0.out.below HB.out).at (i := k) (by rw [HN.out]; exact hkn)
            obtain ⟨p0, p1, p2, _⟩ := PB.out.below HB.out
            have j0 : (0 : Int) ≤ (k : Int) := by omega
            have j1 : (k : Int) < (n : Int) := by omega
            have j2 : (k : Int) < (t : Int) := by omega
            have d0 : (0 : Int) ≤ (d : Int) := by omega
            have d1 : (d : Int) < (n : Int) := by omega
            obtain ⟨u0, u1⟩ := HP.out k hkn
            obtain ⟨v0, v1⟩ := HSB.out d k hdk (by omega)
            have c0 : wr.cell? ⟨w0.heap.size, d, none⟩ = some (.int .i64 (Lt.seg (Lo.fn nd) d k)) := by rw [HO.out.cellAt _ (by omega), ints_get _ _ (by rw [Lo.midT, Lo.tbl_len, HN.out]; omega), Lo.midT_at (by rw [HN.out]; omega)]
            have f0 := HO.out.frozenAt d
            obtain ⟨st1, st2⟩ := HO.out.stored d (.int .i64 (Lt.seg (Lo.fn nd) d k + Lo.fn nd k))
            rw [ints_set, Lo.midT_set] at st1
            change wr.cell? _ = some (.int .i64 (Lo.fn nd k)) at r3
            change 0 ≤ Lo.fn nd k at u0
            change Lo.fn nd k ≤ 20 at u1
            generalize Lt.seg (Lo.fn nd) d k = V at *
            generalize Lo.fn nd k = x at *
            have HST := hide st1
            have HB3 := hide (HB.out.setCell (p := ⟨w0.heap.size, d, none⟩) (Nat.le_refl _) (.int .i64 (V + x)))
            have V1 : V ≤ 1000 := by omega
            have e1 : IntKind.i64.wrap (V + x) = V + x := by rw [IntKind.wrap_i64]; omega
            clear hmk st1 st2 HO v1
            go_wp2_with fail
            go_region
            go_wp2_with fail
            go_roundw
            case rel => exact ⟨k + 1, by go_num, by omega, by omega, HST, hide HB3.out.drew, by simpa using hz⟩
            case measure => simp only [intOf]; omega
          · have hke : k = t := by omega
            subst hke
            have HO2 : Hid (wr.ownsRow w0.heap.size 3 1 (.slice (some ⟨w0.heap.size, 0, none⟩) n n) n (ints (Lo.midT nd ds k k))) := hide (by rw [← Lo.midT_next (by rw [HN.out]; exact SG.out) H0.out]; exact HO.out)
            go_wp2_with fail
            go_roundw
            case rel => exact ⟨i + 1, by go_num, by omega, HK.out HO2.out, HB, hz⟩
            case measure => simp only [intOf]; omega
      · have n1 : ¬ (i : Int) + 1 < (m : Int) := by omega
        have HT2 := HLE.out hnx
        have HT3 := hide HT2
        clear HT2
        go_wp2_with fail
        go_loopw [9] (fun s9 wr => ∃ (k : Nat), s9 = .int .i64 k ∧ d ≤ k ∧ k ≤ t ∧ Hid (wr.ownsRow w0.heap.size 3 1 (.slice (some ⟨w0.heap.size, 0, none⟩) n n) n (ints (Lo.midT nd ds d k))) ∧ Hid (Below w0.heap.size w0 wr) ∧ w0.heap.size < wr.heap.size) (fun s9 _ => t - (intOf s9).toNat)
        case atStart => exact ⟨d, rfl, Nat.le_refl _, by omega, HO, HB, hz⟩
        case round =>
          clear HO HB hz p0 p1 p2 r1 r2
          obtain ⟨k, rfl, hdk, hkt, HO, HB, hz⟩ := hrel
          by_cases hkl : k < t
          · have hkn : k < n := by have := HT3.out; omega
            obtain ⟨b2, o2, rfl, r3⟩ := (R0.out.below HB.out).at (i := k) (by rw [HN.out]; exact hkn)
            obtain ⟨p0, p1, p2, _⟩ := PB.out.below HB.out
            have j0 : (0 : Int) ≤ (k : Int) := by omega
            have j1 : (k : Int) < (n : Int) := by omega
            have j2 : (k : Int) < (t : Int) := by omega
            have d0 : (0 : Int) ≤ (d : Int) := by omega
            have d1 : (d : Int) < (n : Int) := by omega
            obtain ⟨u0, u1⟩ := HP.out k hkn
            obtain ⟨v0, v1⟩ := HSB.out d k hdk (by omega)
            have c0 : wr.cell? ⟨w0.heap.size, d, none⟩ = some (.int .i64 (Lt.seg (Lo.fn nd) d k)) := by rw [HO.out.cellAt _ (by omega), ints_get _ _ (by rw [Lo.midT, Lo.tbl_len, HN.out]; omega), Lo.midT_at (by rw [HN.out]; omega)]
            have f0 := HO.out.frozenAt d
            obtain ⟨st1, st2⟩ := HO.out.stored d (.int .i64 (Lt.seg (Lo.fn nd) d k + Lo.fn nd k))
            rw [ints_set, Lo.midT_set] at st1
            change wr.cell? _ = some (.int .i64 (Lo.fn nd k)) at r3
            change 0 ≤ Lo.fn nd k at u0
            change Lo.fn nd k ≤ 20 at u1
            generalize Lt.seg (Lo.fn nd) d k = V at *
            generalize Lo.fn nd k = x at *
            have HST := hide st1
            have HB3 := hide (HB.out.setCell (p := ⟨w0.heap.size, d, none⟩) (Nat.le_refl _) (.int .i64 (V + x)))
            have V1 : V ≤ 1000 := by omega
            have e1 : IntKind.i64.wrap (V + x) = V + x := by rw [IntKind.wrap_i64]; omega
            clear hmk st1 st2 HO v1
            go_wp2_with fail
            go_region
            go_wp2_with fail
            go_roundw
            case rel => exact ⟨k + 1, by go_num, by omega, by omega, HST, hide HB3.out.drew, by simpa using hz⟩
            case measure => simp only [intOf]; omega
          · have hke : k = t := by omega
            subst hke
            have j3 : ¬ (k : Int) < (n : Int) := by have := HT3.out; omega
            have HO2 : Hid (wr.ownsRow w0.heap.size 3 1 (.slice (some ⟨w0.heap.size, 0, none⟩) n n) n (ints (Lo.midT nd ds k k))) := hide (by rw [← Lo.midT_next (by rw [HN.out]; exact SG.out) H0.out]; exact HO.out)
            go_wp2_with fail
            go_roundw
            case rel => exact ⟨i + 1, by go_num, by omega, HK.out HO2.out, HB, hz⟩
            case measure => simp only [intOf]; omega
    · have hke : i = m := by omega
      subst hke
      have HE := hide (show wr.ownsRow w0.heap.size 3 1 (.slice (some ⟨w0.heap.size, 0, none⟩) n n) n (ints (Lo.lotsL nd ds)) by have := HO.out; rw [HEN.out] at this; rwa [show Lo.lotsL nd ds = Lo.midT nd ds n n by rw [← HN.out, Lo.midT_all]])
      have HBB := hide (HB0.out.trans (HB.out.mono HB0.out.size))
      clear hmk
      go_wp2_with fail
      go_ret
      exact ⟨_, rfl, HBB.out, owns_low HE.out (by omega), fun g hg => by cases hg; exact hz, Nat.le_refl _⟩
end Go.Proofs.Yticekgjgknfloaa
