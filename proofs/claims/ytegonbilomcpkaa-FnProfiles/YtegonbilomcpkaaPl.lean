/-
  What ClassesOf answers, the program's and the model's.
-/
import Derived.Test.YtegonbilomcpkaaPk
import Derived.Test.YtegonbilomcpkaaPg
import Derived.Deep.AppendLies
namespace Go.Proofs.Ytegonbilomcpkaa
open Go.RowKit Go.Sort

/-- The class of a good that has so many of all ahead of it. -/
def cls (ahead all : Int) : Int := if 2 * ahead < all then 1 else if 10 * ahead < 9 * all then 2 else 3
/-- The classes, when the first k of the rank have got theirs. -/
def clsUp (ps : List Int) : Nat → List Int
  | 0 => List.replicate ps.length 0
  | k + 1 => (clsUp ps k).set ((Rk.rank ps).getD k 0) (cls (pickSum ps ((Rk.rank ps).take k)) ps.sum)
def clsOf (ps : List Int) : List Int := clsUp ps ps.length
theorem clsUp_len (ps : List Int) : ∀ k, (clsUp ps k).length = ps.length
  | 0 => by simp [clsUp]
  | k + 1 => by simp [clsUp, clsUp_len ps k]
theorem clsOf_len (ps : List Int) : (clsOf ps).length = ps.length := clsUp_len _ _

set_option maxRecDepth 100000 in
set_option maxHeartbeats 400000 in
theorem cb_any (x y : Int) (w : World) (h0 : 0 ≤ x) (h1 : x ≤ 1000000) (h2 : 0 ≤ y) (h3 : y ≤ 1000000) :
    Calls Try.prog 51 #[.int .i64 x, .int .i64 y] w fun e w' => e = .returned (.int .i64 (cls x y)) ∧ w' = w := by
  unfold cls
  by_cases a : 2 * x < y
  · have a' : x * 2 < y := by omega
    rw [if_pos a]
    go_enter Try.func51, Try.ntmps51
    go_wp2
    go_ret
    exact ⟨rfl, rfl⟩
  · have a' : ¬ x * 2 < y := by omega
    rw [if_neg a]
    by_cases b : 10 * x < 9 * y
    · have b' : x * 10 < y * 9 := by omega
      rw [if_pos b]
      go_enter Try.func51, Try.ntmps51
      go_wp2
      go_ret
      exact ⟨rfl, rfl⟩
    · have b' : ¬ x * 10 < y * 9 := by omega
      rw [if_neg b]
      go_enter Try.func51, Try.ntmps51
      go_wp2
      go_ret
      exact ⟨rfl, rfl⟩
theorem grown_trans {a b c : World} {g : Nat} (h : a.grownBy b (some g)) (k : b.grownBy c (some g)) : a.grownBy c (some g) :=
  ⟨k.os.trans h.os, k.tape.trans h.tape, k.output.trans h.output, Nat.le_trans h.size k.size, fun b hb hne => (k.block b (Nat.lt_of_lt_of_le hb h.size) hne).trans (h.block b hb hne)⟩
theorem own_lt {w : World} {base n g cap : Nat} {xs : List Value} (h : w.ownsRow base 3 1 (.slice (some ⟨g, 0, none⟩) n cap) n xs) : base ≤ g ∧ g < w.heap.size := by
  rcases h.2 with ⟨h0, _⟩ | ⟨g', cap', cur, hv, h2, h3, _⟩
  · cases h0
  · cases hv; exact ⟨h2, (Array.getElem?_eq_some_iff.1 h3).1⟩

/-- The variable of a call: the profile. -/
theorem below1 (w : World) (o : Obj) : Below w.heap.size w (w.alloc o) := (Below.refl _ _).alloc (Nat.le_refl _) _
set_option maxRecDepth 100000 in
set_option maxHeartbeats 2000000 in
theorem co_bad {a b : Option Addr} {n m c d : Nat} {ps fs : List Int} {w : World} (hn : ps.length = n) (hm : fs.length = m) (ha : ARow w a ps) (hb : ARow w b fs) (hg : Pf.goodP ps fs = false) :
    Calls Try.prog 22 #[.agg #[.slice a n c, .slice b m d]] w fun e w' => e = .returned (.tuple #[.slice none 0 0, .bool false]) ∧ Below w.heap.size w w' := by
  have HA := hide ha
  have HB := hide hb
  have HG := hide hg
  have HN := hide hn
  have HM := hide hm
  clear ha hb hg hn hm
  go_enter Try.func22, Try.ntmps22
  go_wp2_with ((go_at_call 13; refine (gp_n HN HM HA HB HG (below1 _ _)).mono ?_; rintro e w1 ⟨rfl, hb1⟩))
  go_ret2
  exact ⟨rfl, (below1 _ _).trans (hb1.mono (by simp))⟩
set_option maxRecDepth 100000 in
set_option maxHeartbeats 4000000 in
theorem co_good {a b : Option Addr} {n m c d : Nat} {ps fs : List Int} {w : World} (hn : ps.length = n) (hm : fs.length = m) (ha : ARow w a ps) (hb : ARow w b fs) (hg : Pf.goodP ps fs = true) :
    Calls Try.prog 22 #[.agg #[.slice a n c, .slice b m d]] w fun e w' => ∃ g, e = .returned (.tuple #[.slice (some ⟨g, 0, none⟩) n n, .bool true]) ∧ Below w.heap.size w w' ∧ w'.ownsRow w.heap.size 3 1 (.slice (some ⟨g, 0, none⟩) n n) n (ints (clsOf ps)) := by
  obtain ⟨s0, s1⟩ := picks_sum hg
  have h12 : n ≤ 12 := by have := (Pf.goodP_len hg).2; omega
  have hmk := makeI_run n (by omega)
  have HP := hide (Pf.goodP_picks hg)
  have HA := hide ha
  have HB := hide hb
  have HG := hide hg
  have HN := hide hn
  have HM := hide hm
  have HS := hide (fun (w1 : World) (hB : Below w.heap.size w w1) => sum_of (c := c) HN HA HG hB)
  have HU : Hid (∀ k, clsUp ps (k + 1) = (clsUp ps k).set ((Rk.rank ps).getD k 0) (cls (pickSum ps ((Rk.rank ps).take k)) ps.sum)) := hide fun k => rfl
  generalize hall : ps.sum = all at *
  clear ha hb hg hn hm hall
  go_enter Try.func22, Try.ntmps22
  go_wp2_with (first
    | (go_at_call 13; refine (gp_n HN HM HA HB HG (below1 _ _)).mono ?_; rintro e w1 ⟨rfl, hb1⟩; obtain ⟨p0, p1, z1⟩ := (PBox.new w _ _ _).below hb1; have hB1 : Below w.heap.size w w1 := (below1 _ _).trans (hb1.mono (by simp)))
    | (go_at_call 49; refine (HS.out _ (hB1.trans ((below1 _ _).mono hB1.size))).mono ?_; rintro e w2 ⟨rfl, hw2⟩; subst hw2)
    | (go_at_call 50; refine (rank_any HN.out h12 (HA.out.below (hB1.trans ((below1 _ _).mono hB1.size)))).mono ?_; rintro e w3 ⟨rfl, hb3, own3⟩))
  have bn := below_new w1 (.cells (madeCells #[.int .i64 0] n) 3)
  obtain ⟨p0', p1', z3⟩ := (PBox.below ⟨p0, p1, z1⟩ bn).below hb3
  have hB3 : Below w.heap.size w w3 := (hB1.trans (bn.mono hB1.size)).trans (hb3.mono (by have := (hB1.trans (bn.mono hB1.size)).size; exact this))
  have HOW := hide own3
  have HOC := hide (owns_low (owns_keep (made_own w1 n (by omega)) (hb3.block w1.heap.size (by simp))) hB1.size)
  simp only [World.size_alloc] at HOW hb3
  have z4 := hb3.size
  obtain ⟨_, z5⟩ := own_lt HOW.out
  clear p0 p1 own3 hmk hb1 hb3 bn
  go_loopw [5, 8, 23] (fun s5 _ s wr => ∃ (k : Nat) (x : Int), s5 = .int .i64 x ∧ s = .int .i64 k ∧ k ≤ n ∧ Hid (x = pickSum ps ((Rk.rank ps).take k)) ∧ 0 ≤ x ∧ x ≤ 10000 * k ∧ wr.ownsRow w.heap.size 3 1 (.slice (some ⟨w1.heap.size, 0, none⟩) n n) n (ints (clsUp ps k)) ∧ w3.grownBy wr (some w1.heap.size)) (fun _ _ s _ => n - (intOf s).toNat)
  case atStart => exact ⟨0, 0, rfl, rfl, Nat.zero_le _, hide (by simp [pickSum]), by omega, by omega, by rw [← HN.out]; have := HOC.out; rw [← HN.out] at this; exact this, World.grownBy.refl _ _⟩
  case round =>
    obtain ⟨k, x, rfl, rfl, hk, HX, hx0, hx1, hown, hgr⟩ := hrel
    by_cases hlt : k < n
    · have k0 : (0 : Int) ≤ (k : Int) := by omega
      have k1 : (k : Int) < (n : Int) := by omega
      have c1 : wr.cell? ⟨w1.heap.size + 1 + 1, k, none⟩ = some (.int .i64 ((nats (Rk.rank ps)).getD k 0)) := by
        rw [hgr.cell_far ⟨w1.heap.size + 1 + 1, k, none⟩ z5 (by simp; omega), HOW.out.cellAt k (by omega), ints_get _ k (by rw [nats_len, Rk.rank_len, HN.out]; omega)]
      rw [nats_get] at c1
      have hq := rank_at (ps := ps) (k := k) (by rw [HN.out]; omega)
      have hst := pickSum_take ps (Rk.rank ps) k (by rw [Rk.rank_len, HN.out]; omega)
      have hcl := HU.out k
      rw [← HX.out] at hst hcl
      have hbd := val_bd HP.out ((Rk.rank ps).getD k 0)
      generalize (Rk.rank ps).getD k 0 = q at c1 hq hst hbd hcl
      rw [HN.out] at hq
      rcases HA.out with h0 | ⟨ba, oa, rfl, hba, hcs⟩
      · have := HN.out; rw [h0] at this; simp at this; omega
      have r1 : wr.cell? ⟨ba, oa + q, none⟩ = some (.int .i64 (Rk.val ps q)) := (hgr.cell_far ⟨ba, oa + q, none⟩ (by show ba < _; omega) (by simp; omega)).trans ((hB3.cell (p := ⟨ba, oa + q, none⟩) hba).trans (hcs q (by rw [HN.out]; exact hq)))
      have b0 : wr.cell? ⟨w.heap.size, 0, none⟩ = some (.slice (some ⟨ba, oa, none⟩) n c) := (hgr.cell_far ⟨w.heap.size, 0, none⟩ z3 (by simp; omega)).trans p0'
      have e1 : ¬ w1.heap.size = w.heap.size := by omega
      have e2 : ¬ w1.heap.size = ba := by omega
      have q0 : (0 : Int) ≤ (q : Int) := by omega
      have q1 : (q : Int) < (n : Int) := by omega
      have hul := clsUp_len ps k
      rw [HN.out] at hul
      have c0 : wr.cell? ⟨w1.heap.size, q, none⟩ = some (.int .i64 ((clsUp ps k).getD q 0)) := by rw [hown.cellAt q (by omega), ints_get _ q (by omega)]
      have f0 := hown.frozenAt q
      obtain ⟨st1, st2⟩ := hown.stored q (.int .i64 (cls x all))
      rw [ints_set, ← hcl] at st1
      have HST1 := hide st1
      have HST2 := hide st2
      generalize Rk.val ps q = y at r1 hst hbd
      generalize (clsUp ps k).getD q 0 = old at c0
      have HST := hide hst
      obtain ⟨hy0, hy1⟩ := hbd
      have hgr' := hide hgr
      clear hst hcl hcs st1 st2 hown hgr
      go_wp2_with ((go_at_call 51; refine (cb_any _ _ _ (by omega) (by omega) (by omega) (by omega)).mono ?_; rintro e w5 ⟨rfl, hw5⟩; subst hw5))
      go_roundw
      case rel => exact ⟨k + 1, x + y, by go_num, by go_num, by omega, hide HST.out.symm, by omega, by omega, HST1.out, grown_trans hgr'.out HST2.out⟩
      case measure => simp only [intOf]; omega
    · have hke : k = n := by omega
      subst hke
      have hcl : clsUp ps k = clsOf ps := by unfold clsOf; rw [HN.out]
      rw [hcl] at hown
      go_wp2_with fail
      go_ret2
      exact ⟨_, rfl, hB3.trans (grownBy_below hgr (by omega) (by omega)), hown⟩

set_option maxRecDepth 100000 in
set_option maxHeartbeats 2000000 in
theorem sco_bad {a b : Option Addr} {n m c d : Nat} {ps fs : List Int} {w : World} (hn : ps.length = n) (hm : fs.length = m) (ha : ARow w a ps) (hb : ARow w b fs) (hg : Pf.goodP ps fs = false) :
    Calls Try.prog 23 #[.agg #[.slice a n c, .slice b m d]] w fun e w' => e = .returned (.tuple #[.slice none 0 0, .bool false]) ∧ Below w.heap.size w w' := by
  have HA := hide ha
  have HB := hide hb
  have HG := hide hg
  have HN := hide hn
  have HM := hide hm
  clear ha hb hg hn hm
  go_enter Try.func23, Try.ntmps23
  go_wp2_with ((go_at_call 17; refine (sgp_n HN HM HA HB HG (below1 _ _)).mono ?_; rintro e w1 ⟨rfl, hb1⟩))
  go_ret2
  exact ⟨rfl, (below1 _ _).trans (hb1.mono (by simp))⟩
set_option maxRecDepth 100000 in
set_option maxHeartbeats 4000000 in
theorem sco_some {a b : Option Addr} {n m c d : Nat} {ps fs : List Int} {w : World} (hn : ps.length = n) (hm : fs.length = m) (ha : ARow w a ps) (hb : ARow w b fs) (hg : Pf.goodP ps fs = true) (hn0 : 0 < n) :
    Calls Try.prog 23 #[.agg #[.slice a n c, .slice b m d]] w fun e w' => ∃ g, e = .returned (.tuple #[.slice (some ⟨g, 0, none⟩) n n, .bool true]) ∧ Below w.heap.size w w' ∧ w'.ownsRow w.heap.size 3 1 (.slice (some ⟨g, 0, none⟩) n n) n (ints (clsOf ps)) := by
  obtain ⟨s0, s1⟩ := picks_sum hg
  have h12 : n ≤ 12 := by have := (Pf.goodP_len hg).2; omega
  have hmk := makeI_run n (by omega)
  have HP := hide (Pf.goodP_picks hg)
  have HA := hide ha
  have HB := hide hb
  have HG := hide hg
  have HN := hide hn
  have HM := hide hm
  have HS := hide (fun (w1 : World) (hB : Below w.heap.size w w1) => ssum_of (c := c) HN HA HG hB)
  have HU : Hid (∀ k, clsUp ps (k + 1) = (clsUp ps k).set ((Rk.rank ps).getD k 0) (cls (pickSum ps ((Rk.rank ps).take k)) ps.sum)) := hide fun k => rfl
  generalize hall : ps.sum = all at *
  clear ha hb hg hn hm hall
  go_enter Try.func23, Try.ntmps23
  go_wp2_with (first
    | (go_at_call 17; refine (sgp_n HN HM HA HB HG (below1 _ _)).mono ?_; rintro e w1 ⟨rfl, hb1⟩; obtain ⟨p0, p1, z1⟩ := (PBox.new w _ _ _).below hb1; have hB1 : Below w.heap.size w w1 := (below1 _ _).trans (hb1.mono (by simp)))
    | (go_at_call 52; refine (HS.out _ (hB1.trans ((below1 _ _).mono hB1.size))).mono ?_; rintro e w2 ⟨rfl, hw2⟩; subst hw2)
    | (go_at_call 53; refine (srank_any HN.out h12 (HA.out.below (hB1.trans ((below1 _ _).mono hB1.size)))).mono ?_; rintro e w3 ⟨v, rfl, hb3, own3⟩; obtain ⟨G, cap, rfl, hcap⟩ := own_form own3 hn0))
  have bn := below_new w1 (.cells (madeCells #[.int .i64 0] n) 3)
  obtain ⟨p0', p1', z3⟩ := (PBox.below ⟨p0, p1, z1⟩ bn).below hb3
  have hB3 : Below w.heap.size w w3 := (hB1.trans (bn.mono hB1.size)).trans (hb3.mono (by have := (hB1.trans (bn.mono hB1.size)).size; exact this))
  have HOW := hide own3
  have HOC := hide (owns_low (owns_keep (made_own w1 n (by omega)) (hb3.block w1.heap.size (by simp))) hB1.size)
  simp only [World.size_alloc] at HOW hb3
  have z4 := hb3.size
  obtain ⟨z6, z5⟩ := own_lt HOW.out
  clear p0 p1 own3 hmk hb1 hb3 bn
  go_loopw [6, 8, 23] (fun s5 _ s wr => ∃ (k : Nat) (x : Int), s5 = .int .i64 x ∧ s = .int .i64 k ∧ k ≤ n ∧ Hid (x = pickSum ps ((Rk.rank ps).take k)) ∧ 0 ≤ x ∧ x ≤ 10000 * k ∧ wr.ownsRow w.heap.size 3 1 (.slice (some ⟨w1.heap.size, 0, none⟩) n n) n (ints (clsUp ps k)) ∧ w3.grownBy wr (some w1.heap.size)) (fun _ _ s _ => n - (intOf s).toNat)
  case atStart => exact ⟨0, 0, rfl, rfl, Nat.zero_le _, hide (by simp [pickSum]), by omega, by omega, by rw [← HN.out]; have := HOC.out; rw [← HN.out] at this; exact this, World.grownBy.refl _ _⟩
  case round =>
    obtain ⟨k, x, rfl, rfl, hk, HX, hx0, hx1, hown, hgr⟩ := hrel
    by_cases hlt : k < n
    · have k0 : (0 : Int) ≤ (k : Int) := by omega
      have k1 : (k : Int) < (n : Int) := by omega
      have c1 : wr.cell? ⟨G, k, none⟩ = some (.int .i64 ((nats (Rk.rank ps)).getD k 0)) := by
        rw [hgr.cell_far ⟨G, k, none⟩ z5 (by simp; omega), HOW.out.cellAt k (by omega), ints_get _ k (by rw [nats_len, Rk.rank_len, HN.out]; omega)]
      rw [nats_get] at c1
      have hq := rank_at (ps := ps) (k := k) (by rw [HN.out]; omega)
      have hst := pickSum_take ps (Rk.rank ps) k (by rw [Rk.rank_len, HN.out]; omega)
      have hcl := HU.out k
      rw [← HX.out] at hst hcl
      have hbd := val_bd HP.out ((Rk.rank ps).getD k 0)
      generalize (Rk.rank ps).getD k 0 = q at c1 hq hst hbd hcl
      rw [HN.out] at hq
      rcases HA.out with h0 | ⟨ba, oa, rfl, hba, hcs⟩
      · have := HN.out; rw [h0] at this; simp at this; omega
      have r1 : wr.cell? ⟨ba, oa + q, none⟩ = some (.int .i64 (Rk.val ps q)) := (hgr.cell_far ⟨ba, oa + q, none⟩ (by show ba < _; omega) (by simp; omega)).trans ((hB3.cell (p := ⟨ba, oa + q, none⟩) hba).trans (hcs q (by rw [HN.out]; exact hq)))
      have b0 : wr.cell? ⟨w.heap.size, 0, none⟩ = some (.slice (some ⟨ba, oa, none⟩) n c) := (hgr.cell_far ⟨w.heap.size, 0, none⟩ z3 (by simp; omega)).trans p0'
      have e1 : ¬ w1.heap.size = w.heap.size := by omega
      have e2 : ¬ w1.heap.size = ba := by omega
      have q0 : (0 : Int) ≤ (q : Int) := by omega
      have q1 : (q : Int) < (n : Int) := by omega
      have hul := clsUp_len ps k
      rw [HN.out] at hul
      have c0 : wr.cell? ⟨w1.heap.size, q, none⟩ = some (.int .i64 ((clsUp ps k).getD q 0)) := by rw [hown.cellAt q (by omega), ints_get _ q (by omega)]
      have f0 := hown.frozenAt q
      obtain ⟨st1, st2⟩ := hown.stored q (.int .i64 (cls x all))
      rw [ints_set, ← hcl] at st1
      have HST1 := hide st1
      have HST2 := hide st2
      generalize Rk.val ps q = y at r1 hst hbd
      generalize (clsUp ps k).getD q 0 = old at c0
      have HST := hide hst
      obtain ⟨hy0, hy1⟩ := hbd
      have hgr' := hide hgr
      clear hst hcl hcs st1 st2 hown hgr
      by_cases d1 : 2 * x < all
      · have hv : cls x all = 1 := by unfold cls; rw [if_pos d1]
        rw [hv] at HST1 HST2
        go_wp2_with fail
        go_roundw
        case rel => exact ⟨k + 1, x + y, by go_num, by go_num, by omega, hide HST.out.symm, by omega, by omega, HST1.out, grown_trans hgr'.out HST2.out⟩
        case measure => simp only [intOf]; omega
      · by_cases d2 : 10 * x < 9 * all
        · have hv : cls x all = 2 := by unfold cls; rw [if_neg d1, if_pos d2]
          rw [hv] at HST1 HST2
          go_wp2_with fail
          go_roundw
          case rel => exact ⟨k + 1, x + y, by go_num, by go_num, by omega, hide HST.out.symm, by omega, by omega, HST1.out, grown_trans hgr'.out HST2.out⟩
          case measure => simp only [intOf]; omega
        · have hv : cls x all = 3 := by unfold cls; rw [if_neg d1, if_neg d2]
          rw [hv] at HST1 HST2
          go_wp2_with fail
          go_roundw
          case rel => exact ⟨k + 1, x + y, by go_num, by go_num, by omega, hide HST.out.symm, by omega, by omega, HST1.out, grown_trans hgr'.out HST2.out⟩
          case measure => simp only [intOf]; omega
    · have hke : k = n := by omega
      subst hke
      have hcl : clsUp ps k = clsOf ps := by unfold clsOf; rw [HN.out]
      rw [hcl] at hown
      go_wp2_with fail
      go_ret2
      exact ⟨_, rfl, hB3.trans (grownBy_below hgr (by omega) (by omega)), hown⟩
theorem own_shape0 {w : World} {base : Nat} {v : Value} {xs : List Value} (h : w.ownsRow base 3 1 v 0 xs) : ∃ a cap, v = .slice a 0 cap := by
  rcases h.2 with ⟨rfl, _⟩ | ⟨g, cap, cur, hv, _⟩
  · exact ⟨none, 0, rfl⟩
  · exact ⟨_, _, hv⟩
set_option maxRecDepth 100000 in
set_option maxHeartbeats 2000000 in
theorem sco_zero {a b : Option Addr} {c d : Nat} {w : World} :
    Calls Try.prog 23 #[.agg #[.slice a 0 c, .slice b 0 d]] w fun e w' => ∃ g, e = .returned (.tuple #[.slice (some ⟨g, 0, none⟩) 0 0, .bool true]) ∧ Below w.heap.size w w' ∧ w'.ownsRow w.heap.size 3 1 (.slice (some ⟨g, 0, none⟩) 0 0) 0 (ints (clsOf [])) := by
  have hmk := makeI_run 0 (by omega)
  have HN : Hid (([] : List Int).length = 0) := hide rfl
  have HA : Hid (ARow w a []) := hide (Or.inl rfl)
  have HB : Hid (ARow w b []) := hide (Or.inl rfl)
  have HG : Hid (Pf.goodP [] [] = true) := hide (by decide)
  have hmk0 : ∀ W : World, (Instr.makeSlice 27 (.int .i64 0) (.int .i64 0)).run Try.prog W = .ok (.slice (some ⟨W.heap.size, 0, none⟩) 0 0) (W.alloc (.cells (madeCells #[.int .i64 0] 0) 3)) := fun W => hmk W
  clear hmk
  go_enter Try.func23, Try.ntmps23
  go_wp2_with (first
    | (go_at_call 17; refine (sgp_n HN HN HA HB HG (below1 _ _)).mono ?_; rintro e w1 ⟨rfl, hb1⟩; obtain ⟨p0, p1, z1⟩ := (PBox.new w _ _ _).below hb1; have hB1 : Below w.heap.size w w1 := (below1 _ _).trans (hb1.mono (by simp)))
    | (go_at_call 52; refine (ssum_of HN HA HG (hB1.trans ((below1 _ _).mono hB1.size))).mono ?_; rintro e w2 ⟨rfl, hw2⟩; subst hw2)
    | (go_at_call 53; refine (srank_any HN.out (by omega) (HA.out.below (hB1.trans ((below1 _ _).mono hB1.size)))).mono ?_; rintro e w3 ⟨v, rfl, hb3, own3⟩; obtain ⟨a3, cap, rfl⟩ := own_shape0 own3))
  have bn := below_new w1 (.cells (madeCells #[.int .i64 0] 0) 3)
  have hB3 : Below w.heap.size w w3 := (hB1.trans (bn.mono hB1.size)).trans (hb3.mono (by have := (hB1.trans (bn.mono hB1.size)).size; exact this))
  have HOC := hide (owns_low (owns_keep (made_own w1 0 (by omega)) (hb3.block w1.heap.size (by simp))) hB1.size)
  clear own3 hmk0
  go_loop [6, 8, 23] (fun _ _ s => s = .int .i64 0) (fun _ _ _ => 0)
  case atStart => rfl
  case round =>
    subst hrel
    go_wp2_with fail
    go_ret2
    exact ⟨_, rfl, hB3, HOC.out⟩
theorem sco_good {a b : Option Addr} {n m c d : Nat} {ps fs : List Int} {w : World} (hn : ps.length = n) (hm : fs.length = m) (ha : ARow w a ps) (hb : ARow w b fs) (hg : Pf.goodP ps fs = true) :
    Calls Try.prog 23 #[.agg #[.slice a n c, .slice b m d]] w fun e w' => ∃ g, e = .returned (.tuple #[.slice (some ⟨g, 0, none⟩) n n, .bool true]) ∧ Below w.heap.size w w' ∧ w'.ownsRow w.heap.size 3 1 (.slice (some ⟨g, 0, none⟩) n n) n (ints (clsOf ps)) := by
  rcases Nat.eq_zero_or_pos n with h | h
  · subst h
    have hm0 : m = 0 := by have := (Pf.goodP_len hg).1; omega
    subst hm0
    rw [List.length_eq_zero_iff.1 hn]
    exact sco_zero
  · exact sco_some hn hm ha hb hg h
end Go.Proofs.Ytegonbilomcpkaa
