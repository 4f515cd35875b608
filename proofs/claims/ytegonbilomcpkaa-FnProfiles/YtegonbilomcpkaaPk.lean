/-
  What ShareOf of the model answers.
-/
import Derived.Test.YtegonbilomcpkaaPj
namespace Go.Proofs.Ytegonbilomcpkaa
open Go.RowKit Go.Sort

theorem own_form {w : World} {base n : Nat} {v : Value} {xs : List Value} (h : w.ownsRow base 3 1 v n xs) (hn : 0 < n) : ∃ G cap, v = .slice (some ⟨G, 0, none⟩) n cap ∧ n ≤ cap := by
  rcases h.2 with ⟨_, h0⟩ | ⟨g, cap, cur, hv, hb, hg, h1, _⟩
  · omega
  · exact ⟨g, cap, hv, h1⟩
set_option maxRecDepth 100000 in
set_option maxHeartbeats 2000000 in
theorem sso_bad {a b : Option Addr} {n m c d : Nat} {g : Int} {ps fs : List Int} {w : World} (hn : ps.length = n) (hm : fs.length = m) (ha : ARow w a ps) (hb : ARow w b fs) (hg : Pf.goodP ps fs = false) :
    Calls Try.prog 31 #[.agg #[.slice a n c, .slice b m d], .int .i64 g] w fun e w' => e = .returned (.tuple #[.agg #[.int .i64 0, .int .i64 0], .bool false]) ∧ Below w.heap.size w w' := by
  have HA := hide ha
  have HB := hide hb
  have HG := hide hg
  subst hn hm
  clear ha hb hg
  go_enter Try.func31, Try.ntmps31
  go_wp2_with ((go_at_call 17; refine (sgp_eq ((HA.out.alloc _).alloc _) ((HB.out.alloc _).alloc _) HG.out).mono ?_; rintro e w1 ⟨rfl, hb1⟩; obtain ⟨p0, p1, p2, p3, ⟨f0, f1⟩, hB1, z1⟩ := (PV.new w _ _ _ _).below hb1))
  exact bodyPost_ret (v := .tuple #[.agg #[.int .i64 0, .int .i64 0], .bool false]) (by simp [results, Try.results31, go_sem, p2, p3]) rfl ⟨rfl, (hB1.setCell (by show w.heap.size ≤ w.heap.size + 1; omega) _).setCell (by show w.heap.size ≤ w.heap.size + 1; omega) _⟩
set_option maxRecDepth 100000 in
set_option maxHeartbeats 2000000 in
theorem sso_out {a b : Option Addr} {n m c d : Nat} {g : Int} {ps fs : List Int} {w : World} (hn : ps.length = n) (hm : fs.length = m) (ha : ARow w a ps) (hb : ARow w b fs) (hg : Pf.goodP ps fs = true) (ho : Pf.inB g 0 (n : Int) = false) :
    Calls Try.prog 31 #[.agg #[.slice a n c, .slice b m d], .int .i64 g] w fun e w' => e = .returned (.tuple #[.agg #[.int .i64 0, .int .i64 0], .bool false]) ∧ Below w.heap.size w w' := by
  have HA := hide ha
  have HB := hide hb
  have HG := hide hg
  have HO := hide ho
  subst hn hm
  clear ha hb hg ho
  go_enter Try.func31, Try.ntmps31
  go_wp2_with (first
    | (go_at_call 17; refine (sgp_eq ((HA.out.alloc _).alloc _) ((HB.out.alloc _).alloc _) HG.out).mono ?_; rintro e w1 ⟨rfl, hb1⟩; obtain ⟨p0, p1, p2, p3, ⟨f0, f1⟩, hB1, z1⟩ := (PV.new w _ _ _ _).below hb1)
    | (go_at_call 37; refine (in_eq HO.out).mono ?_; rintro e w2 ⟨rfl, rfl⟩))
  exact bodyPost_ret (v := .tuple #[.agg #[.int .i64 0, .int .i64 0], .bool false]) (by simp [results, Try.results31, go_sem, p2, p3]) rfl ⟨rfl, (hB1.setCell (by show w.heap.size ≤ w.heap.size + 1; omega) _).setCell (by show w.heap.size ≤ w.heap.size + 1; omega) _⟩
theorem sgp_n {a b : Option Addr} {n m c d : Nat} {ps fs : List Int} {w w1 : World} {r : Bool} (HN : Hid (ps.length = n)) (HM : Hid (fs.length = m)) (HA : Hid (ARow w a ps)) (HB : Hid (ARow w b fs)) (HG : Hid (Pf.goodP ps fs = r)) (hB : Below w.heap.size w w1) :
    Calls Try.prog 17 #[.agg #[.slice a n c, .slice b m d]] w1 fun e w' => e = .returned (.bool r) ∧ Below w1.heap.size w1 w' := by
  have h1 := HN.out
  have h2 := HM.out
  subst h1 h2
  exact sgp_eq (HA.out.below hB) (HB.out.below hB) HG.out
theorem ssum_of {a : Option Addr} {n c : Nat} {ps fs : List Int} {w w1 : World} (HN : Hid (ps.length = n)) (HA : Hid (ARow w a ps)) (HG : Hid (Pf.goodP ps fs = true)) (hB : Below w.heap.size w w1) :
    Calls Try.prog 52 #[.slice a n c] w1 fun e w' => e = .returned (.int .i64 ps.sum) ∧ w' = w1 := by
  have := HN.out
  subst this
  exact sisum_any (HA.out.below hB) (by have := (Pf.goodP_len HG.out).2; omega) (picks_wide HG.out)
set_option maxRecDepth 100000 in
set_option maxHeartbeats 2000000 in
theorem sso_none {a b : Option Addr} {n m c d : Nat} {g : Int} {ps fs : List Int} {w : World} (hn : ps.length = n) (hm : fs.length = m) (ha : ARow w a ps) (hb : ARow w b fs) (hg : Pf.goodP ps fs = true) (ho : Pf.inB g 0 (n : Int) = true) (hs : ps.sum = 0) :
    Calls Try.prog 31 #[.agg #[.slice a n c, .slice b m d], .int .i64 g] w fun e w' => e = .returned (.tuple #[.agg #[.int .i64 0, .int .i64 1], .bool true]) ∧ Below w.heap.size w w' := by
  have HA := hide ha
  have HB := hide hb
  have HG := hide hg
  have HO := hide ho
  have HN := hide hn
  have HM := hide hm
  clear ha hb hg ho hn hm
  go_enter Try.func31, Try.ntmps31
  go_wp2_with (first
    | (go_at_call 17; refine (sgp_n HN HM HA HB HG (below2 _ _ _)).mono ?_; rintro e w1 ⟨rfl, hb1⟩; obtain ⟨p0, p1, p2, p3, ⟨f0, f1⟩, hB1, z1⟩ := (PV.new w _ _ _ _).below hb1)
    | (go_at_call 37; refine (in_eq HO.out).mono ?_; rintro e w2 ⟨rfl, rfl⟩)
    | (go_at_call 52; refine (ssum_of HN HA HG hB1).mono ?_; rintro e w2 ⟨rfl, rfl⟩))
  exact bodyPost_ret (v := .tuple #[.agg #[.int .i64 0, .int .i64 1], .bool true]) (by simp [results, Try.results31, go_sem, p2, p3]) rfl ⟨rfl, (hB1.setCell (by show w.heap.size ≤ w.heap.size + 1; omega) _).setCell (by show w.heap.size ≤ w.heap.size + 1; omega) _⟩

set_option maxRecDepth 100000 in
set_option maxHeartbeats 4000000 in
theorem sso_some {a b : Option Addr} {n m c d i : Nat} {ps fs : List Int} {w : World} (hn : ps.length = n) (hm : fs.length = m) (ha : ARow w a ps) (hb : ARow w b fs) (hg : Pf.goodP ps fs = true) (hi : i ≤ n) (hs : ps.sum ≠ 0) :
    Calls Try.prog 31 #[.agg #[.slice a n c, .slice b m d], .int .i64 (i : Int)] w fun e w' => e = .returned (.tuple #[.agg #[.int .i64 (Fr.mkN (shS ps i) ps.sum), .int .i64 (Fr.mkD (shS ps i) ps.sum)], .bool true]) ∧ Below w.heap.size w w' := by
  have hn0 : 0 < n := by
    rcases Nat.eq_zero_or_pos n with h | h
    · rw [h] at hn; rw [List.length_eq_zero_iff.1 hn] at hs; simp at hs
    · exact h
  obtain ⟨s0, s1⟩ := picks_sum hg
  have h12 : n ≤ 12 := by have := (Pf.goodP_len hg).2; omega
  have HP := hide (Pf.goodP_picks hg)
  have HA := hide ha
  have HB := hide hb
  have HG := hide hg
  have HO : Hid (Pf.inB (i : Int) 0 (n : Int) = true) := hide (Pf.inB_of (by omega) (by omega))
  have HN := hide hn
  have HM := hide hm
  have hsz : (ps.sum == 0) = false := by simpa using hs
  have HS := hide (fun (w1 : World) (hB : Below w.heap.size w w1) => ssum_of (c := c) HN HA HG hB)
  generalize hall : ps.sum = all at *
  have i0 : (0 : Int) ≤ (i : Int) := by omega
  have i1 : (i : Int) ≤ (n : Int) := by omega
  clear ha hb hg hn hm hall
  go_enter Try.func31, Try.ntmps31
  go_wp2_with (first
    | (go_at_call 17; refine (sgp_n HN HM HA HB HG (below2 _ _ _)).mono ?_; rintro e w1 ⟨rfl, hb1⟩; obtain ⟨p0, p1, p2, p3, ⟨f0, f1⟩, hB1, z1⟩ := (PV.new w _ _ _ _).below hb1)
    | (go_at_call 37; refine (in_eq HO.out).mono ?_; rintro e w2 ⟨rfl, rfl⟩)
    | (go_at_call 52; refine (HS.out _ hB1).mono ?_; rintro e w2 ⟨rfl, rfl⟩)
    | (go_at_call 53; refine (srank_any HN.out h12 (HA.out.below hB1)).mono ?_; rintro e w3 ⟨v, rfl, hb3, own3⟩; obtain ⟨G, cap, rfl, hcap⟩ := own_form own3 hn0))
  obtain ⟨p0', p1', p2', p3', ⟨f0', f1'⟩, hB3, z3⟩ := PV.below ⟨p0, p1, p2, p3, ⟨f0, f1⟩, hB1, z1⟩ hb3
  have HPV := hide (PV.below ⟨p0, p1, p2, p3, ⟨f0, f1⟩, hB1, z1⟩ hb3)
  have HOW := hide own3
  clear p0 p1 p2 p3 f0 f1 hb1 hb3 own3
  clear p0' p1' p2' p3' f0' f1'
  go_loop [7, 9, 34] (fun s7 _ s => ∃ (k : Nat) (x : Int), s7 = .int .i64 x ∧ s = .int .i64 k ∧ k ≤ i ∧ Hid (x = pickSum ps ((Rk.rank ps).take k)) ∧ 0 ≤ x ∧ x ≤ 10000 * k) (fun _ _ s => i - (intOf s).toNat)
  case atStart => exact ⟨0, 0, rfl, rfl, Nat.zero_le _, hide (by simp [pickSum]), by omega, by omega⟩
  case round =>
    obtain ⟨k, x, rfl, rfl, hk, HX, hx0, hx1⟩ := hrel
    obtain ⟨p0, p1, p2, p3, ⟨f0, f1⟩, _, _⟩ := HPV.out
    by_cases hlt : k < i
    · have k0 : (0 : Int) ≤ (k : Int) := by omega
      have k1 : (k : Int) < (i : Int) := by omega
      have c1 : w3.cell? ⟨G, k, none⟩ = some (.int .i64 ((nats (Rk.rank ps)).getD k 0)) := by rw [HOW.out.cellAt k (by omega), ints_get _ k (by rw [nats_len, Rk.rank_len, HN.out]; omega)]
      rw [nats_get] at c1
      have hq := rank_at (ps := ps) (k := k) (by rw [HN.out]; omega)
      have hst := pickSum_take ps (Rk.rank ps) k (by rw [Rk.rank_len, HN.out]; omega)
      rw [← HX.out] at hst
      have hbd := val_bd HP.out ((Rk.rank ps).getD k 0)
      generalize (Rk.rank ps).getD k 0 = q at c1 hq hst hbd
      rw [HN.out] at hq
      obtain ⟨ba, oa, rfl, r1⟩ := (HA.out.below hB3).at (i := q) (by rw [HN.out]; exact hq)
      have r1' : w3.cell? ⟨ba, oa + q, none⟩ = some (.int .i64 (Rk.val ps q)) := r1
      have q0 : (0 : Int) ≤ (q : Int) := by omega
      have q1 : (q : Int) < (n : Int) := by omega
      generalize Rk.val ps q = y at r1' hst hbd
      have HST := hide hst
      obtain ⟨hy0, hy1⟩ := hbd
      clear r1 hst
      go_wp2_with fail
      go_round
      case rel => exact ⟨k + 1, x + y, by go_num, by go_num, by omega, hide HST.out.symm, by omega, by omega⟩
      case measure => simp only [intOf]; omega
    · have hke : k = i := by omega
      subst hke
      have HX' : Hid (x = shS ps (k : Int)) := HX
      clear HX
      go_wp2_with ((go_at_call 47; refine (make_any _ _ _ (by omega) (by omega) (by omega) (by omega) hs).mono ?_; rintro e w4 ⟨rfl, hb4⟩; obtain ⟨c4, c5, g4, g5⟩ := pv_res' HPV.out hb4))
      exact bodyPost_ret (v := .tuple #[.agg #[.int .i64 (Fr.mkN x all), .int .i64 (Fr.mkD x all)], .bool true]) (by simp [results, Try.results31, go_sem, c4, c5]) rfl ⟨by rw [← HX'.out], ((hB3.trans (hb4.mono hB3.size)).setCell (by show w.heap.size ≤ w.heap.size + 1; omega) _).setCell (by show w.heap.size ≤ w.heap.size + 1; omega) _⟩
theorem sso_any {a b : Option Addr} {n m c d : Nat} {g : Int} {ps fs : List Int} {w : World} (hn : ps.length = n) (hm : fs.length = m) (ha : ARow w a ps) (hb : ARow w b fs) :
    (shB ps fs g = false → Calls Try.prog 31 #[.agg #[.slice a n c, .slice b m d], .int .i64 g] w fun e w' => e = .returned (.tuple #[.agg #[.int .i64 0, .int .i64 0], .bool false]) ∧ Below w.heap.size w w') ∧
    (shB ps fs g = true → Calls Try.prog 31 #[.agg #[.slice a n c, .slice b m d], .int .i64 g] w fun e w' => e = .returned (.tuple #[.agg #[.int .i64 (shN ps g), .int .i64 (shD ps g)], .bool true]) ∧ Below w.heap.size w w') := by
  cases hg : Pf.goodP ps fs
  · exact ⟨fun _ => sso_bad hn hm ha hb hg, fun h => by simp [shB, hg] at h⟩
  · cases ho : Pf.inB g 0 (n : Int)
    · exact ⟨fun _ => sso_out hn hm ha hb hg ho, fun h => by simp [shB, hn, ho] at h⟩
    · refine ⟨fun h => by simp [shB, hg, hn, ho] at h, fun _ => ?_⟩
      unfold shN shD
      by_cases hs : ps.sum = 0
      · rw [if_pos hs, if_pos hs]; exact sso_none hn hm ha hb hg ho hs
      · rw [if_neg hs, if_neg hs]
        obtain ⟨g0, g1⟩ := Pf.inB_yes ho
        obtain ⟨i, rfl⟩ : ∃ i : Nat, g = (i : Int) := ⟨g.toNat, by omega⟩
        exact sso_some hn hm ha hb hg (by omega) hs
end Go.Proofs.Ytegonbilomcpkaa
