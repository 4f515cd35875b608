/-
  What ShareOf answers, the program's and the model's.
-/
import Derived.Test.YtegonbilomcpkaaPh
import Derived.Test.YtegonbilomcpkaaPi
namespace Go.Proofs.Ytegonbilomcpkaa
open Go.RowKit Go.Sort

/-- What those with these numbers are asked for together. -/
def pickSum (ps : List Int) (l : List Nat) : Int := (l.map (Rk.val ps)).sum
theorem pickSum_take (ps : List Int) (l : List Nat) (k : Nat) (h : k < l.length) : pickSum ps (l.take (k + 1)) = pickSum ps (l.take k) + Rk.val ps (l.getD k 0) := by
  unfold pickSum
  rw [List.take_succ_eq_append_getElem h, List.map_append, List.sum_append, Pf.getD_lt _ _ h]; simp
theorem val_bd {ps : List Int} (h : Pf.allB ps 0 10000 = true) (i : Nat) : 0 ≤ Rk.val ps i ∧ Rk.val ps i ≤ 10000 := by
  unfold Rk.val
  by_cases hi : i < ps.length
  · exact Pf.inB_yes (Pf.allB_get h hi)
  · simp [show ps.length ≤ i by omega]
theorem pickSum_bd {ps : List Int} (h : Pf.allB ps 0 10000 = true) : ∀ l : List Nat, 0 ≤ pickSum ps l ∧ pickSum ps l ≤ 10000 * l.length
  | [] => by simp [pickSum]
  | x :: r => by
    have h1 := pickSum_bd h r
    have h2 := val_bd h x
    have e : pickSum ps (x :: r) = Rk.val ps x + pickSum ps r := by simp [pickSum]
    rw [e, List.length_cons]
    omega
def shB (ps fs : List Int) (g : Int) : Bool := Pf.goodP ps fs && Pf.inB g 0 (ps.length : Int)
def shS (ps : List Int) (g : Int) : Int := pickSum ps ((Rk.rank ps).take g.toNat)
def shN (ps : List Int) (g : Int) : Int := if ps.sum = 0 then 0 else Fr.mkN (shS ps g) ps.sum
def shD (ps : List Int) (g : Int) : Int := if ps.sum = 0 then 1 else Fr.mkD (shS ps g) ps.sum
theorem picks_sum {ps fs : List Int} (h : Pf.goodP ps fs = true) : 0 ≤ ps.sum ∧ ps.sum ≤ 120000 := by
  have h1 := Pf.sum_bd (Pf.goodP_picks h)
  have h2 := (Pf.goodP_len h).2
  omega
theorem picks_wide {ps fs : List Int} (h : Pf.goodP ps fs = true) : Pf.allB ps (-10000000) 10000000 = true :=
  Pf.allB_of fun i hi => by have := Pf.inB_yes (Pf.allB_get (Pf.goodP_picks h) hi); exact Pf.inB_of (by omega) (by omega)

theorem pv_res' {w w1 w2 : World} {v0 v1 : Value} (h : PV w w1 v0 v1) (hb : Below w1.heap.size w1 w2) :
    w2.cell? ⟨w.heap.size + 1, 0, none⟩ = some (.int .i64 0) ∧ w2.cell? ⟨w.heap.size + 1, 1, none⟩ = some (.int .i64 0) ∧ w2.frozen? ⟨w.heap.size + 1, 0, none⟩ = false ∧ w2.frozen? ⟨w.heap.size + 1, 1, none⟩ = false := by
  obtain ⟨s0, s1, s2, s3, ⟨f0, f1⟩, s4, s5⟩ := h.below hb
  exact ⟨s2, s3, f0, f1⟩

set_option maxRecDepth 100000 in
set_option maxHeartbeats 2000000 in
theorem so_bad {a b : Option Addr} {n m c d : Nat} {g : Int} {ps fs : List Int} {w : World} (hn : ps.length = n) (hm : fs.length = m) (ha : ARow w a ps) (hb : ARow w b fs) (hg : Pf.goodP ps fs = false) :
    Calls Try.prog 25 #[.agg #[.slice a n c, .slice b m d], .int .i64 g] w fun e w' => e = .returned (.tuple #[.agg #[.int .i64 0, .int .i64 0], .bool false]) ∧ Below w.heap.size w w' := by
  have HA := hide ha
  have HB := hide hb
  have HG := hide hg
  subst hn hm
  clear ha hb hg
  go_enter Try.func25, Try.ntmps25
  go_wp2_with ((go_at_call 13; refine (gp_eq ((HA.out.alloc _).alloc _) ((HB.out.alloc _).alloc _) HG.out).mono ?_; rintro e w1 ⟨rfl, hb1⟩; obtain ⟨p0, p1, p2, p3, ⟨f0, f1⟩, hB1, z1⟩ := (PV.new w _ _ _ _).below hb1))
  exact bodyPost_ret (v := .tuple #[.agg #[.int .i64 0, .int .i64 0], .bool false]) (by simp [results, Try.results25, go_sem, p2, p3]) rfl ⟨rfl, (hB1.setCell (by show w.heap.size ≤ w.heap.size + 1; omega) _).setCell (by show w.heap.size ≤ w.heap.size + 1; omega) _⟩
set_option maxRecDepth 100000 in
set_option maxHeartbeats 2000000 in
theorem so_out {a b : Option Addr} {n m c d : Nat} {g : Int} {ps fs : List Int} {w : World} (hn : ps.length = n) (hm : fs.length = m) (ha : ARow w a ps) (hb : ARow w b fs) (hg : Pf.goodP ps fs = true) (ho : Pf.inB g 0 (n : Int) = false) :
    Calls Try.prog 25 #[.agg #[.slice a n c, .slice b m d], .int .i64 g] w fun e w' => e = .returned (.tuple #[.agg #[.int .i64 0, .int .i64 0], .bool false]) ∧ Below w.heap.size w w' := by
  have HA := hide ha
  have HB := hide hb
  have HG := hide hg
  have HO := hide ho
  subst hn hm
  clear ha hb hg ho
  go_enter Try.func25, Try.ntmps25
  go_wp2_with (first
    | (go_at_call 13; refine (gp_eq ((HA.out.alloc _).alloc _) ((HB.out.alloc _).alloc _) HG.out).mono ?_; rintro e w1 ⟨rfl, hb1⟩; obtain ⟨p0, p1, p2, p3, ⟨f0, f1⟩, hB1, z1⟩ := (PV.new w _ _ _ _).below hb1)
    | (go_at_call 39; refine (between_eq HO.out).mono ?_; rintro e w2 ⟨rfl, rfl⟩))
  exact bodyPost_ret (v := .tuple #[.agg #[.int .i64 0, .int .i64 0], .bool false]) (by simp [results, Try.results25, go_sem, p2, p3]) rfl ⟨rfl, (hB1.setCell (by show w.heap.size ≤ w.heap.size + 1; omega) _).setCell (by show w.heap.size ≤ w.heap.size + 1; omega) _⟩
theorem gp_n {a b : Option Addr} {n m c d : Nat} {ps fs : List Int} {w w1 : World} {r : Bool} (HN : Hid (ps.length = n)) (HM : Hid (fs.length = m)) (HA : Hid (ARow w a ps)) (HB : Hid (ARow w b fs)) (HG : Hid (Pf.goodP ps fs = r)) (hB : Below w.heap.size w w1) :
    Calls Try.prog 13 #[.agg #[.slice a n c, .slice b m d]] w1 fun e w' => e = .returned (.bool r) ∧ Below w1.heap.size w1 w' := by
  have h1 := HN.out
  have h2 := HM.out
  subst h1 h2
  exact gp_eq (HA.out.below hB) (HB.out.below hB) HG.out
theorem below2 (w : World) (o o' : Obj) : Below w.heap.size w ((w.alloc o).alloc o') := ((Below.refl _ _).alloc (Nat.le_refl _) _).alloc (by simp) _
theorem sum_of {a : Option Addr} {n c : Nat} {ps fs : List Int} {w w1 : World} (HN : Hid (ps.length = n)) (HA : Hid (ARow w a ps)) (HG : Hid (Pf.goodP ps fs = true)) (hB : Below w.heap.size w w1) :
    Calls Try.prog 49 #[.slice a n c] w1 fun e w' => e = .returned (.int .i64 ps.sum) ∧ w' = w1 := by
  have := HN.out
  subst this
  exact isum_any (HA.out.below hB) (by have := (Pf.goodP_len HG.out).2; omega) (picks_wide HG.out)
set_option maxRecDepth 100000 in
set_option maxHeartbeats 2000000 in
theorem so_none {a b : Option Addr} {n m c d : Nat} {g : Int} {ps fs : List Int} {w : World} (hn : ps.length = n) (hm : fs.length = m) (ha : ARow w a ps) (hb : ARow w b fs) (hg : Pf.goodP ps fs = true) (ho : Pf.inB g 0 (n : Int) = true) (hs : ps.sum = 0) :
    Calls Try.prog 25 #[.agg #[.slice a n c, .slice b m d], .int .i64 g] w fun e w' => e = .returned (.tuple #[.agg #[.int .i64 0, .int .i64 1], .bool true]) ∧ Below w.heap.size w w' := by
  have HA := hide ha
  have HB := hide hb
  have HG := hide hg
  have HO := hide ho
  have HN := hide hn
  have HM := hide hm
  clear ha hb hg ho hn hm
  go_enter Try.func25, Try.ntmps25
  go_wp2_with (first
    | (go_at_call 13; refine (gp_n HN HM HA HB HG (below2 _ _ _)).mono ?_; rintro e w1 ⟨rfl, hb1⟩; obtain ⟨p0, p1, p2, p3, ⟨f0, f1⟩, hB1, z1⟩ := (PV.new w _ _ _ _).below hb1)
    | (go_at_call 39; refine (between_eq HO.out).mono ?_; rintro e w2 ⟨rfl, rfl⟩)
    | (go_at_call 49; refine (sum_of HN HA HG hB1).mono ?_; rintro e w2 ⟨rfl, rfl⟩)
    | (go_at_call 54; refine (whole_any _ _).mono ?_; rintro e w3 ⟨rfl, hb3⟩; obtain ⟨c4, c5, g4, g5⟩ := pv_res' ⟨p0, p1, p2, p3, ⟨f0, f1⟩, hB1, z1⟩ hb3))
  exact bodyPost_ret (v := .tuple #[.agg #[.int .i64 0, .int .i64 1], .bool true]) (by simp [results, Try.results25, go_sem, c4, c5]) rfl ⟨rfl, ((hB1.trans (hb3.mono hB1.size)).setCell (by show w.heap.size ≤ w.heap.size + 1; omega) _).setCell (by show w.heap.size ≤ w.heap.size + 1; omega) _⟩

theorem rank_at {ps : List Int} {k : Nat} (h : k < ps.length) : (Rk.rank ps).getD k 0 < ps.length := by
  have hl : k < (Rk.rank ps).length := by rw [Rk.rank_len]; exact h
  rw [Pf.getD_lt _ _ hl]
  exact Rk.rank_mem (List.getElem_mem hl)
set_option maxRecDepth 100000 in
set_option maxHeartbeats 4000000 in
theorem so_some {a b : Option Addr} {n m c d i : Nat} {ps fs : List Int} {w : World} (hn : ps.length = n) (hm : fs.length = m) (ha : ARow w a ps) (hb : ARow w b fs) (hg : Pf.goodP ps fs = true) (hi : i ≤ n) (hs : ps.sum ≠ 0) :
    Calls Try.prog 25 #[.agg #[.slice a n c, .slice b m d], .int .i64 (i : Int)] w fun e w' => e = .returned (.tuple #[.agg #[.int .i64 (Fr.mkN (shS ps i) ps.sum), .int .i64 (Fr.mkD (shS ps i) ps.sum)], .bool true]) ∧ Below w.heap.size w w' := by
  obtain ⟨s0, s1⟩ := picks_sum hg
  have h12 : n ≤ 12 := by have := (Pf.goodP_len hg).2; omega
  have HP := hide (Pf.goodP_picks hg)
  have HA := hide ha
  have HB := hide hb
  have HG := hide hg
  have HO : Hid (Pf.inB (i : Int) 0 (n : Int) = true) := hide (Pf.inB_of (by omega) (by omega))
  have HN := hide hn
  have HM := hide hm
  have hsz : (ps.sum == 0) = false := by simpa using hs
  have HS := hide (fun (w1 : World) (hB : Below w.heap.size w w1) => sum_of (c := c) HN HA HG hB)
  generalize hall : ps.sum = all at *
  have i0 : (0 : Int) ≤ (i : Int) := by omega
  have i1 : (i : Int) ≤ (n : Int) := by omega
  clear ha hb hg hn hm hall
  go_enter Try.func25, Try.ntmps25
  go_wp2_with (first
    | (go_at_call 13; refine (gp_n HN HM HA HB HG (below2 _ _ _)).mono ?_; rintro e w1 ⟨rfl, hb1⟩; obtain ⟨p0, p1, p2, p3, ⟨f0, f1⟩, hB1, z1⟩ := (PV.new w _ _ _ _).below hb1)
    | (go_at_call 39; refine (between_eq HO.out).mono ?_; rintro e w2 ⟨rfl, rfl⟩)
    | (go_at_call 49; refine (HS.out _ hB1).mono ?_; rintro e w2 ⟨rfl, rfl⟩)
    | (go_at_call 50; refine (rank_any HN.out h12 (HA.out.below hB1)).mono ?_; rintro e w3 ⟨rfl, hb3, own3⟩))
  obtain ⟨p0', p1', p2', p3', ⟨f0', f1'⟩, hB3, z3⟩ := PV.below ⟨p0, p1, p2, p3, ⟨f0, f1⟩, hB1, z1⟩ hb3
  have HPV := hide (PV.below ⟨p0, p1, p2, p3, ⟨f0, f1⟩, hB1, z1⟩ hb3)
  have HOW := hide own3
  clear p0 p1 p2 p3 f0 f1 hb1 hb3 own3
  clear p0' p1' p2' p3' f0' f1'
  go_loop [7, 9, 34] (fun s7 _ s => ∃ (k : Nat) (x : Int), s7 = .int .i64 x ∧ s = .int .i64 k ∧ k ≤ i ∧ Hid (x = pickSum ps ((Rk.rank ps).take k)) ∧ 0 ≤ x ∧ x ≤ 10000 * k) (fun _ _ s => i - (intOf s).toNat)
  case atStart => exact ⟨0, 0, rfl, rfl, Nat.zero_le _, hide (by simp [pickSum]), by omega, by omega⟩
  case round =>
    obtain ⟨k, x, rfl, rfl, hk, HX, hx0, hx1⟩ := hrel
    obtain ⟨p0, p1, p2, p3, ⟨f0, f1⟩, _, _⟩ := HPV.out
    by_cases hlt : k < i
    · have k0 : (0 : Int) ≤ (k : Int) := by omega
      have k1 : (k : Int) < (i : Int) := by omega
      have c1 : w3.cell? ⟨w2.heap.size + 1, k, none⟩ = some (.int .i64 ((nats (Rk.rank ps)).getD k 0)) := by rw [HOW.out.cellAt k (by omega), ints_get _ k (by rw [nats_len, Rk.rank_len, HN.out]; omega)]
      rw [nats_get] at c1
      have hq := rank_at (ps := ps) (k := k) (by rw [HN.out]; omega)
      have hst := pickSum_take ps (Rk.rank ps) k (by rw [Rk.rank_len, HN.out]; omega)
      rw [← HX.out] at hst
      have hbd := val_bd HP.out ((Rk.rank ps).getD k 0)
      generalize (Rk.rank ps).getD k 0 = q at c1 hq hst hbd
      rw [HN.out] at hq
      obtain ⟨ba, oa, rfl, r1⟩ := (HA.out.below hB3).at (i := q) (by rw [HN.out]; exact hq)
      have r1' : w3.cell? ⟨ba, oa + q, none⟩ = some (.int .i64 (Rk.val ps q)) := r1
      have q0 : (0 : Int) ≤ (q : Int) := by omega
      have q1 : (q : Int) < (n : Int) := by omega
      generalize Rk.val ps q = y at r1' hst hbd
      have HST := hide hst
      obtain ⟨hy0, hy1⟩ := hbd
      clear r1 hst
      go_wp2_with fail
      go_round
      case rel => exact ⟨k + 1, x + y, by go_num, by go_num, by omega, hide HST.out.symm, by omega, by omega⟩
      case measure => simp only [intOf]; omega
    · have hke : k = i := by omega
      subst hke
      have HX' : Hid (x = shS ps (k : Int)) := HX
      have HPx : Hid (Fr.partB x = true) := hide (by simp [Fr.partB]; omega)
      have HPa : Hid (Fr.partB all = true) := hide (by simp [Fr.partB]; omega)
      clear HX
      go_wp2_with ((go_at_call 46; refine (of_yes _ _ _ HPx.out HPa.out hs).mono ?_; rintro e w4 ⟨rfl, hb4⟩; obtain ⟨c4, c5, g4, g5⟩ := pv_res' HPV.out hb4))
      exact bodyPost_ret (v := .tuple #[.agg #[.int .i64 (Fr.mkN x all), .int .i64 (Fr.mkD x all)], .bool true]) (by simp [results, Try.results25, go_sem, c4, c5]) rfl ⟨by rw [← HX'.out], ((hB3.trans (hb4.mono hB3.size)).setCell (by show w.heap.size ≤ w.heap.size + 1; omega) _).setCell (by show w.heap.size ≤ w.heap.size + 1; omega) _⟩
theorem so_any {a b : Option Addr} {n m c d : Nat} {g : Int} {ps fs : List Int} {w : World} (hn : ps.length = n) (hm : fs.length = m) (ha : ARow w a ps) (hb : ARow w b fs) :
    (shB ps fs g = false → Calls Try.prog 25 #[.agg #[.slice a n c, .slice b m d], .int .i64 g] w fun e w' => e = .returned (.tuple #[.agg #[.int .i64 0, .int .i64 0], .bool false]) ∧ Below w.heap.size w w') ∧
    (shB ps fs g = true → Calls Try.prog 25 #[.agg #[.slice a n c, .slice b m d], .int .i64 g] w fun e w' => e = .returned (.tuple #[.agg #[.int .i64 (shN ps g), .int .i64 (shD ps g)], .bool true]) ∧ Below w.heap.size w w') := by
  cases hg : Pf.goodP ps fs
  · exact ⟨fun _ => so_bad hn hm ha hb hg, fun h => by simp [shB, hg] at h⟩
  · cases ho : Pf.inB g 0 (n : Int)
    · exact ⟨fun _ => so_out hn hm ha hb hg ho, fun h => by simp [shB, hn, ho] at h⟩
    · refine ⟨fun h => by simp [shB, hg, hn, ho] at h, fun _ => ?_⟩
      unfold shN shD
      by_cases hs : ps.sum = 0
      · rw [if_pos hs, if_pos hs]; exact so_none hn hm ha hb hg ho hs
      · rw [if_neg hs, if_neg hs]
        obtain ⟨g0, g1⟩ := Pf.inB_yes ho
        obtain ⟨i, rfl⟩ : ∃ i : Nat, g = (i : Int) := ⟨g.toNat, by omega⟩
        exact so_some hn hm ha hb hg (by omega) hs
end Go.Proofs.Ytegonbilomcpkaa
