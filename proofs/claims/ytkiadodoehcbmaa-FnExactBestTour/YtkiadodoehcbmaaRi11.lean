/-
  Trees: what l11Tree and TreeOf of the model answer.
-/
import Derived.Test.YtkiadodoehcbmaaRh11
import Derived.Test.YtkiadodoehcbmaaHv
import Derived.Test.YtkiadodoehcbmaaJm10
import Derived.Test.YtkiadodoehcbmaaMm11
namespace Go.Proofs.Ytkiadodoehcbmaa
open Go.RowKit

/-- By which the stops are joined, in block U, and those joined, beyond it. -/
def TS (w wr : World) (U : Nat) (vin : Value) (n : Nat) (I : List Nat) (up : List Int) : Prop :=
  wr.ownsRow w.heap.size 3 1 (.slice (some ⟨U, 0, none⟩) n n) n (ints up) ∧ wr.ownsRow (U + 1) 3 1 vin I.length (ints (cst I)) ∧ Below w.heap.size w wr ∧ w.heap.size ≤ U ∧ U < wr.heap.size
theorem TS.below {w wr V : World} {U n : Nat} {vin : Value} {I : List Nat} {up : List Int} (h : TS w wr U vin n I up) (hb : Below wr.heap.size wr V) : TS w V U vin n I up := by
  obtain ⟨h1, h2, h3, h4, h5⟩ := h
  exact ⟨own_below h1 hb, own_below h2 hb, h3.trans (hb.mono h3.size), h4, Nat.lt_of_lt_of_le h5 hb.size⟩
theorem TS.put {w wr : World} {U n : Nat} {vin : Value} {I : List Nat} {up : List Int} (h : TS w wr U vin n I up) (i : Nat) (z : Int) : TS w (wr.setCell ⟨U, i, none⟩ (.int .i64 z)) U vin n I (up.set i z) := by
  obtain ⟨h1, h2, h3, h4, h5⟩ := h
  obtain ⟨s1, s2⟩ := h1.stored i (.int .i64 z)
  rw [ints_set] at s1
  refine ⟨s1, ?_, h3.setCell (p := ⟨U, i, none⟩) h4 _, h4, by simpa using h5⟩
  refine h2.kept s2 ?_
  cases hb : vin.ownBlock with
  | none => exact Or.inl rfl
  | some b => exact Or.inr fun e => by have := (h2.lt b hb).1; simp at e; omega
theorem TS.in_row {w wr : World} {U n : Nat} {vin : Value} {I : List Nat} {up : List Int} (h : TS w wr U vin n I up) : ∃ a c, vin = .slice a I.length c ∧ ARow wr a (cst I) := by
  obtain ⟨a, c, e, r⟩ := own_row (cst_len I) h.2.1
  exact ⟨a, c, e, r⟩
theorem TS.push {w wr : World} {U n k : Nat} {vin : Value} {I : List Nat} {up : List Int} (h : TS w wr U vin n I up) (hl : I.length ≤ 100) :
    ∃ v' w', (∀ ty, (Builtin.append_ #[36, 36] ty #[vin, .slice (some ⟨wr.heap.size, 0, none⟩) 1 1]).run Try.prog (wr.alloc (.cells #[.int .i64 (k : Int)] 3)) = .ok v' w') ∧ TS w w' U v' n (I ++ [k]) up := by
  obtain ⟨h1, h2, h3, h4, h5⟩ := h
  obtain ⟨v', w', hr, own, hg⟩ := push_int (x := (k : Int)) h2 (by omega) (by omega)
  rw [cst_snoc] at own
  have hne : ∀ b, vin.ownBlock = some b → U < b := fun b hb => by have := (h2.lt b hb).1; omega
  refine ⟨v', w', hr, ?_, by rw [List.length_append]; exact own, ?_, h4, Nat.lt_of_lt_of_le h5 hg.size⟩
  · refine h1.kept hg ?_
    right
    intro e
    have := hne U (by rw [← e]; rfl)
    omega
  · exact h3.trans (grown_under10 hg (fun b e => by have := hne b e; omega) h3.size)
theorem spot_cells {w : World} {b o i : Nat} {L : List (Int × Int)} (h : FRow w (some ⟨b, o, none⟩) L) (hi : i < L.length) : w.cell? ⟨b, o + i * 2, none⟩ = some (.int .i64 (L.getD i (0, 0)).1) ∧ w.cell? ⟨b, o + i * 2 + 1, none⟩ = some (.int .i64 (L.getD i (0, 0)).2) := by
  obtain ⟨b', o', e, _, r1, r2⟩ := h.at hi
  cases e
  exact ⟨r1, r2⟩
def lnOf : Value → Nat
  | .slice _ n _ => n
  | _ => 0
def os1 (o : Option (Nat × Nat)) : Int := match o with | none => -1 | some p => (p.1 : Int)
def os2 (o : Option (Nat × Nat)) : Int := match o with | none => 0 | some p => (p.2 : Int)
theorem mix_set (n i : Nat) (hi : i < n) : (List.replicate i (-1) ++ List.replicate (n - i) (0 : Int)).set i (-1) = List.replicate (i + 1) (-1) ++ List.replicate (n - (i + 1)) 0 := by
  rw [List.set_append_right _ _ (by simp)]
  rw [List.length_replicate, Nat.sub_self, show n - i = (n - (i + 1)) + 1 by omega, List.replicate_succ, List.set_cons_zero, List.replicate_succ', List.append_assoc]
  rfl
set_option maxHeartbeats 8000000 in
theorem str_any {a : Option Addr} {n c : Nat} {L : List (Int × Int)} {w : World} (hl : Hid (L.length = n)) (h1 : 1 ≤ n) (hn : n ≤ 7) (hs : Hid (Rt.allS L = true)) (ha : Hid (FRow w a L)) :
    Calls Try.prog 43 #[.slice a n c] w fun e w' => ∃ I up s, Rt.tree L (n - 1) = (I, up, s) ∧ e = .returned (.tuple #[.slice (some ⟨w.heap.size, 0, none⟩) n n, .int .i64 s]) ∧ w'.ownsRow w.heap.size 3 1 (.slice (some ⟨w.heap.size, 0, none⟩) n n) n (ints up) ∧ Below w.heap.size w w' := by
  have hmk := makeI_run n (by omega)
  have hM := made_own w n (by omega)
  have HM0 := hide hM
  have HB0 := hide (below_new w (.cells (madeCells #[.int .i64 0] n) 3))
  have hsz : w.heap.size < (w.alloc (.cells (madeCells #[.int .i64 0] n) 3)).heap.size := by simp
  obtain ⟨w0, hw0⟩ : ∃ w0, w.alloc (.cells (madeCells #[.int .i64 0] n) 3) = w0 := ⟨_, rfl⟩
  rw [hw0] at HM0 HB0 hsz
  have HW0 := hide hw0
  clear hM hw0
  go_enter Try.func43, Try.ntmps43
  go_upto_region 2 with fail
  rw [HW0.out]
  clear HW0 hmk
  go_wp2_with fail
  go_loopw [5, 17] (fun _ s wr => ∃ (i : Nat), s = .int .i64 i ∧ i ≤ n ∧ Hid (wr.ownsRow w.heap.size 3 1 (.slice (some ⟨w.heap.size, 0, none⟩) n n) n (ints (List.replicate i (-1) ++ List.replicate (n - i) 0))) ∧ Hid (Below w.heap.size w wr) ∧ w.heap.size < wr.heap.size) (fun _ s _ => n - (intOf s).toNat)
  case atStart => exact ⟨0, rfl, Nat.zero_le _, hide (by simpa using HM0.out), HB0, hsz⟩
  case round =>
    obtain ⟨i, rfl, hi, HO, HB, hz⟩ := hrel
    clear HM0 HB0 hsz
    by_cases hlt : i < n
    · have i0 : (0 : Int) ≤ (i : Int) := by omega
      have i1 : (i : Int) < (n : Int) := by omega
      have own := HO.out
      have cc : ∃ y, wr.cell? ⟨w.heap.size, i, none⟩ = some y := by
        have := own.cellAt i (by simp; omega)
        rw [this, ints_get _ i (by simp; omega)]
        exact ⟨_, rfl⟩
      obtain ⟨y, hy⟩ := cc
      have fz := own.frozenAt i
      obtain ⟨st1, _⟩ := own.stored i (.int .i64 (-1))
      rw [ints_set, mix_set n i hlt] at st1
      have HST := hide st1
      have HB2 := hide (HB.out.setCell (p := ⟨w.heap.size, i, none⟩) (Nat.le_refl _) (.int .i64 (-1)))
      clear own st1 HO HB
      go_wp2_with fail
      go_roundw
      case rel => exact ⟨i + 1, by go_num, by omega, HST, HB2, by simpa using hz⟩
      case measure => simp only [intOf]; omega
    · have hke : i = n := by omega
      subst hke
      have own0 := HO.out
      rw [Nat.sub_self, List.replicate_zero, List.append_nil] at own0
      have hb1 := below_alloc wr (.cells #[.int .i64 0] 3)
      have HTS : Hid (TS w (wr.alloc (.cells #[.int .i64 0] 3)) w.heap.size (.slice (some ⟨wr.heap.size, 0, none⟩) 1 1) i [0] (List.replicate i (-1))) := hide ⟨own_below own0 hb1, by
          have h := World.ownsRow_lit (base := w.heap.size + 1) (e := 3) (size := 1) wr #[.int .i64 0] 1 (by omega) (by unfold maxLen; omega) (by simp)
          simpa [cst, ints] using h, HB.out.trans (hb1.mono HB.out.size), Nat.le_refl _, by simp; omega⟩
      have HT0 : Hid (Rt.tree L 0 = ([0], List.replicate i (-1), 0)) := hide (by simp [Rt.tree, hl.out])
      obtain ⟨w1, hw1⟩ : ∃ w1, wr.alloc (.cells #[.int .i64 0] 3) = w1 := ⟨_, rfl⟩
      rw [hw1] at HTS
      have HW1 := hide hw1
      clear own0 hb1 hw1 HO HB hz
      go_upto_region 8 with fail
      rw [HW1.out]
      clear HW1
      go_wp2_with fail
      go_loopw [6, 7, 8, 9, 10, 11] (fun s6 s7 _ _ _ _ wr => ∃ (m : Nat) (I : List Nat) (up : List Int) (s : Int), s7 = .int .i64 s ∧ I.length = m + 1 ∧ m + 1 ≤ i ∧ Hid (Rt.tree L m = (I, up, s)) ∧ Hid (TS w wr w.heap.size s6 i I up)) (fun s6 _ _ _ _ _ _ => i - lnOf s6)
      case atStart => exact ⟨0, [0], List.replicate i (-1), 0, rfl, rfl, h1, HT0, HTS⟩
      case round =>
        clear HT0 HTS
        obtain ⟨m, I, up, s, rfl, hI, hm, HT, HTS⟩ := hrel
        obtain ⟨ain, cin, e6, rin⟩ := HTS.out.in_row
        subst e6
        rw [hI]
        have HIL : Hid ((cst I).length = m + 1) := hide (by rw [cst_len, hI])
        by_cases hlt : m + 1 < i
        · have i0 : (((m + 1 : Nat) : Int)) < (i : Int) := by omega
          have i0' : ((m : Int) + 1) < (i : Int) := by omega
          obtain ⟨hJ, _, hul⟩ := Rt.tree_jn hl.out h1 m (by omega)
          rw [HT.out] at hJ hul
          have HJ : Hid (Rt.Jn i I) := hide hJ
          have hul' : up.length = i := hul
          have HSB := hide (Rt.tree_bd hl.out h1 hs.out m (by omega))
          rw [HT.out] at HSB
          have HRIN := hide fun (V : World) (h : Below wr.heap.size wr V) => rin.below h
          have HFR := hide fun (V : World) (h : Below wr.heap.size wr V) => ha.out.below (bw_below HTS.out.2.2.1 h)
          clear hJ hul rin
          go_wp2_with fail
          go_loopw [8, 9, 10, 11, 32] (fun s8 s9 _ _ sk wk => ∃ (k : Nat) (o : Option (Nat × Nat)), s8 = .int .i64 (os1 o) ∧ s9 = .int .i64 (os2 o) ∧ sk = .int .i64 k ∧ k ≤ i ∧ Hid (Rt.bestTo L I i k = o) ∧ Hid (Below wr.heap.size wr wk)) (fun _ _ _ _ sk _ => i - (intOf sk).toNat)
          case atStart => exact ⟨0, none, rfl, rfl, rfl, Nat.zero_le _, hide rfl, hide (Below.refl _ _)⟩
          case round =>
            obtain ⟨k, o, rfl, rfl, rfl, hk, HO, HBK⟩ := hrel
            by_cases hki : k < i
            · have k0 : (0 : Int) ≤ (k : Int) := by omega
              have k1 : (k : Int) < (i : Int) := by omega
              have HNX := hide (Rt.best_succ L I i k)
              cases hc : I.contains k
              · have HC := hide hc
                have HQ := hide (hb_has (w := wr) (d := cin) (i := k) HIL (by omega) (hide (HRIN.out _ HBK.out)) HC)
                obtain ⟨j, hj, hji, _⟩ := Rt.near_is L HJ.out k
                have HSN := hide (sn_any (w := wr) (c := c) (d := cin) (k := k) hl hn HIL (by omega) hs hki (hide (HFR.out _ HBK.out)) (hide (HRIN.out _ HBK.out)))
                rw [hj] at HSN
                have hop : opt (some j) = (j : Int) := rfl
                rw [hop] at HSN
                have HNX2 : Hid (Rt.bestTo L I i (k + 1) = Rt.comb (Rt.wp L) o (some (k, j))) := hide (by rw [HNX.out, hc, HO.out, hj]; rfl)
                clear hc HNX
                go_wp2_with fail
                refine HQ.out.mono ?_
                rintro e w2 ⟨rfl, hw2⟩
                obtain rfl : wr = w2 := hw2.symm
                go_wp2_with fail
                refine HSN.out.mono ?_
                rintro e w3 ⟨rfl, hb3⟩
                have HB3 := hide (bw_below HBK.out hb3)
                clear hb3 HQ HSN
                cases o with
                | none =>
                  have HN3 : Hid (Rt.bestTo L I i (k + 1) = some (k, j)) := hide (by rw [HNX2.out]; rfl)
                  have ho1 : os1 none = -1 := rfl
                  have ho2 : os2 none = 0 := rfl
                  rw [ho1, ho2]
                  clear HNX2 HO
                  go_upto_region 17 with fail
                  go_quiet (fail)
                  go_wp2_with fail
                  go_roundw
                  case rel => exact ⟨k + 1, some (k, j), rfl, rfl, by go_num, by omega, HN3, hide (below_drewN HB3.out _)⟩
                  case measure => simp only [intOf]; omega
                | some pq =>
                  obtain ⟨p, q⟩ := pq
                  obtain ⟨hp, _, hq, _⟩ := Rt.best_is HO.out
                  have hpi : p < i := by omega
                  have hqi : q < i := hq
                  have HFL := hide fun (V : World) (h : Below w3.heap.size w3 V) => HFR.out V (bw_below HB3.out h)
                  obtain ⟨b, o, ea, _⟩ := (HFL.out _ (Below.refl _ _)).at (i := k) (stop_at hl.out hki)
                  subst ea
                  have HSP := hide fun (x : Nat) (hx : x < i) (V : World) (h : Below w3.heap.size w3 V) => spot_cells (HFL.out V h) (stop_at hl.out hx)
                  have HWY := hide fun (x y : Nat) (hx : x < i) (hy : y < i) (V : World) (h : Below w3.heap.size w3 V) => (lw_any (w := V) (Rt.allS_at hs.out (stop_at hl.out hx)) (Rt.allS_at hs.out (stop_at hl.out hy))).mono fun e w' (hh : _ ∧ _) => (And.intro hh.1 (bw_below h hh.2) : _ ∧ Below w3.heap.size w3 w')
                  have S1 := hide (HSP.out k hki)
                  have S2 := hide (HSP.out j hji)
                  have S3 := hide (HSP.out p hpi)
                  have S4 := hide (HSP.out q hqi)
                  have K1 := hide (HWY.out k j hki hji)
                  have K2 := hide (HWY.out p q hpi hqi)
                  have HN3 : Hid (Rt.bestTo L I i (k + 1) = if Rt.way (L.getD k (0, 0)) (L.getD j (0, 0)) < Rt.way (L.getD p (0, 0)) (L.getD q (0, 0)) then some (k, j) else some (p, q)) := hide HNX2.out
                  generalize Rt.way (L.getD k (0, 0)) (L.getD j (0, 0)) = Y1 at *
                  generalize Rt.way (L.getD p (0, 0)) (L.getD q (0, 0)) = Y2 at *
                  generalize (L.getD k (0, 0)).1 = a1 at *
                  generalize (L.getD k (0, 0)).2 = a2 at *
                  generalize (L.getD j (0, 0)).1 = b1 at *
                  generalize (L.getD j (0, 0)).2 = b2 at *
                  generalize (L.getD p (0, 0)).1 = c1 at *
                  generalize (L.getD p (0, 0)).2 = c2 at *
                  generalize (L.getD q (0, 0)).1 = d1 at *
                  generalize (L.getD q (0, 0)).2 = d2 at *
                  have EW : Hid (∀ args w, (callFunc 35 args).run Try.prog w = .ok (.enter 35 args) w) := hide (enters_of Try.func35 (by kernel_rfl) rfl)
                  have j0 : (0 : Int) ≤ (j : Int) := by omega
                  have j1 : (j : Int) < (i : Int) := by omega
                  have p0 : (0 : Int) ≤ (p : Int) := by omega
                  have p1 : (p : Int) < (i : Int) := by omega
                  have q0 : (0 : Int) ≤ (q : Int) := by omega
                  have q1 : (q : Int) < (i : Int) := by omega
                  have pn : ¬ (p : Int) < 0 := by omega
                  have ho1 : os1 (some (p, q)) = (p : Int) := rfl
                  have ho2 : os2 (some (p, q)) = (q : Int) := rfl
                  rw [ho1, ho2]
                  clear HNX2 HO HSP HWY
                  go_upto_region 17 with fail
                  have pd : decide ((p : Int) < 0) = false := decide_eq_false (by omega)
                  have pn2 : ((p : Int) < 0) = False := eq_false (by omega)
                  refine wp_region_quiet (C := fun V => Below w3.heap.size w3 V) (by kernel_rfl) (by kernel_rfl) ((Below.refl w3.heap.size w3).drew) ?_
                  rw [List.toList_toArray]
                  repeat (first
                    | go_big_quiet_skip
                    | (go_big_quiet_want; first
                      | (go_big_quiet_op; go_big_quiet_on)
                      | (go_big_quiet_op; refine ⟨_, fun _ _ => rfl, ?_⟩; go_big_quiet_on)
                      | (refine q_callC (args := #[.agg #[.int .i64 a1, .int .i64 a2], .agg #[.int .i64 b1, .int .i64 b2]]) rfl ?_ EW.out K1.out ?_; simp [go_sem]; simp [go_sem]; go_big_quiet_on)
                      | (refine q_callC (args := #[.agg #[.int .i64 c1, .int .i64 c2], .agg #[.int .i64 d1, .int .i64 d2]]) rfl ?_ EW.out K2.out ?_; simp [go_sem]; simp [go_sem]; go_big_quiet_on)
                      | (refine q_spot (b := b) (p := o + k * 2) rfl ?_ S1.out ?_; simp [go_sem]; simp [go_sem]; go_big_quiet_on)
                      | (refine q_spot (b := b) (p := o + j * 2) rfl ?_ S2.out ?_; simp [go_sem]; simp [go_sem]; go_big_quiet_on)
                      | (refine q_spot (b := b) (p := o + p * 2) rfl ?_ S3.out ?_; simp [go_sem]; simp [go_sem]; go_big_quiet_on)
                      | (refine q_spot (b := b) (p := o + q * 2) rfl ?_ S4.out ?_; simp [go_sem]; simp [go_sem]; go_big_quiet_on)))
                  refine wpQuiet_nil ?_
                  intro w4 hb4
                  have HB4 := hide (bw_below HB3.out hb4)
                  clear hb4 S1 S2 S3 S4 K1 K2
                  by_cases hyy : Y1 < Y2
                  · have HN4 : Hid (Rt.bestTo L I i (k + 1) = some (k, j)) := hide (by rw [HN3.out, if_pos hyy])
                    clear HN3
                    go_wp2_with fail
                    go_roundw
                    case rel => exact ⟨k + 1, some (k, j), rfl, rfl, by go_num, by omega, HN4, HB4⟩
                    case measure => simp only [intOf]; omega
                  · have HN4 : Hid (Rt.bestTo L I i (k + 1) = some (p, q)) := hide (by rw [HN3.out, if_neg hyy])
                    clear HN3
                    go_wp2_with fail
                    go_roundw
                    case rel => exact ⟨k + 1, some (p, q), rfl, rfl, by go_num, by omega, HN4, HB4⟩
                    case measure => simp only [intOf]; omega
              · have HC := hide hc
                have HQ := hide (hb_has (w := wr) (d := cin) (i := k) HIL (by omega) (hide (HRIN.out _ HBK.out)) HC)
                have HN3 : Hid (Rt.bestTo L I i (k + 1) = o) := hide (by rw [HNX.out, hc]; exact HO.out)
                clear hc HNX
                go_wp2_with fail
                refine HQ.out.mono ?_
                rintro e w2 ⟨rfl, hw2⟩
                obtain rfl : wr = w2 := hw2.symm
                go_wp2_with fail
                go_roundw
                case rel => exact ⟨k + 1, o, rfl, rfl, by go_num, by omega, HN3, HBK⟩
                case measure => simp only [intOf]; omega
            · have hke : k = i := by omega
              subst hke
              obtain ⟨st, bq, hb, hst, hsti, hbq, _⟩ := Rt.best_some L HJ.out (by omega)
              have ho : o = some (st, bq) := HO.out.symm.trans hb
              subst ho
              have HT2 := hide (Rt.tree_step hl.out HT.out hb)
              have ts0 := HTS.out.below HBK.out
              have cst0 : ∃ y, wr.cell? ⟨w.heap.size, st, none⟩ = some y := by
                have := ts0.1.cellAt st (by omega)
                rw [this, ints_get _ st (by omega)]
                exact ⟨_, rfl⟩
              obtain ⟨y, hy⟩ := cst0
              have fz := ts0.1.frozenAt st
              have ts1 := ts0.put st (bq : Int)
              obtain ⟨W1, hW1⟩ : ∃ W1, wr.setCell ⟨w.heap.size, st, none⟩ (.int .i64 (bq : Int)) = W1 := ⟨_, rfl⟩
              rw [hW1] at ts1
              have HW1 := hide hW1
              have HTS1 := hide ts1
              obtain ⟨b, o2, ea, c1, c2, c3, c4⟩ := two_stops (ha.out.below ts1.2.2.1) (i := st) (j := bq) (stop_at hl.out hst) (stop_at hl.out hbq)
              subst ea
              have hwb := Rt.wy_bd hs.out (stop_at hl.out hst) (stop_at hl.out hbq)
              have HWT := hide fun (V : World) => lw_any (w := V) (Rt.allS_at hs.out (stop_at hl.out hst)) (Rt.allS_at hs.out (stop_at hl.out hbq))
              have sb := HSB.out
              unfold Rt.wy at HT2 hwb
              generalize Rt.way (L.getD st (0, 0)) (L.getD bq (0, 0)) = Y at *
              generalize (L.getD st (0, 0)).1 = u1 at *
              generalize (L.getD st (0, 0)).2 = u2 at *
              generalize (L.getD bq (0, 0)).1 = v1 at *
              generalize (L.getD bq (0, 0)).2 = v2 at *
              have s0 : (0 : Int) ≤ (st : Int) := by omega
              have s1 : (st : Int) < (k : Int) := by omega
              have q0 : (0 : Int) ≤ (bq : Int) := by omega
              have q1 : (bq : Int) < (k : Int) := by omega
              have hs0 : 0 ≤ s := sb.1
              have hs1 : s ≤ 700 := by have := sb.2; omega
              have hy0 : 0 ≤ Y := hwb.1
              have hy1 : Y ≤ 100 := hwb.2
              have hwr : IntKind.i64.wrap (s + Y) = s + Y := by rw [IntKind.wrap_i64]; omega
              have ho1 : os1 (some (st, bq)) = (st : Int) := rfl
              have ho2 : os2 (some (st, bq)) = (bq : Int) := rfl
              rw [ho1, ho2]
              clear ts0 ts1 hW1 hb HO HTS HT HJ HFR HRIN HBK sb hwb HSB
              go_upto_region 22 with fail
              rw [HW1.out]
              clear HW1 hy fz
              go_region_held3 (fun w' => w'.cell? ⟨b, o2 + st * 2, none⟩ = some (.int .i64 u1) ∧ w'.cell? ⟨b, o2 + st * 2 + 1, none⟩ = some (.int .i64 u2) ∧ w'.cell? ⟨b, o2 + bq * 2, none⟩ = some (.int .i64 v1) ∧ w'.cell? ⟨b, o2 + bq * 2 + 1, none⟩ = some (.int .i64 v2) ∧ Below W1.heap.size W1 w') (first | exact rh_drew ⟨c1, c2, c3, c4, Below.refl _ _⟩ | assumption | exact rh_below ‹_› (by assumption))
                (first
                | (go_at_call 35; refine (HWT.out _).mono ?_; rintro e w1' ⟨rfl, hb1⟩))
              obtain ⟨_, _, _, _, hBz⟩ := ‹_ ∧ _ ∧ _ ∧ _ ∧ Below W1.heap.size W1 _›
              obtain ⟨v', w5, hr5, ts5⟩ := (HTS1.out.below hBz).push (k := st) (by omega)
              rw [hI] at hr5
              obtain ⟨a5, c5, e5, _⟩ := ts5.in_row
              have HTS5 := hide ts5
              rw [e5, show (I ++ [st]).length = m + 1 + 1 by simp [hI]] at hr5
              rw [e5, show (I ++ [st]).length = m + 1 + 1 by simp [hI]] at HTS5
              clear ts5 HTS1 hBz c1 c2 c3 c4
              go_wp2_with (first | (at_builtin; refine Lib.wpList_append_run _ rfl _ _ _ _ rfl _ _ rfl rfl _ _ (hr5 _) ?_))
              go_roundw
              case rel => exact ⟨m + 1, I ++ [st], up.set st (bq : Int), s + Y, rfl, by simp [hI], by omega, HT2, HTS5⟩
              case measure => simp only [lnOf]; omega
        · have hme : m + 1 = i := by omega
          have hme' : m = i - 1 := by omega
          have i0 : ¬ (((m + 1 : Nat) : Int)) < (i : Int) := by omega
          have i0' : ¬ ((m : Int) + 1) < (i : Int) := by omega
          have HT2 : Hid (Rt.tree L (i - 1) = (I, up, s)) := hide (by rw [← hme']; exact HT.out)
          have HO2 := hide HTS.out.1
          have HB2 := hide HTS.out.2.2.1
          clear hme hme' HT HTS rin
          go_wp2_with fail
          go_ret2
          exact ⟨I, up, s, HT2.out, rfl, HO2.out, HB2.out⟩
/-- What TreeOf answers, in memory. -/
def TA (w' : World) (lo : Nat) (L : List (Int × Int)) (e : Ending) : Prop := ∃ v, e = .returned (.tuple #[v, .int .i64 (Rt.toI L), .bool (Rt.stopsB L)]) ∧ AV w' lo w'.heap.size v (Rt.toL L).length (Rt.toL L)
theorem toL_len {L : List (Int × Int)} {n : Nat} (hl : L.length = n) (h : Rt.stopsB L = true) : (Rt.toL L).length = n ∧ Rt.toL L = (Rt.tree L (n - 1)).2.1 ∧ Rt.toI L = (Rt.tree L (n - 1)).2.2 := by
  have h1 := (Rt.stops_len h).1
  have := (Rt.tree_jn hl (by omega) (n - 1) (by omega)).2.2
  unfold Rt.toL Rt.toI
  rw [h, hl, if_pos rfl, if_pos rfl]
  exact ⟨this, rfl, rfl⟩
theorem toL_no {L : List (Int × Int)} (h : Rt.stopsB L = false) : Rt.toL L = [] ∧ Rt.toI L = 0 := by
  unfold Rt.toL Rt.toI; rw [h]; exact ⟨rfl, rfl⟩
theorem av_none (w : World) (lo : Nat) : AV w lo w.heap.size (.slice none 0 0) 0 [] := ⟨World.ownsRow_nil _ _ _ _, fun g hg => by simp [Value.ownBlock] at hg, Nat.le_refl _⟩
set_option maxHeartbeats 1000000 in
theorem sto_w {a : Option Addr} {n c : Nat} {L : List (Int × Int)} {w : World} (hl : L.length = n) (hn : n ≤ 1048576) (ha : FRow w a L) :
    Calls Try.prog 26 #[.slice a n c] w fun e w' => TA w' w.heap.size L e ∧ Below w.heap.size w w' := by
  have HA := hide ha
  have HL := hide hl
  cases hg : Rt.stopsB L
  · obtain ⟨e1, e2⟩ := toL_no hg
    have HG := hide hg
    have HE : Hid (∀ w' e, e = .returned (.tuple #[.slice none 0 0, .int .i64 0, .bool false]) → TA w' w.heap.size L e) := hide fun w' e he => ⟨.slice none 0 0, by rw [he, e2, hg], by rw [e1]; exact av_none _ _⟩
    clear ha hl hg e1 e2
    go_enter Try.func26, Try.ntmps26
    go_wp2_with fail
    refine (sgst_eq HL hn HA HG).mono ?_
    rintro e w1 ⟨rfl, hb1⟩
    go_wp2_with fail
    refine bodyPost_ret (v := .tuple #[.slice none 0 0, .int .i64 0, .bool false]) (by simp [results, Try.results26, go_sem]) rfl ⟨HE.out _ _ rfl, hb1⟩
  · obtain ⟨s1, s2⟩ := Rt.stops_len hg
    obtain ⟨e1, e2, e3⟩ := toL_len hl hg
    have HG := hide hg
    have HST := hide fun (W : World) (h : Below w.heap.size w W) => str_any (w := W) (c := c) HL (by omega) (by omega) (hide (Rt.stops_all hg)) (hide (ha.below h))
    have HE : Hid (∀ w' (lo X n' : Nat) (I : List Nat) (up : List Int) (s : Int) e, w.heap.size ≤ lo → Rt.tree L (n - 1) = (I, up, s) → w'.ownsRow lo 3 1 (.slice (some ⟨X, 0, none⟩) n n) n (ints up) → e = .returned (.tuple #[.slice (some ⟨X, 0, none⟩) n n, .int .i64 s, .bool true]) → TA w' w.heap.size L e) := hide fun w' lo X n' I up s e hlo ht ho he => by
      rw [ht] at e2 e3
      refine ⟨_, by rw [he, e3, hg], ?_⟩
      rw [e1, e2]
      exact AV.new (owns_low ho hlo)
    clear ha hl hg e1 e2 e3
    go_enter Try.func26, Try.ntmps26
    go_wp2_with fail
    refine (sgst_eq HL hn HA HG).mono ?_
    rintro e w1 ⟨rfl, hb1⟩
    have B1 := hide hb1
    clear hb1
    go_wp2_with fail
    refine (HST.out _ B1.out).mono ?_
    rintro e w2 ⟨I, up, s, ht, rfl, ho, hb2⟩
    have HO := hide ho
    have HT := hide ht
    have B2 := hide (bw_below B1.out hb2)
    clear ho ht hb2
    go_wp2_with fail
    refine bodyPost_ret (v := .tuple #[.slice (some ⟨w1.heap.size, 0, none⟩) n n, .int .i64 s, .bool true]) (by simp [results, Try.results26, go_sem]) rfl ⟨HE.out _ _ _ 0 _ _ _ _ B1.out.size HT.out HO.out rfl, B2.out⟩
end Go.Proofs.Ytkiadodoehcbmaa
