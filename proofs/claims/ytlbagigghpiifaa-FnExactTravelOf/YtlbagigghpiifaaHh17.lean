/-
  What SlotsFor of the program answers; the model's order of goods.
-/
import Derived.Test.YtlbagigghpiifaaHg17
import Derived.Deep.CutBlock
import Derived.Deep.DeepCutAuto
namespace Go.Proofs.Ytlbagigghpiifaa
open Go.RowKit Go.Sort

namespace Hs
theorem day_yes {ps cs ws : List Int} (h : dayB ps cs ws = true) : Sh.flowB ps = true ∧ ps.length = cs.length ∧ slotsB cs ws = true := by
  simp only [dayB, Bool.and_eq_true, decide_eq_true_eq] at h
  exact ⟨h.1.1, h.1.2, h.2⟩
end Hs
set_option maxHeartbeats 2000000 in
theorem sf_no {p b a : Option Addr} {n m r c d f : Nat} {ps cs ws : List Int} {w : World} (HR : Hid (ps.length = r)) (HM : Hid (cs.length = m)) (HN : Hid (ws.length = n)) (HP : Hid (ARow w p ps)) (HB : Hid (ARow w b cs)) (HA : Hid (ARow w a ws)) (HD : Hid (Hs.dayB ps cs ws = false)) :
    Calls Try.prog 10 #[.slice p r f, .slice b m d, .slice a n c] w fun e w' => e = .returned (.tuple #[.slice none 0 0, .bool false]) ∧ Below w.heap.size w w' := by
  have hb0 := below_new w (.cells #[.slice a n c, .slice b m d, .slice none 0 0, .slice p r f] 50)
  have HX := hide (DyBox.new w (.slice a n c) (.slice b m d) (.slice none 0 0) (.slice p r f) 50)
  have HA1 := hide (HA.out.below hb0)
  have HB1 := hide (HB.out.below hb0)
  have HP1 := hide (HP.out.below hb0)
  have HB0 := hide hb0
  have HE : Hid (Hs.dayB ps cs ws = ((Sh.flowB ps && decide (ps.length = cs.length)) && Hs.slotsB cs ws)) := hide rfl
  clear hb0
  cases h1 : (Sh.flowB ps && decide (ps.length = cs.length))
  · have H1 := hide h1
    clear h1
    go_enter Try.func10, Try.ntmps10
    go_wp2_with fail
    refine (ip17_eq HM HR HP1 H1).mono ?_
    rintro _ w1 ⟨rfl, hb1⟩
    have HBf := hide (HB0.out.trans (hb1.mono HB0.out.size))
    clear hb1
    go_wp2_with fail
    go_ret2
    exact ⟨rfl, HBf.out⟩
  · have H1 := hide h1
    have H2 : Hid (Hs.slotsB cs ws = false) := hide (by have := HD.out; rw [HE.out, h1, Bool.true_and] at this; exact this)
    clear h1
    go_enter Try.func10, Try.ntmps10
    go_wp2_with fail
    refine (ip17_eq HM HR HP1 H1).mono ?_
    rintro _ w1 ⟨rfl, hb1⟩
    obtain ⟨x0, x1, x2, x3, _⟩ := HX.out.below hb1
    have HA2 := hide (HA1.out.below hb1)
    have HB2 := hide (HB1.out.below hb1)
    have HBf := hide (HB0.out.trans (hb1.mono HB0.out.size))
    clear hb1
    go_wp2_with fail
    refine (hs_eq HN HM HA2 HB2 H2).mono ?_
    rintro _ w2 ⟨rfl, hb2⟩
    have HBg := hide (HBf.out.trans (hb2.mono HBf.out.size))
    clear hb2
    go_wp2_with fail
    go_ret2
    exact ⟨rfl, HBg.out⟩
set_option maxHeartbeats 2000000 in
theorem sf_yes {p b a : Option Addr} {n m r c d f : Nat} {ps cs ws : List Int} {w : World} (HR : Hid (ps.length = r)) (HM : Hid (cs.length = m)) (HN : Hid (ws.length = n)) (HP : Hid (ARow w p ps)) (HB : Hid (ARow w b cs)) (HA : Hid (ARow w a ws)) (HD : Hid (Hs.dayB ps cs ws = true)) :
    Calls Try.prog 10 #[.slice p r f, .slice b m d, .slice a n c] w fun e w' => ∃ g, e = .returned (.tuple #[.slice (some ⟨g, 0, none⟩) n n, .bool true]) ∧ Below w.heap.size w w' ∧ w.heap.size ≤ g ∧ Ow w' g n (Hs.ownL ps cs ws) := by
  obtain ⟨f1, f2, f3⟩ := Hs.day_yes HD.out
  obtain rfl : m = r := by have := HR.out; have := HM.out; omega
  have hb0 := below_new w (.cells #[.slice a n c, .slice b m d, .slice none 0 0, .slice p m f] 50)
  have HX := hide (DyBox.new w (.slice a n c) (.slice b m d) (.slice none 0 0) (.slice p m f) 50)
  have HA1 := hide (HA.out.below hb0)
  have HB1 := hide (HB.out.below hb0)
  have HP1 := hide (HP.out.below hb0)
  have HB0 := hide hb0
  have H1 : Hid ((Sh.flowB ps && decide (ps.length = cs.length)) = true) := hide (by rw [f1, Bool.true_and, decide_eq_true_eq]; exact f2)
  have HF := hide f1
  have H2 := hide f3
  clear hb0 f1 f2 f3
  go_enter Try.func10, Try.ntmps10
  go_wp2_with fail
  refine (ip17_eq HM HR HP1 H1).mono ?_
  rintro _ w1 ⟨rfl, hb1⟩
  have HX1 := hide (HX.out.below hb1)
  obtain ⟨x0, x1, x2, x3, _⟩ := HX1.out
  have HA2 := hide (HA1.out.below hb1)
  have HB2 := hide (HB1.out.below hb1)
  have HP2 := hide (HP1.out.below hb1)
  have HBf := hide (HB0.out.trans (hb1.mono HB0.out.size))
  clear hb1 HX
  go_wp2_with fail
  refine (hs_eq HN HM HA2 HB2 H2).mono ?_
  rintro _ w2 ⟨rfl, hb2⟩
  clear x0 x1 x2 x3
  obtain ⟨x0, x1, x2, x3, _⟩ := HX1.out.below hb2
  have HA3 := hide (HA2.out.below hb2)
  have HB3 := hide (HB2.out.below hb2)
  have HP3 := hide (HP2.out.below hb2)
  have HBg := hide (HBf.out.trans (hb2.mono HBf.out.size))
  clear hb2 HX1
  go_wp2_with fail
  refine (bo_any HN HM HR HF H2 HA3 HB3 HP3).mono ?_
  rintro _ w3 ⟨g, rfl, hb3, hg, O⟩
  have hz := HBg.out.size
  have HBh := hide (HBg.out.trans (hb3.mono HBg.out.size))
  have HO := hide O
  clear hb3 O
  go_wp2_with fail
  go_ret2
  exact ⟨_, rfl, HBh.out, by omega, HO.out⟩
set_option maxHeartbeats 16000000 in
theorem sgoods_any {a b : Option Addr} {n c d : Nat} {ps cs : List Int} {w : World} (HV : Hid (ps.length = n)) (HM : Hid (cs.length = n)) (hn : n ≤ 12) (HP : Hid (∀ i, i < n → 1 ≤ ps.getD i 0 ∧ ps.getD i 0 ≤ 30)) (HC : Hid (∀ i, i < n → 1 ≤ cs.getD i 0 ∧ cs.getD i 0 ≤ 10)) (HA : Hid (ARow w a ps)) (HB : Hid (ARow w b cs)) :
    Calls Try.prog 48 #[.slice a n c, .slice b n d] w fun e w' => ∃ v, e = .returned v ∧ Below w.heap.size w w' ∧ w'.ownsRow w.heap.size 3 1 v n (ints (nats (Rk.rank (Hs.wt ps cs)))) := by
  obtain ⟨i0, hi, hz0, hz1, hz2⟩ := info_parts inf3
  have HWL : Hid ((Hs.wt ps cs).length = n) := hide (by rw [Hs.wt_len]; exact HV.out)
  go_enter Try.func48, Try.ntmps48
  go_wp2_with fail
  go_loopw [5, 6, 7, 8, 11] (fun v _ _ _ s wr => ∃ (k cv : Nat) (av : Option Addr), v = .slice av k cv ∧ s = .int .i64 k ∧ k ≤ n ∧ (k = 0 → av = none ∧ cv = 0) ∧ wr.ownsRow w.heap.size 3 1 v k (ints (nats (Rk.upto (Hs.wt ps cs) k))) ∧ Below w.heap.size w wr) (fun _ _ _ _ s _ => n - (intOf s).toNat)
  case atStart => exact ⟨0, 0, none, rfl, rfl, Nat.zero_le _, fun _ => ⟨rfl, rfl⟩, World.ownsRow_nil w w.heap.size 3 1, Below.refl _ _⟩
  case round =>
    obtain ⟨k, cv, av, rfl, rfl, hk, hnil, hown, hB⟩ := hrel
    by_cases hlt : k < n
    · have HAr := hide (HA.out.keep hB.size hB.block)
      have HBr := hide (HB.out.keep hB.size hB.block)
      obtain ⟨ba, oa, rfl, r1⟩ := HAr.out.at (i := k) (by rw [HV.out]; exact hlt)
      obtain ⟨bb, ob, rfl, r3⟩ := HBr.out.at (i := k) (by rw [HM.out]; exact hlt)
      have k0 : (0 : Int) ≤ (k : Int) := by omega
      have k1 : (k : Int) < (n : Int) := by omega
      have hs := hB.size
      have hul := Rk.upto_len (Hs.wt ps cs) k
      have HB0 := hide hB
      have HO := hide hown
      have hnl := hide hnil
      clear hown hnil hB
      go_upto_block 2 with fail
      go_cut [7] from 12 to 61 (fun s7 wc => ∃ j : Nat, s7 = .int .i64 j ∧ j ≤ k ∧ Hid (nats (Rk.upto (Hs.wt ps cs) (k + 1)) = (nats (Rk.upto (Hs.wt ps cs) k)).take j ++ [(k : Int)] ++ (nats (Rk.upto (Hs.wt ps cs) k)).drop j) ∧ ∃ q, wc = wr.drewN q)
      case first =>
        obtain ⟨W0, rfl⟩ : ∃ W, W = wr := ⟨_, rfl⟩
        go_wp2_with fail
        go_loopw [7] (fun s wq => ∃ j q : Nat, s = .int .i64 j ∧ j ≤ k ∧ Hid (∀ t, t < j → Rk.val (Hs.wt ps cs) ((Rk.upto (Hs.wt ps cs) k).getD t 0) ≥ Rk.val (Hs.wt ps cs) k) ∧ wq = W0.drewN q) (fun s _ => k - (intOf s).toNat)
        case atStart => exact ⟨0, 0, rfl, Nat.zero_le _, hide fun t ht => absurd ht (Nat.not_lt_zero _), rfl⟩
        case round =>
          obtain ⟨j, q, rfl, hj, HJ, rfl⟩ := hrel
          have rest : (j < k → Rk.val (Hs.wt ps cs) ((Rk.upto (Hs.wt ps cs) k).getD j 0) < Rk.val (Hs.wt ps cs) k) → Hid (nats (Rk.upto (Hs.wt ps cs) (k + 1)) = (nats (Rk.upto (Hs.wt ps cs) k)).take j ++ [(k : Int)] ++ (nats (Rk.upto (Hs.wt ps cs) k)).drop j) := fun h => by
            show nats (Rk.insL (Hs.wt ps cs) k (Rk.upto (Hs.wt ps cs) k)) = _
            rw [Rk.insL_at (Hs.wt ps cs) k (Rk.upto (Hs.wt ps cs) k) j (by rw [hul]; exact hj) HJ.out (fun h' => h (by rw [← hul]; exact h')), nats_ins]
          have REST := hide rest
          clear rest
          by_cases hjk : j < k
          · obtain ⟨g, cap, e, hg0, hgl⟩ := HO.out.form (by omega)
            obtain ⟨rfl, rfl⟩ : av = some ⟨g, 0, none⟩ ∧ cv = cap := by cases e; exact ⟨rfl, rfl⟩
            have j0 : (0 : Int) ≤ (j : Int) := by omega
            have j1 : (j : Int) < (k : Int) := by omega
            have c1 : W0.cell? ⟨g, j, none⟩ = some (.int .i64 ((nats (Rk.upto (Hs.wt ps cs) k)).getD j 0)) := by rw [HO.out.cellAt j (by omega), ints_get _ j (by rw [nats_len, hul]; omega)]
            rw [nats_get] at c1
            have hm : (Rk.upto (Hs.wt ps cs) k).getD j 0 < n := by
              have hmem : (Rk.upto (Hs.wt ps cs) k).getD j 0 ∈ Rk.upto (Hs.wt ps cs) k := by rw [Pf.getD_lt _ _ (by rw [hul]; exact hjk)]; exact List.getElem_mem _
              have := Rk.upto_mem hmem; omega
            generalize hq : (Rk.upto (Hs.wt ps cs) k).getD j 0 = y at c1 hm
            obtain ⟨_, _, e5, r2⟩ := HAr.out.at (i := y) (by rw [HV.out]; exact hm)
            cases e5
            obtain ⟨_, _, e6, r4⟩ := HBr.out.at (i := y) (by rw [HM.out]; exact hm)
            cases e6
            have y0 : (0 : Int) ≤ (y : Int) := by omega
            have y1 : (y : Int) < (n : Int) := by omega
            obtain ⟨pk0, pk1⟩ := HP.out k hlt
            obtain ⟨py0, py1⟩ := HP.out y hm
            obtain ⟨ck0, ck1⟩ := HC.out k hlt
            obtain ⟨cy0, cy1⟩ := HC.out y hm
            have HLT := hide (Hs.wt_lt (p := ps.getD y 0) (q := ps.getD k 0) cy0 cy1 ck0 ck1)
            rw [← Hs.wt_at ps cs (i := y) (by rw [HV.out]; exact hm), ← Hs.wt_at ps cs (i := k) (by rw [HV.out]; exact hlt)] at HLT
            have m1 := wrap_mul (ps.getD y 0) (cs.getD k 0) (by omega) (by omega) (by omega) (by omega)
            have m2 := wrap_mul (ps.getD k 0) (cs.getD y 0) (by omega) (by omega) (by omega) (by omega)
            generalize ps.getD k 0 = pk at *
            generalize ps.getD y 0 = py at *
            generalize cs.getD k 0 = ck at *
            generalize cs.getD y 0 = cy at *
            by_cases hge : pk * cy ≤ py * ck
            · have HJ' : Hid (∀ t, t < j + 1 → Rk.val (Hs.wt ps cs) ((Rk.upto (Hs.wt ps cs) k).getD t 0) ≥ Rk.val (Hs.wt ps cs) k) := hide fun t ht => by
                by_cases e : t = j
                · subst e; rw [hq]
                  rcases Int.lt_or_le (Rk.val (Hs.wt ps cs) y) (Rk.val (Hs.wt ps cs) k) with h | h
                  · have := HLT.out.1 h; omega
                  · exact h
                · exact HJ.out t (by omega)
              clear hq e
              go_wp2_with fail
              go_quiet (fail)
              go_wp2_with fail
              go_roundw
              case rel => exact ⟨j + 1, q + nq, by go_num, by omega, HJ', by first | rfl | rw [World.drewN_drewN]⟩
              case measure => simp only [intOf]; omega
            · have HR := REST.out (fun _ => by rw [hq]; exact HLT.out.2 (by omega))
              have hge' : decide (pk * cy ≤ py * ck) = false := decide_eq_false hge
              clear hq e
              go_wp2_with fail
              go_quiet (fail)
              go_wp2_with fail
              go_meet
              case rel => exact ⟨j, rfl, hj, HR, q + nq, by first | rfl | rw [World.drewN_drewN]⟩
          · have HR := REST.out (fun h => by omega)
            have hje : j = k := by omega
            subst hje
            have hjz' : decide ((j : Int) < (j : Int)) = false := by simp
            clear r1 r3
            go_wp2_with fail
            go_quiet (fail)
            go_wp2_with fail
            go_meet
            case rel => exact ⟨j, rfl, hj, HR, q + nq, by first | rfl | rw [World.drewN_drewN]⟩
      case rest =>
        obtain ⟨j, rfl, hj, HR, q, rfl⟩ := hcut
        have HO2 : Hid ((wr.drewN q).ownsRow w.heap.size 3 1 (.slice av k cv) k (ints (nats (Rk.upto (Hs.wt ps cs) k)))) := HO
        have hB : Below w.heap.size w (wr.drewN q) := below_drewN HB0.out q
        clear HO HB0 HAr HBr r1 r3 hs
        have hs := hB.size
        have HO := HO2
        clear HO2
        generalize wr.drewN q = W2 at *
        by_cases hk0 : k = 0
        · subst hk0
          obtain ⟨rfl, rfl⟩ := hnl.out rfl
          obtain rfl : j = 0 := by omega
          have E0 := empty_row W2
          go_wp2_with (first
            | (at_builtin; refine wpList_append_own _ rfl _ _ 22 rfl W2.heap.size 3 i0 (.int .i64 0) 1 8 Try.underlying22 hi hz0 hz1 hz2 rfl (by decide) _ _ _ rfl (E0.alloc _) ⟨W2.heap.size + 1, 0, none⟩ 1 1 (ints [0]) rfl rfl (new_one _ _ (by simp)) (int_cells _) (by unfold maxLen; omega) (by omega) (by simp; omega) ?_))
          intro v2 w2 own2 hg2 _
          have own2' : w2.ownsRow W2.heap.size 3 1 v2 1 (ints [0]) := own2
          go_wp2_with (first
            | (at_builtin; refine wpList_append_own_none rfl _ _ 22 rfl W2.heap.size 3 i0 1 Try.underlying22 hi _ _ _ rfl own2' rfl ?_))
          go_wp2_with fail
          go_roundw
          case rel => (obtain ⟨a3, c3, e3, _⟩ := own_any7 (xs := [0]) rfl own2'; exact ⟨1, c3, a3, e3, by go_num, by omega, fun h => by omega, owns_base own2' hs, (hB.alloc hs _).trans (((Below.refl _ _).alloc (by simp; omega) _).trans (grownBy_below hg2 hs (by simp; omega)))⟩)
          case measure => simp only [intOf]; omega
        · obtain ⟨g, cap, e, hg0, hgl⟩ := HO.out.form (by omega)
          obtain ⟨rfl, rfl⟩ : av = some ⟨g, 0, none⟩ ∧ cv = cap := by cases e; exact ⟨rfl, rfl⟩
          clear e
          have E0 := hide (empty_row W2)
          have hcap : k ≤ cv := by
            rcases HO.out.2 with ⟨h0, _⟩ | ⟨g', cap', cur, hv', _, _, h1, _⟩
            · cases h0
            · cases hv'; exact h1
          by_cases hcj : cv = j
          · obtain rfl := hcj.symm
            have HL : Hid ((ints ((nats (Rk.upto (Hs.wt ps cs) k)).take j)).length = j * 1) := by
              show _ = _
              rw [ints_len, List.length_take, nats_len, hul]; omega
            have HN1 : Hid (∀ (t : Nat) (u : Value), (ints ((nats (Rk.upto (Hs.wt ps cs) k)).take j))[t]? = some u → (W2.alloc (.cells #[] 3)).cell? ((⟨g, 0, none⟩ : Addr).add t) = some u) :=
              news_at (cells_kept (((Below.refl _ _).alloc (Nat.le_refl _) _).block g hgl) (own_take HO.out (by rw [nats_len, hul]) hj))
            go_wp2_with (first
              | (at_builtin; refine wpList_append_own _ rfl _ _ 22 rfl W2.heap.size 3 i0 (.int .i64 0) 1 8 Try.underlying22 hi hz0 hz1 hz2 rfl (by decide) _ _ _ rfl E0.out ⟨g, 0, none⟩ j j (ints ((nats (Rk.upto (Hs.wt ps cs) k)).take j)) rfl HL.out HN1.out (int_cells _) (by unfold maxLen; omega) (by omega) (by simp) ?_))
            intro v1 w1 own1 hg1 _
            have own1' : w1.ownsRow W2.heap.size 3 1 v1 j (ints ((nats (Rk.upto (Hs.wt ps cs) k)).take j)) := by simpa [ints] using own1
            have hs1 : W2.heap.size ≤ w1.heap.size := Nat.le_trans (by simp) hg1.size
            clear own1
            go_wp2_with (first
              | (at_builtin; refine wpList_append_own _ rfl _ _ 22 rfl W2.heap.size 3 i0 (.int .i64 0) 1 8 Try.underlying22 hi hz0 hz1 hz2 rfl (by decide) _ _ _ rfl (own1'.alloc _) ⟨w1.heap.size, 0, none⟩ 1 1 (ints [(k : Int)]) rfl rfl (new_one _ _ rfl) (int_cells _) (by unfold maxLen; omega) (by omega) (by simp; omega) ?_))
            intro v2 w2 own2 hg2 _
            have own2' : w2.ownsRow W2.heap.size 3 1 v2 (j + 1) (ints ((nats (Rk.upto (Hs.wt ps cs) k)).take j ++ [(k : Int)])) := by rw [ints_app]; exact own2
            have hs2 : W2.heap.size ≤ w2.heap.size := Nat.le_trans hs1 (Nat.le_trans (by simp) hg2.size)
            have HN2 : Hid (∀ (t : Nat) (u : Value), (ints ((nats (Rk.upto (Hs.wt ps cs) k)).drop j))[t]? = some u → w2.cell? ((⟨g, 0, none⟩ : Addr).add t) = some u) := by
              rw [List.drop_eq_nil_of_le (by rw [nats_len, hul]; omega)]; exact fun t u h => by simp [ints] at h
            have HL2 : Hid ((ints ((nats (Rk.upto (Hs.wt ps cs) k)).drop j)).length = 0 * 1) := by
              show _ = _
              rw [ints_len, List.length_drop, nats_len, hul]; omega
            have HB2 : Hid (Below w.heap.size w w2) := hide ((hB.alloc hs _).trans ((grownBy_below hg1 hs (by simp; omega)).trans (((Below.refl _ _).alloc (by omega) _).trans (by
              refine ⟨hg2.os, hg2.tape, hg2.output, hg2.size, fun b hb => hg2.block b (by simp; omega) (far_block own1' (by omega))⟩))))
            clear own2 hg1 hg2 own1'
            go_wp2_with (first
              | (at_builtin; refine wpList_append_own _ rfl _ _ 22 rfl W2.heap.size 3 i0 (.int .i64 0) 1 8 Try.underlying22 hi hz0 hz1 hz2 rfl (by decide) _ _ _ rfl own2' ⟨g, 0, none⟩ 0 0 (ints ((nats (Rk.upto (Hs.wt ps cs) k)).drop j)) rfl HL2.out HN2.out (int_cells _) (by unfold maxLen; omega) (by omega) hs2 ?_))
            intro v3 w3 own3 hg3 _
            have own3' : w3.ownsRow W2.heap.size 3 1 v3 (k + 1) (ints (nats (Rk.upto (Hs.wt ps cs) (k + 1)))) := by
              rw [HR.out, ints_app]
              have e : j + 1 + 0 = k + 1 := by omega
              rw [e] at own3
              exact own3
            clear own3
            go_wp2_with fail
            go_roundw
            case rel => (obtain ⟨a3, c3, e3, _⟩ := own_any7 (by rw [nats_len, Rk.upto_len]) own3'; exact ⟨k + 1, c3, a3, e3, by go_num, by omega, fun h => by omega, owns_base own3' hs, HB2.out.trans ⟨hg3.os, hg3.tape, hg3.output, hg3.size, fun b hb => hg3.block b (by omega) (far_block own2' (by omega))⟩⟩)
            case measure => simp only [intOf]; omega
          · have hcl : j < cv := by omega
            have HL : Hid ((ints ((nats (Rk.upto (Hs.wt ps cs) k)).take j)).length = j * 1) := by
              show _ = _
              rw [ints_len, List.length_take, nats_len, hul]; omega
            have HN1 : Hid (∀ (t : Nat) (u : Value), (ints ((nats (Rk.upto (Hs.wt ps cs) k)).take j))[t]? = some u → (W2.alloc (.cells #[] 3)).cell? ((⟨g, 0, none⟩ : Addr).add t) = some u) :=
              news_at (cells_kept (((Below.refl _ _).alloc (Nat.le_refl _) _).block g hgl) (own_take HO.out (by rw [nats_len, hul]) hj))
            go_wp2_with (first
              | (at_builtin; refine wpList_append_own _ rfl _ _ 22 rfl W2.heap.size 3 i0 (.int .i64 0) 1 8 Try.underlying22 hi hz0 hz1 hz2 rfl (by decide) _ _ _ rfl E0.out ⟨g, 0, none⟩ j cv (ints ((nats (Rk.upto (Hs.wt ps cs) k)).take j)) rfl HL.out HN1.out (int_cells _) (by unfold maxLen; omega) (by omega) (by simp) ?_))
            intro v1 w1 own1 hg1 _
            have own1' : w1.ownsRow W2.heap.size 3 1 v1 j (ints ((nats (Rk.upto (Hs.wt ps cs) k)).take j)) := by simpa [ints] using own1
            have hs1 : W2.heap.size ≤ w1.heap.size := Nat.le_trans (by simp) hg1.size
            have hgk1 := hg1.block g (by simp; omega) (far_block E0.out hgl)
            clear own1
            go_wp2_with (first
              | (at_builtin; refine wpList_append_own _ rfl _ _ 22 rfl W2.heap.size 3 i0 (.int .i64 0) 1 8 Try.underlying22 hi hz0 hz1 hz2 rfl (by decide) _ _ _ rfl (own1'.alloc _) ⟨w1.heap.size, 0, none⟩ 1 1 (ints [(k : Int)]) rfl rfl (new_one _ _ rfl) (int_cells _) (by unfold maxLen; omega) (by omega) (by simp; omega) ?_))
            intro v2 w2 own2 hg2 _
            have own2' : w2.ownsRow W2.heap.size 3 1 v2 (j + 1) (ints ((nats (Rk.upto (Hs.wt ps cs) k)).take j ++ [(k : Int)])) := by rw [ints_app]; exact own2
            have hs2 : W2.heap.size ≤ w2.heap.size := Nat.le_trans hs1 (Nat.le_trans (by simp) hg2.size)
            have hgk2 := (hg2.block g (by simp; omega) (far_block own1' hgl)).trans (((Below.refl _ _).alloc (Nat.le_refl _) _).block g (by omega))
            have HN2 : Hid (∀ (t : Nat) (u : Value), (ints ((nats (Rk.upto (Hs.wt ps cs) k)).drop j))[t]? = some u → w2.cell? ((⟨g, j, none⟩ : Addr).add t) = some u) :=
              news_at (cells_kept (hgk2.trans (hgk1.trans (((Below.refl _ _).alloc (Nat.le_refl _) _).block g hgl))) (own_drop HO.out (by rw [nats_len, hul]) j))
            have HL2 : Hid ((ints ((nats (Rk.upto (Hs.wt ps cs) k)).drop j)).length = (k - j) * 1) := by
              show _ = _
              rw [ints_len, List.length_drop, nats_len, hul]; omega
            have HB2 : Hid (Below w.heap.size w w2) := hide ((hB.alloc hs _).trans ((grownBy_below hg1 hs (by simp; omega)).trans (((Below.refl _ _).alloc (by omega) _).trans (by
              refine ⟨hg2.os, hg2.tape, hg2.output, hg2.size, fun b hb => hg2.block b (by simp; omega) (far_block own1' (by omega))⟩))))
            clear own2 hgk2 hgk1 hg1 hg2 own1'
            go_wp2_with (first
              | (at_builtin; refine wpList_append_own _ rfl _ _ 22 rfl W2.heap.size 3 i0 (.int .i64 0) 1 8 Try.underlying22 hi hz0 hz1 hz2 rfl (by decide) _ _ _ rfl own2' ⟨g, j, none⟩ (k - j) (cv - j) (ints ((nats (Rk.upto (Hs.wt ps cs) k)).drop j)) rfl HL2.out HN2.out (int_cells _) (by unfold maxLen; omega) (by omega) hs2 ?_))
            intro v3 w3 own3 hg3 _
            have own3' : w3.ownsRow W2.heap.size 3 1 v3 (k + 1) (ints (nats (Rk.upto (Hs.wt ps cs) (k + 1)))) := by
              rw [HR.out, ints_app]
              have e : j + 1 + (k - j) = k + 1 := by omega
              rw [e] at own3
              exact own3
            clear own3
            go_wp2_with fail
            go_roundw
            case rel => (obtain ⟨a3, c3, e3, _⟩ := own_any7 (by rw [nats_len, Rk.upto_len]) own3'; exact ⟨k + 1, c3, a3, e3, by go_num, by omega, fun h => by omega, owns_base own3' hs, HB2.out.trans ⟨hg3.os, hg3.tape, hg3.output, hg3.size, fun b hb => hg3.block b (by omega) (far_block own2' (by omega))⟩⟩)
            case measure => simp only [intOf]; omega
    · have hke : k = n := by omega
      subst hke
      have hrk : Rk.upto (Hs.wt ps cs) k = Rk.rank (Hs.wt ps cs) := by unfold Rk.rank; rw [HWL.out]
      rw [hrk] at hown
      go_wp2_with fail
      go_ret
      exact ⟨_, rfl, hB, hown⟩
end Go.Proofs.Ytlbagigghpiifaa
