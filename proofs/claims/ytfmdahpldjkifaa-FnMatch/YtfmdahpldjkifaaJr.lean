/-
  What comeTo, CoverOf and LackOf of the program answer.
-/
import Derived.Test.YtfmdahpldjkifaaJl
import Derived.Test.YtfmdahpldjkifaaJp
import Derived.Test.YtfmdahpldjkifaaJq
import Derived.Sort.OwnSortedInts
namespace Go.Proofs.Ytfmdahpldjkifaa
open Go.RowKit Go.Sort

theorem so_any {w : World} {base n : Nat} {v : Value} {L X : List Int} (hn : L.length = n) (hl : n ≤ 1000) (own : w.ownsRow base 3 1 v n (ints L)) (hs : (L.mergeSort fun x y => decide (x ≤ y)) = X) :
    Calls Try.prog 50 #[v] w fun e w' => e = .returned (.tuple #[]) ∧ w'.ownsRow base 3 1 v X.length (ints X) ∧ w.grownBy w' v.ownBlock := by
  subst hn
  have hl2 : (L.mergeSort fun x y => decide (x ≤ y)).length = L.length := List.length_mergeSort L
  rcases own.2 with ⟨rfl, h0⟩ | ⟨g, cap, cur, rfl, hb, hg, h1, h2, h3, h4⟩
  · have hL : L = [] := List.length_eq_zero_iff.1 h0
    subst hL
    have hX : X = [] := by rw [← hs]; simp
    subst hX
    refine (Try.slices_Sort_int_none none 0 w).mono ?_
    rintro e w' ⟨rfl, rfl⟩
    exact ⟨rfl, World.ownsRow_nil _ _ _ _, World.grownBy.refl _ _⟩
  · have hH : Holds (Value.int .i64) w g 0 L.toArray := holds_of_blockI hg (by rw [Nat.mul_one] at h4; exact h4)
    have hgl : g < w.heap.size := (Array.getElem?_eq_some_iff.1 hg).1
    refine (Try.slices_Sort_int g 0 cap L w hH hgl (by omega)).mono ?_
    rintro e w' ⟨rfl, q, os, rfl⟩
    have hro := ownsRow_sortedI (n := q) (os := os) (ts := L.mergeSort fun x y => decide (x ≤ y)) hl2 hb hg h1 h2 h3
    refine ⟨rfl, ?_, grownBy_sortedI _⟩
    have e1 : ints X = (L.mergeSort fun x y => decide (x ≤ y)).map (Value.int .i64) := by rw [hs]; rfl
    have e2 : X.length = L.length := by rw [← hs]; exact hl2
    rw [e1, e2]
    exact hro
/-- Two lists of ints that grow, each in a block of its own behind all that was there. -/
def TG (w0 w : World) (v : Value) (L : List Int) (u : Value) (B : List Int) : Prop :=
  Below w0.heap.size w0 w ∧ w.ownsRow w0.heap.size 3 1 v L.length (ints L) ∧ w.ownsRow w0.heap.size 3 1 u B.length (ints B) ∧ (v.ownBlock = none ∨ v.ownBlock ≠ u.ownBlock)
theorem TG.swap {w0 w : World} {v u : Value} {L B : List Int} (h : TG w0 w v L u B) : TG w0 w u B v L := ⟨h.1, h.2.2.1, h.2.1, dj_swap h.2.2.2⟩
theorem TG.push {w0 w : World} {v u : Value} {L B : List Int} {x : Int} (h : TG w0 w v L u B) (hL : L.length ≤ 1000) :
    ∃ v' w', (∀ ty, (Builtin.append_ #[25, 25] ty #[v, .slice (some ⟨w.heap.size, 0, none⟩) 1 1]).run Try.prog (w.alloc (.cells #[.int .i64 x] 3)) = .ok v' w') ∧ TG w0 w' v' (L ++ [x]) u B := by
  obtain ⟨h1, h2, h3, h4⟩ := h
  obtain ⟨v', w', hr, own, hg, hat⟩ := push_int8 (x := x) h2 (by omega) h1.size
  refine ⟨v', w', hr, h1.trans (grown_under' hg h2 (Nat.le_refl _) h1.size), by rw [ints_snoc, List.length_append]; exact own, h3.kept hg (dj_swap h4), ?_⟩
  rcases hat with e | ⟨g, e, hge⟩
  · rw [e]; exact h4
  · right
    rw [e]
    intro e2
    have := h3.lt g e2.symm
    omega
theorem TG.form {w0 w : World} {v u : Value} {L B : List Int} (h : TG w0 w v L u B) : ∃ a c, v = .slice a L.length c ∧ ARow w a L := own_any8 rfl h.2.1
theorem lt_mem {L : List Int} {i : Nat} (hi : i < L.length) : L.getD i 0 ∈ L := by rw [Pf.getD_lt L 0 hi]; exact List.getElem_mem hi
theorem getD_snoc (L : List Int) (x : Int) {i : Nat} (hi : i < L.length) : (L ++ [x]).getD i 0 = L.getD i 0 := by simp [List.getElem?_append, hi]
/-- What is gone through so far: the loads ahead of at whole, and the one at it up to bin b. -/
def Gone (F : List (List Bool)) (L : List Int) (Bl : List Nat) (k : Nat) : Prop := ∀ j, j < k → ∀ b, b < Ma.bins F → Ma.fit F (L.getD j 0).toNat b = true → b ∈ Bl
def CmO (F : List (List Bool)) (m own : List Int) (w1 wr : World) (k : Nat) (v u : Value) : Prop := ∃ (L : List Int) (Bl : List Nat), Hid (TG w1 wr v L u (Ma.cast8 Bl)) ∧ Hid (Ma.Bf F m own L Bl) ∧ Hid (Gone F L Bl k) ∧ k ≤ L.length
def CmI (F : List (List Bool)) (m own : List Int) (w1 wr : World) (k q b : Nat) (v u : Value) : Prop := ∃ (L : List Int) (Bl : List Nat), Hid (TG w1 wr v L u (Ma.cast8 Bl)) ∧ Hid (Ma.Bf F m own L Bl) ∧ Hid (Gone F L Bl k) ∧ k < L.length ∧ Hid (L.getD k 0 = (q : Int)) ∧ Hid (∀ b', b' < b → Ma.fit F q b' = true → b' ∈ Bl)
theorem gone_push {F : List (List Bool)} {L : List Int} {Bl : List Nat} {k : Nat} (h : Gone F L Bl k) (hk : k ≤ L.length) (x : Int) (b : Nat) : Gone F (L ++ [x]) (Bl ++ [b]) k := fun j hj c hc hf => by
  rw [getD_snoc L x (by omega)] at hf
  exact List.mem_append_left _ (h j hj c hc hf)
theorem gone_step {F : List (List Bool)} {L : List Int} {Bl : List Nat} {k q : Nat} (h : Gone F L Bl k) (hq : L.getD k 0 = (q : Int)) (h2 : ∀ b', b' < Ma.bins F → Ma.fit F q b' = true → b' ∈ Bl) : Gone F L Bl (k + 1) := fun j hj c hc hf => by
  by_cases e : j = k
  · subst e; rw [hq, Int.toNat_natCast] at hf; exact h2 c hc hf
  · exact h j (by omega) c hc hf
set_option maxRecDepth 20000 in
set_option maxHeartbeats 8000000 in
theorem cm_any {a : Option Addr} {n c M : Nat} {F : List (List Bool)} {w : World} (hn : F.length = n) (hM : Ma.bins F = M) (hG : Ma.goodB F = true) (ha : GRow w a F) :
    Calls Try.prog 29 #[.slice a n c] w fun e w' => ∃ v u, e = .returned (.tuple #[v, u]) ∧ Below w.heap.size w w' ∧ w'.ownsRow w.heap.size 3 1 v (Ma.those (Ma.rL F (Ma.mat F)) true).length (ints (Ma.those (Ma.rL F (Ma.mat F)) true)) ∧ w'.ownsRow w.heap.size 3 1 u (Ma.those (Ma.rB F (Ma.mat F)) true).length (ints (Ma.those (Ma.rB F (Ma.mat F)) true)) ∧ (v.ownBlock = none ∨ v.ownBlock ≠ u.ownBlock) := by
  have hM8 : M ≤ 8 := by rw [← hM]; exact Ma.goodB_bins hG
  have n8 : n ≤ 8 := by rw [← hn]; exact Ma.goodB_len hG
  have HA := hide ha
  have HN := hide hn
  have HM := hide hM
  have HG := hide hG
  have HMT := hide (mt_any (c := c) hn hG ha)
  have HI := hide (Ma.inv_mat hG)
  have HML : Hid ((Ma.mat F).length = n) := hide ((Ma.inv_mat hG).mo.lm.trans hn)
  generalize Ma.own F = own at *
  generalize Ma.mat F = m at *
  clear hn hM hG ha
  go_enter Try.func29, Try.ntmps29
  go_wp2_with fail
  refine HMT.out.mono ?_
  rintro e w1 ⟨X0, rfl, hb1, own1⟩
  have HMR := hide (arow_owns HML.out.symm own1)
  have HB1 := hide hb1
  have hs1 := hb1.size
  clear own1 hb1 HMT
  go_wp2_with fail
  go_loopw [5, 7, 8, 16] (fun v _ _ s wr => ∃ (k : Nat), s = .int .i64 k ∧ k ≤ n ∧ Hid (wr.ownsRow w1.heap.size 3 1 v (Ma.ul m k).length (ints (Ma.ul m k))) ∧ Hid (Below w1.heap.size w1 wr) ∧ Hid ((Ma.ul m k).length ≤ k)) (fun _ _ _ s _ => n - (intOf s).toNat)
  case atStart => exact ⟨0, rfl, Nat.zero_le _, hide (World.ownsRow_nil _ _ _ _), hide (Below.refl _ _), hide (Nat.le_refl _)⟩
  case round =>
    obtain ⟨k, rfl, hk, HO, HB, HK⟩ := hrel
    by_cases hlt : k < n
    · have i0 : (0 : Int) ≤ (k : Int) := by omega
      have i1 : (k : Int) < (n : Int) := by omega
      obtain ⟨b', o', e', r1⟩ := (HMR.out.below HB.out).at (i := k) (by rw [HML.out]; exact hlt)
      cases e'
      rw [Nat.zero_add] at r1
      have HS := hide (Ma.ul_step m k)
      generalize m.getD k 0 = x at *
      cases hx : (x == -1)
      · have HO2 : Hid (wr.ownsRow w1.heap.size 3 1 u5 (Ma.ul m (k + 1)).length (ints (Ma.ul m (k + 1)))) := hide (by rw [HS.out, hx]; exact HO.out)
        have HK2 : Hid ((Ma.ul m (k + 1)).length ≤ k + 1) := hide (by rw [HS.out, hx]; have := HK.out; simp; omega)
        go_wp2_with fail
        go_roundw
        case rel => exact ⟨k + 1, by go_num, by omega, HO2, HB, HK2⟩
        case measure => simp only [intOf]; omega
      · obtain ⟨v', w3, hr3, own3, hg3, _⟩ := push_int8 (x := (k : Int)) HO.out (by have := HK.out; omega) HB.out.size
        have HO3 : Hid (w3.ownsRow w1.heap.size 3 1 v' (Ma.ul m (k + 1)).length (ints (Ma.ul m (k + 1)))) := hide (by
          rw [HS.out, hx, if_pos rfl, List.length_append, ints_snoc]; exact own3)
        have HB3 := hide (HB.out.trans (grown_under' hg3 HO.out (Nat.le_refl _) HB.out.size))
        have HK3 : Hid ((Ma.ul m (k + 1)).length ≤ k + 1) := hide (by rw [HS.out, hx, if_pos rfl]; have := HK.out; simp; omega)
        clear own3 hg3
        go_wp2_with (first | (at_builtin; refine Lib.wpList_append_run _ rfl _ _ _ _ rfl _ _ rfl rfl _ _ (hr3 _) ?_))
        go_roundw
        case rel => exact ⟨k + 1, by go_num, by omega, HO3, HB3, HK3⟩
        case measure => simp only [intOf]; omega
    · have hke : k = n := by omega
      subst hke
      have HT0 : Hid (TG w1 wr u5 (Ma.ul m F.length) (.slice none 0 0) (Ma.cast8 [])) := hide ⟨HB.out, by rw [HN.out]; exact HO.out, World.ownsRow_nil _ _ _ _, dj_swap (Or.inl rfl)⟩
      have HF0 := hide (Ma.bf_start F m own)
      clear HO HB HK
      go_wp2_with fail
      go_loopw [5, 6, 9, 10, 11] (fun v u s _ _ wr => ∃ (t : Nat), s = .int .i64 t ∧ t ≤ k ∧ CmO F m own w1 wr t v u) (fun _ _ s _ _ _ => k - (intOf s).toNat)
      case atStart => exact ⟨0, rfl, Nat.zero_le _, _, _, HT0, HF0, hide fun j hj => absurd hj (Nat.not_lt_zero _), Nat.zero_le _⟩
      case round =>
        clear HT0 HF0
        obtain ⟨t, rfl, ht, L, Bl, HT, HBf, HGo, htL⟩ := hrel
        obtain ⟨al, cl, rfl, hrl⟩ := HT.out.form
        have HRL := hide hrl
        have hLn : L.length ≤ k := by have := HBf.out.len HI.out; rw [HN.out] at this; exact this
        clear hrl
        by_cases htl : t < L.length
        · obtain ⟨q, hq, hqe, hqr⟩ := HBf.out.nat HI.out (lt_mem htl)
          rw [HN.out] at hq
          obtain ⟨bl, ol, rfl, r1⟩ := HRL.out.at htl
          rw [hqe] at r1
          have HQE := hide hqe
          have hB := HB1.out.trans (HT.out.1.mono hs1)
          obtain ⟨ba, oa, ai, ci, rfl, _, r2, R2⟩ := (HA.out.below hB).at (i := q) (by rw [HN.out]; exact hq)
          have HLr : Hid ((F.getD q []).length = M) := hide ((Ma.goodB_row HG.out (by rw [HN.out]; exact hq)).trans HM.out)
          rw [HLr.out] at r2
          have HRW : Hid (∀ (W : World), Below w1.heap.size w1 W → BRow W ai (F.getD q [])) := hide fun W hW => by
            obtain ⟨b2, o2, a3, c3, e3, hb3, h3, R3⟩ := HA.out.at (i := q) (by rw [HN.out]; exact hq)
            cases e3
            have h4 := (hB.cell (p := ⟨ba, oa + q, none⟩) hb3).trans h3
            rw [HLr.out, r2] at h4
            simp only [Option.some.injEq, Value.slice.injEq] at h4
            rw [h4.1]
            exact R3.below (HB1.out.trans (hW.mono hs1))
          generalize hLL : L.length = LL at *
          have HLL := hide hLL
          have t0 : (0 : Int) ≤ (t : Int) := by omega
          have t1 : (t : Int) < (LL : Int) := by omega
          have q0 : (0 : Int) ≤ (q : Int) := by omega
          have q1 : (q : Int) < (k : Int) := by omega
          clear R2 hB hqr hLL hqe
          go_wp2_with fail
          go_loopw [5, 6, 10, 11, 42] (fun v u _ _ s wr => ∃ (b : Nat), s = .int .i64 b ∧ b ≤ M ∧ CmI F m own w1 wr t q b v u) (fun _ _ _ _ s _ => M - (intOf s).toNat)
          case atStart => exact ⟨0, rfl, Nat.zero_le _, L, Bl, HT, HBf, HGo, by rw [HLL.out]; exact htl, HQE, hide fun b hb => absurd hb (Nat.not_lt_zero _)⟩
          case round =>
            clear HT HBf HGo HQE HRL r1 HLL hLn htL htl t1
            obtain ⟨b, rfl, hb, L, Bl, HT, HBf, HGo, htl, HQE, HBB⟩ := hrel
            by_cases hbM : b < M
            · obtain ⟨br, orr, rfl, _, r3⟩ := (HRW.out _ HT.out.1).at (i := b) (by rw [HLr.out]; exact hbM)
              have r3' : wr.cell? ⟨br, orr + b, none⟩ = some (.bool (Ma.fit F q b)) := r3
              have b0 : (0 : Int) ≤ (b : Int) := by omega
              have b1 : (b : Int) < (M : Int) := by omega
              obtain ⟨av, cv, rfl, hrv⟩ := HT.out.form
              obtain ⟨au, cu, rfl, hru⟩ := HT.out.swap.form
              have HRU := hide hru
              have hbF : b < Ma.bins F := by rw [HM.out]; exact hbM
              have hBl8 : (Ma.cast8 Bl).length ≤ 8 := by have := HBf.out.blen; rw [HM.out] at this; simp [Ma.cast8]; omega
              have hL8 : L.length ≤ 8 := by have := HBf.out.len HI.out; rw [HN.out] at this; omega
              have HHas := hide (Ma.cast8_has Bl b)
              have HPush := hide fun (hf : Ma.fit F q b = true) (hnm : b ∉ Bl) => HBf.out.push HI.out (q := q) (by rw [← HQE.out]; exact lt_mem htl) hbF hf hnm
              have HNX := hide fun (hh : Ma.fit F q b = true → b ∈ Bl) => show ∀ b', b' < b + 1 → Ma.fit F q b' = true → b' ∈ Bl from fun b' hb' hf => by
                by_cases e : b' = b
                · subst e; exact hh hf
                · exact HBB.out b' (by omega) hf
              generalize hCL : (Ma.cast8 Bl).length = CL at *
              have HCL := hide hCL
              clear r3 hrv hru hbF hCL
              generalize hfq : Ma.fit F q b = fq at *
              cases fq
              · have H1 := hide (HNX.out (fun h => by cases h))
                clear hfq
                go_wp2_with fail
                go_roundw
                case rel => exact ⟨b + 1, by go_num, by omega, L, Bl, HT, HBf, HGo, htl, HQE, H1⟩
                case measure => simp only [intOf]; omega
              · by_cases hm : b ∈ Bl
                · have HC := hide (show (Ma.cast8 Bl).contains (b : Int) = true by rw [HHas.out]; simpa using hm)
                  have H1 := hide (HNX.out (fun _ => hm))
                  clear hfq hm
                  go_wp2_with fail
                  refine (con_eq HCL (by omega) HRU HC).mono ?_
                  rintro e w2 ⟨rfl, hw2⟩
                  obtain rfl : wr = w2 := hw2.symm
                  go_wp2_with fail
                  go_roundw
                  case rel => exact ⟨b + 1, by go_num, by omega, L, Bl, HT, HBf, HGo, htl, HQE, H1⟩
                  case measure => simp only [intOf]; omega
                · have HC := hide (show (Ma.cast8 Bl).contains (b : Int) = false by rw [HHas.out]; simpa using hm)
                  have HB2 := hide (HPush.out rfl hm)
                  have HIX := hide (HI.out.mo.idx_eq (show b < Ma.bins F by rw [HM.out]; exact hbM))
                  have HGo2 := hide (gone_push HGo.out (Nat.le_of_lt htl) (own.getD b (-1)) b)
                  have H1 : Hid (∀ b', b' < b + 1 → Ma.fit F q b' = true → b' ∈ Bl ++ [b]) := hide fun b' hb' hf => by
                    by_cases e : b' = b
                    · subst e; simp
                    · exact List.mem_append_left _ (HBB.out b' (by omega) hf)
                  have HQ2 : Hid ((L ++ [own.getD b (-1)]).getD t 0 = (q : Int)) := hide (by rw [getD_snoc L _ htl]; exact HQE.out)
                  obtain ⟨v2, w3, hr3, hT3⟩ := HT.out.swap.push (x := (b : Int)) (by rw [HCL.out]; omega)
                  have HT3 := hide hT3
                  clear hfq hm hT3
                  go_wp2_with fail
                  refine (con_eq HCL (by omega) HRU HC).mono ?_
                  rintro e w2 ⟨rfl, hw2⟩
                  obtain rfl : wr = w2 := hw2.symm
                  go_wp2_with (first | (at_builtin; refine Lib.wpList_append_run _ rfl _ _ _ _ rfl _ _ rfl rfl _ _ (hr3 _) ?_))
                  refine (ix_any HML.out (by omega) (HMR.out.below HT3.out.1)).mono ?_
                  rintro e w4 ⟨rfl, hw4⟩
                  obtain rfl : w3 = w4 := hw4.symm
                  rw [HIX.out]
                  obtain ⟨v5, w5, hr5, hT5⟩ := HT3.out.swap.push (x := own.getD b (-1)) (by omega)
                  rw [← Ma.cast8_snoc] at hT5
                  have HT5 := hide hT5
                  clear hT5 hr3 HT HT3
                  go_wp2_with (first | (at_builtin; refine Lib.wpList_append_run _ rfl _ _ _ _ rfl _ _ rfl rfl _ _ (hr5 _) ?_))
                  go_roundw
                  case rel => exact ⟨b + 1, by go_num, by omega, _, _, HT5, HB2, HGo2, by simp; omega, HQ2, H1⟩
                  case measure => simp only [intOf]; omega
            · have hbe : b = M := by omega
              subst hbe
              have HGo2 := hide (gone_step HGo.out HQE.out (by rw [HM.out]; exact HBB.out))
              have hLk : L.length ≤ k := by have := HBf.out.len HI.out; rw [HN.out] at this; exact this
              go_wp2_with fail
              go_roundw
              case rel => exact ⟨t + 1, by go_num, by omega, L, Bl, HT, HBf, HGo2, by omega⟩
              case measure => simp only [intOf]; omega
        · have hte : t = L.length := by omega
          obtain ⟨f1, f2⟩ := HBf.out.fin HI.out (fun q hq b hb hf => by
            obtain ⟨j, hj, e⟩ := List.getElem_of_mem hq
            refine HGo.out j (by omega) b hb ?_
            rw [Pf.getD_lt L 0 hj, e, Int.toNat_natCast]
            exact hf)
          have hX1 := Ma.sort_eq (HBf.out.nodup HI.out) (Ma.those_rise _ _) f1
          have hX2 := Ma.sort_eq (Ma.cast8_nodup HBf.out.nd) (Ma.those_rise _ _) f2
          have hBl8 : (Ma.cast8 Bl).length ≤ 8 := by have := HBf.out.blen; rw [HM.out] at this; simp [Ma.cast8]; omega
          have HS1 := hide (so_any rfl (by omega) HT.out.2.1 hX1)
          have HS2 := hide fun (W : World) (h : W.ownsRow w1.heap.size 3 1 u6 (Ma.cast8 Bl).length (ints (Ma.cast8 Bl))) => so_any rfl (by omega) h hX2
          have htL' : ¬ (t : Int) < (L.length : Int) := by omega
          have hB := HB1.out.trans (HT.out.1.mono hs1)
          have HBT := hide hB
          clear f1 f2 hX1 hX2 hte hB
          go_wp2_with fail
          refine HS1.out.mono ?_
          rintro e w2 ⟨rfl, own2, hg2⟩
          have HO2 := hide own2
          have HU2 := hide (HT.out.2.2.1.kept hg2 (dj_swap HT.out.2.2.2))
          have hB2 := HBT.out.trans (grown_under' hg2 HT.out.2.1 (Nat.le_trans hs1 (Nat.le_refl _)) HBT.out.size)
          have HB2 := hide hB2
          clear own2 hg2 hB2 HS1
          go_wp2_with fail
          refine (HS2.out _ HU2.out).mono ?_
          rintro e w3 ⟨rfl, own3, hg3⟩
          have HO3 := hide own3
          have HV3 := hide (HO2.out.kept hg3 HT.out.2.2.2)
          have hB3 := HB2.out.trans (grown_under' hg3 HU2.out (Nat.le_trans hs1 (Nat.le_refl _)) HB2.out.size)
          have HB3 := hide hB3
          clear own3 hg3 hB3 HS2
          go_wp2_with fail
          go_ret2
          exact ⟨.slice al L.length cl, u6, rfl, HB3.out, owns_low HV3.out hs1, owns_low HO3.out hs1, HT.out.2.2.2⟩
theorem notTo_step {F : List (List Bool)} {m : List Int} {k : Nat} (hk : k < F.length) : (Ma.those (Ma.rL F m) true).contains (k : Int) = !((Ma.rL F m).getD k false == false) := by
  rw [Ma.those_has (by rw [Ma.rL_len]; exact hk)]
  cases (Ma.rL F m).getD k false <;> rfl
set_option maxRecDepth 20000 in
set_option maxHeartbeats 4000000 in
theorem cv_w {a : Option Addr} {n c : Nat} {F : List (List Bool)} {w : World} (hn : F.length = n) (ha : GRow w a F) :
    Calls Try.prog 20 #[.slice a n c] w fun e w' => ∃ v0 v1, e = .returned (.tuple #[v0, v1, .bool (Ma.goodB F)]) ∧ Below w.heap.size w w' ∧ w'.ownsRow w.heap.size 3 1 v0 (cvA F).length (ints (cvA F)) ∧ w'.ownsRow w.heap.size 3 1 v1 (cvB F).length (ints (cvB F)) ∧ (v0.ownBlock = none ∨ v0.ownBlock ≠ v1.ownBlock) := by
  unfold cvA cvB
  have HA := hide ha
  have HN := hide hn
  cases hg : Ma.goodB F
  · have HG := hide hg
    clear ha hn hg
    go_enter Try.func20, Try.ntmps20
    go_wp2_with fail
    refine (gf_eq HN HA HG).mono ?_
    rintro e w1 ⟨rfl, rfl⟩
    go_wp2_with fail
    go_ret3
    exact ⟨_, _, rfl, Below.refl _ _, World.ownsRow_nil _ _ _ _, World.ownsRow_nil _ _ _ _, Or.inl rfl⟩
  · have HG := hide hg
    have HC := hide (cm_any (c := c) hn rfl hg ha)
    have n8 : n ≤ 8 := by rw [← hn]; exact Ma.goodB_len hg
    have HCON := hide fun (k : Nat) (hk : k < n) => notTo_step (m := Ma.mat F) (show k < F.length by rw [hn]; exact hk)
    have HTL : Hid ((Ma.those (Ma.rL F (Ma.mat F)) true).length ≤ 8) := hide (by have := those_le (Ma.rL F (Ma.mat F)) true; rw [Ma.rL_len, hn] at this; omega)
    have HEND : Hid (Ma.thoseTo (Ma.rL F (Ma.mat F)) false n = Ma.those (Ma.rL F (Ma.mat F)) false) := hide (by rw [← hn, ← Ma.rL_len F (Ma.mat F)]; rfl)
    have HST := hide fun (k : Nat) => Ma.thoseTo_step (Ma.rL F (Ma.mat F)) false k
    have HSL := hide fun (k : Nat) => thoseTo_le (Ma.rL F (Ma.mat F)) false k
    simp only [if_true]
    generalize Ma.those (Ma.rL F (Ma.mat F)) true = Y1 at *
    generalize Ma.those (Ma.rB F (Ma.mat F)) true = Y2 at *
    generalize Ma.rL F (Ma.mat F) = la at *
    clear ha hn hg
    go_enter Try.func20, Try.ntmps20
    go_wp2_with fail
    refine (gf_eq HN HA HG).mono ?_
    rintro e w1 ⟨rfl, hw1⟩
    obtain rfl : w = w1 := hw1.symm
    go_wp2_with fail
    refine HC.out.mono ?_
    rintro e w1 ⟨v, u, rfl, hb1, own1, own2, _⟩
    obtain ⟨av, cv, rfl, hrv⟩ := own_any8 rfl own1
    have HRV := hide hrv
    have HU := hide own2
    have HB1 := hide hb1
    have hs1 := hb1.size
    generalize hYL : Y1.length = YL at *
    have HYL := hide hYL
    have y8 : YL ≤ 8 := HTL.out
    clear own1 own2 hb1 hrv HC hYL HTL
    go_wp2_with fail
    go_loopw [7, 8, 19] (fun v7 _ s wr => ∃ (k : Nat), s = .int .i64 k ∧ k ≤ n ∧ Hid (wr.ownsRow w1.heap.size 3 1 v7 (Ma.thoseTo la false k).length (ints (Ma.thoseTo la false k))) ∧ Hid (Below w1.heap.size w1 wr)) (fun _ _ s _ => n - (intOf s).toNat)
    case atStart => exact ⟨0, rfl, Nat.zero_le _, hide (World.ownsRow_nil _ _ _ _), hide (Below.refl _ _)⟩
    case round =>
      obtain ⟨k, rfl, hk, HO, HB⟩ := hrel
      by_cases hlt : k < n
      · have i0 : (0 : Int) ≤ (k : Int) := by omega
        have i1 : (k : Int) < (n : Int) := by omega
        have HS := hide (HST.out k)
        have HRV2 := hide (HRV.out.below HB.out)
        have hcc := HCON.out k hlt
        generalize la.getD k false = x at *
        cases hx : (x == false)
        · have HCC : Hid (Y1.contains (k : Int) = true) := hide (by rw [hcc, hx]; rfl)
          have HO2 : Hid (wr.ownsRow w1.heap.size 3 1 u7 (Ma.thoseTo la false (k + 1)).length (ints (Ma.thoseTo la false (k + 1)))) := hide (by rw [HS.out, hx]; exact HO.out)
          clear hcc hx
          go_wp2_with fail
          refine (con_eq HYL (by omega) HRV2 HCC).mono ?_
          rintro e w2 ⟨rfl, hw2⟩
          obtain rfl : wr = w2 := hw2.symm
          go_wp2_with fail
          go_roundw
          case rel => exact ⟨k + 1, by go_num, by omega, HO2, HB⟩
          case measure => simp only [intOf]; omega
        · have HCC : Hid (Y1.contains (k : Int) = false) := hide (by rw [hcc, hx]; rfl)
          obtain ⟨v', w3, hr3, own3, hg3, _⟩ := push_int8 (x := (k : Int)) HO.out (by have := HSL.out k; omega) HB.out.size
          have HO3 : Hid (w3.ownsRow w1.heap.size 3 1 v' (Ma.thoseTo la false (k + 1)).length (ints (Ma.thoseTo la false (k + 1)))) := hide (by
            rw [HS.out, hx, if_pos rfl, List.length_append, ints_snoc]; exact own3)
          have HB3 := hide (HB.out.trans (grown_under' hg3 HO.out (Nat.le_refl _) HB.out.size))
          clear own3 hg3 hcc hx
          go_wp2_with fail
          refine (con_eq HYL (by omega) HRV2 HCC).mono ?_
          rintro e w2 ⟨rfl, hw2⟩
          obtain rfl : wr = w2 := hw2.symm
          go_wp2_with (first | (at_builtin; refine Lib.wpList_append_run _ rfl _ _ _ _ rfl _ _ rfl rfl _ _ (hr3 _) ?_))
          go_roundw
          case rel => exact ⟨k + 1, by go_num, by omega, HO3, HB3⟩
          case measure => simp only [intOf]; omega
      · have hke : k = n := by omega
        subst hke
        have HF : Hid (wr.ownsRow w1.heap.size 3 1 u7 (Ma.those la false).length (ints (Ma.those la false))) := hide (by rw [← HEND.out]; exact HO.out)
        have HBF := hide (HB1.out.trans (HB.out.mono hs1))
        have HUF := hide (g_own HU.out HB.out)
        have HDJ := hide (dj_swap (dj_later HU.out HF.out (Nat.le_refl _)))
        go_wp2_with fail
        go_ret3
        exact ⟨u7, u, rfl, HBF.out, owns_low HF.out hs1, HUF.out, HDJ.out⟩
set_option maxRecDepth 100000 in
set_option maxHeartbeats 2000000 in
theorem lk_w {a : Option Addr} {n c : Nat} {F : List (List Bool)} {w : World} (hn : F.length = n) (ha : GRow w a F) :
    Calls Try.prog 8 #[.slice a n c] w fun e w' => ∃ v0, e = .returned (.tuple #[v0, .bool (Ma.goodB F)]) ∧ Below w.heap.size w w' ∧ w'.ownsRow w.heap.size 3 1 v0 (lkL F).length (ints (lkL F)) := by
  unfold lkL
  have HA := hide ha
  have HN := hide hn
  cases hg : Ma.goodB F
  · have HG := hide hg
    clear ha hn hg
    go_enter Try.func8, Try.ntmps8
    go_wp2_with fail
    refine (gf_eq HN HA HG).mono ?_
    rintro e w1 ⟨rfl, rfl⟩
    go_wp2_with fail
    go_ret2
    exact ⟨_, rfl, Below.refl _ _, World.ownsRow_nil _ _ _ _⟩
  · have HG := hide hg
    have HC := hide (cm_any (c := c) hn rfl hg ha)
    simp only [if_true]
    generalize Ma.those (Ma.rL F (Ma.mat F)) true = Y1 at *
    generalize Ma.those (Ma.rB F (Ma.mat F)) true = Y2 at *
    clear ha hn hg
    go_enter Try.func8, Try.ntmps8
    go_wp2_with fail
    refine (gf_eq HN HA HG).mono ?_
    rintro e w1 ⟨rfl, hw1⟩
    obtain rfl : w = w1 := hw1.symm
    go_wp2_with fail
    refine HC.out.mono ?_
    rintro e w1 ⟨v, u, rfl, hb1, own1, own2, _⟩
    have HO := hide own1
    have HB1 := hide hb1
    clear own1 own2 hb1 HC
    go_wp2_with fail
    go_ret2
    exact ⟨v, rfl, HB1.out, HO.out⟩
end Go.Proofs.Ytfmdahpldjkifaa
