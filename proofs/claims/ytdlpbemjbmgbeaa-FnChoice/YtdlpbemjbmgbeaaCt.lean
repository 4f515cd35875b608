/-
  What DropOffer of the model answers.
-/
import Derived.Test.YtdlpbemjbmgbeaaCs
import Derived.Deep.DeepCutAuto
import Derived.Deep.RegionHeld3
namespace Go.Proofs.Ytdlpbemjbmgbeaa
open Go.RowKit

theorem OVal.cutrow {w w' : World} {b off k base N c : Nat} {a : Option Addr} {L : List (List Int)} {vs : List Value} (h : OVal w b off L vs) (hk : k < L.length) (hb : Below w.heap.size w w')
    (hN : (Of.drop L k).length = N) (own : w'.ownsRow base 36 1 (.slice a N c) N (vs.take k ++ vs.drop (k + 1))) : ORow w' a (Of.drop L k) := by
  rcases own.2 with ⟨h0, hn⟩ | ⟨g, cap, cur, hv, hbg, hg, _⟩
  · left; exact List.length_eq_zero_iff.1 (by omega)
  · cases hv
    refine Or.inr ⟨g, 0, rfl, (own.lt g rfl).2, fun i hi => ?_⟩
    have hl := Of.drop_len hk
    have hj : (if i < k then i else i + 1) < L.length := by split <;> omega
    obtain ⟨ai, ci, e1, hx⟩ := (h.2 _ hj).2
    have e2 : (Of.drop L k).getD i [] = L.getD (if i < k then i else i + 1) [] := getD_cut L [] k i (by omega)
    rw [e2]
    refine ⟨ai, ci, ?_, hx.below hb⟩
    have h3 := getD_cut vs (.slice none 0 0) k i (by rw [h.1]; omega)
    rw [e1] at h3
    have hli : i < (vs.take k ++ vs.drop (k + 1)).length := by rw [own.1]; omega
    rw [Nat.zero_add, own.cellAt i (by omega), List.getElem?_eq_getElem hli, ← Pf.getD_lt _ (.slice none 0 0) hli, h3]
theorem empty_own (w : World) (e : TypeId) : (w.alloc (.cells #[] e)).ownsRow w.heap.size e 1 (.slice (some ⟨w.heap.size, 0, none⟩) 0 0) 0 [] :=
  ⟨rfl, .inr ⟨w.heap.size, 0, #[], rfl, Nat.le_refl _, heap_alloc_new w _, Nat.le_refl _, Nat.zero_le _, rfl, rfl⟩⟩
/-- One number of the last table. -/
theorem olast_cell {w0 w : World} {M n P G C : Nat} {gs : List (Nat × Nat)} {L : List (List Int)} (hn : L.length = n) (hM : P + 1 = M) (q : QOwn w w0.heap.size M (n + 1) (.slice (some ⟨G, 0, none⟩) (n + 1) C) gs (tl L P n)) :
    ∃ g cap, w.cell? ⟨G, n, none⟩ = some (.slice (some ⟨g, 0, none⟩) M cap) ∧ w.cell? ⟨g, P, none⟩ = some (.int .i64 ((Of.tab L P).getD P 0)) ∧ G < w.heap.size ∧ g < w.heap.size := by
  have c0 := q.outer (i := n) (by omega)
  obtain ⟨e1, e2⟩ := q.2.2.2.1 n (by omega)
  rw [tl_at L P (Nat.le_refl n), List.take_of_length_le (by rw [hn]; exact Nat.le_refl _)] at e1 e2
  refine ⟨(gs.getD n (0, 0)).1, (gs.getD n (0, 0)).2, c0, ?_, (q.2.2.1.lt G rfl).2, (e2.lt _ rfl).2⟩
  rw [e2.cellAt P (by omega), ints_get _ P (by rw [e1]; omega)]
/-- The offers but one, put into a list of their own by two appends. -/
theorem rest_any {w1 : World} {b off n c k N n3 c3 : Nat} {a3 : Option Addr} {L : List (List Int)} {vs : List Value} (hval : OVal w1 b off L vs) (hb2 : b < w1.heap.size) (hn : L.length = n) (h12 : n ≤ 12) (hk : k < n) (hN : n - 1 = N)
    (hv3 : VRow w1 a3 (vs.drop (k + 1))) (hn3 : n - (k + 1) = n3) :
    ∃ a2 c2 w2 a4 c4 w3, (∀ ty, (Builtin.append_ #[23, 23] ty #[.slice (some ⟨w1.heap.size, 0, none⟩) 0 0, .slice (some ⟨b, off, none⟩) k c]).run Try.prog (w1.alloc (.cells #[] 36)) = .ok (.slice a2 k c2) w2) ∧
      (∀ ty, (Builtin.append_ #[23, 23] ty #[.slice a2 k c2, .slice a3 n3 c3]).run Try.prog w2 = .ok (.slice a4 N c4) w3) ∧ Below w1.heap.size w1 w3 ∧ ORow w3 a4 (Of.drop L k) := by
  obtain ⟨i0, hi, hz0, hz1, hz2⟩ := infoO
  have hvs := hval.1
  have hBe := o_below_new w1 (.cells #[] 36)
  obtain ⟨v2, w2, hr2, own2, hg2⟩ := run_append_v (P := Try.prog) (w1.alloc (.cells #[] 36)) w1.heap.size 23 0 36 i0 (.agg #[.slice none 0 0]) 24 Try.underlying23 hi hz0 hz1 hz2 rfl _ 0 [] (empty_own w1 36) (some ⟨b, off, none⟩) k c (vs.take k) (by rw [List.length_take, hvs, hn]; omega) ((hval.take hb2).below hBe) (fun u hu => hval.one u (List.mem_of_mem_take hu)) (by unfold maxLen; omega) (by omega) (by simp)
  rw [Nat.zero_add, List.nil_append] at own2
  have hB2 := hBe.trans (grown_under' hg2 (empty_own w1 36) (Nat.le_refl _) (by simp))
  obtain ⟨a2, c2, rfl⟩ := own_form own2
  obtain ⟨v3, w3, hr3, own3, hg3⟩ := run_append_v (P := Try.prog) w2 w1.heap.size 23 0 36 i0 (.agg #[.slice none 0 0]) 24 Try.underlying23 hi hz0 hz1 hz2 rfl _ k (vs.take k) own2 a3 n3 c3 (vs.drop (k + 1)) (by rw [List.length_drop, hvs, hn]; exact hn3) (hv3.below hB2) (fun u hu => hval.one u (List.mem_of_mem_drop hu)) (by unfold maxLen; omega) (by omega) hB2.size
  obtain ⟨a4, c4, rfl⟩ := own_form own3
  have hB := hB2.trans (grown_under' hg3 own2 (Nat.le_refl _) hB2.size)
  have e4 : k + n3 = N := by omega
  have hdl := Of.drop_len (L := L) (k := k) (by omega)
  subst e4
  exact ⟨a2, c2, w2, a4, c4, w3, fun ty => hr2, fun ty => hr3, hB, hval.cutrow (by omega) hB (by omega) own3⟩
theorem s_call {w w1 w2 : World} (s : Below w.heap.size w w1 ∧ w.heap.size ≤ w1.heap.size) (hb2 : Below w1.heap.size w1 w2) : Below w.heap.size w w2 ∧ w.heap.size ≤ w2.heap.size := ⟨s.1.trans (hb2.mono s.2), Nat.le_trans s.2 hb2.size⟩
/-- What is held while a region draws may be sharpened on the way. -/
theorem wpAnyH_sharp {P : Program} {ops : Array Oper} {Q : Exit → Act → World → Prop} {md : Region.Mode} {S S' : World → Prop} (h : ∀ w, S' w → S w) : ∀ (fuel : Nat) (listed : Array Bool) (a : Act) (w : World), wpAnyH P md ops Q S' fuel listed a w → wpAnyH P md ops Q S fuel listed a w
  | 0, _, _, _, hh => hh
  | fuel + 1, _, _, _, hh => ⟨hh.1, fun i hi => wpOp_mono (fun a' w' h' => ⟨h w' h'.1, wpAnyH_sharp h fuel _ a' w' h'.2⟩) (hh.2 i hi)⟩

set_option maxRecDepth 100000 in
set_option maxHeartbeats 400000 in
theorem sdr_no {a : Option Addr} {n c : Nat} {L : List (List Int)} {k p : Int} {w : World} (hn : L.length = n) (hm : n ≤ 1048576) (h : ORow w a L) (hg : drB L k p = false) :
    Calls Try.prog 26 #[.slice a n c, .int .i64 k, .int .i64 p] w fun e w' => e = .returned (.tuple #[.int .i64 0, .bool false]) ∧ Below w.heap.size w w' := by
  have HC := hide (sgof_any (c := c) hn hm h)
  unfold drB chB at hg
  rw [hn] at hg
  clear h hn
  cases ho : Of.offersB L
  · rw [ho] at HC
    clear ho hg
    go_enter Try.func26, Try.ntmps26
    go_wp2_with fail
    refine HC.out.mono ?_
    rintro e w1 ⟨rfl, hb1⟩
    go_wp2_with fail
    go_ret2
    exact ⟨rfl, hb1⟩
  · rw [ho] at HC hg
    cases hp : Pf.inB p 0 40
    · clear ho hg
      go_enter Try.func26, Try.ntmps26
      go_wp2_with fail
      refine HC.out.mono ?_
      rintro e w1 ⟨rfl, hb1⟩
      go_wp2_with fail
      refine (pl_eq hp).mono ?_
      rintro e w2 ⟨rfl, rfl⟩
      go_wp2_with fail
      go_ret2
      exact ⟨rfl, hb1⟩
    · rw [hp] at hg
      have hk : Pf.inB k 0 ((n : Int) - 1) = false := hg
      have hk' := Pf.inB_no hk
      clear ho hg hk
      by_cases hk0 : k < 0
      · go_enter Try.func26, Try.ntmps26
        go_wp2_with fail
        refine HC.out.mono ?_
        rintro e w1 ⟨rfl, hb1⟩
        go_wp2_with fail
        refine (pl_eq hp).mono ?_
        rintro e w2 ⟨rfl, rfl⟩
        go_wp2_with fail
        go_ret2
        exact ⟨rfl, hb1⟩
      · have hk1 : (n : Int) ≤ k := by omega
        clear hk'
        go_enter Try.func26, Try.ntmps26
        go_wp2_with fail
        refine HC.out.mono ?_
        rintro e w1 ⟨rfl, hb1⟩
        go_wp2_with fail
        refine (pl_eq hp).mono ?_
        rintro e w2 ⟨rfl, rfl⟩
        go_wp2_with fail
        go_ret2
        exact ⟨rfl, hb1⟩
set_option maxRecDepth 100000 in
set_option maxHeartbeats 1000000 in
theorem sdr_yes {a : Option Addr} {n c P M k : Nat} {L : List (List Int)} {w : World} (hn : L.length = n) (hcap : n ≤ c) (hM : P + 1 = M) (hM' : M ≤ 1000) (h : ORow w a L) (hg : chB L (P : Int) = true) (hk : k < n) :
    Calls Try.prog 26 #[.slice a n c, .int .i64 k, .int .i64 P] w fun e w' => e = .returned (.tuple #[.int .i64 ((Of.tab L P).getD P 0 - (Of.tab (Of.drop L k) P).getD P 0), .bool true]) ∧ Below w.heap.size w w' := by
  have HG := hide (chB_yes hg).1
  have h12 := Of.offersB_len HG.out
  rw [hn] at h12
  have HC := hide (sgof_any (c := c) hn (by omega) h)
  rw [HG.out] at HC
  have hp : Pf.inB (P : Int) 0 40 = true := Pf.inB_of (chB_yes hg).2.1 (chB_yes hg).2.2
  obtain ⟨b, off, _, _, rfl, hbl, _, _⟩ := h.at (i := 0) (by omega)
  have H := hide h
  have HN := hide hn
  have HM := hide hM
  have hP : P ≤ 1000 := by omega
  have u1 : ¬ (k : Int) < 0 := by omega
  have u2 : ¬ (n : Int) ≤ (k : Int) := by omega
  have k0 : (0 : Int) ≤ (k : Int) := by omega
  have k1 : (k : Int) ≤ (n : Int) := by omega
  have k2 : (k : Int) + 1 ≤ (n : Int) := by omega
  have k3 : (n : Int) ≤ (c : Int) := by omega
  have k4 : (0 : Int) ≤ (k : Int) + 1 := by omega
  have k6 : k + 1 ≤ n := by omega
  have k7 : k ≤ c := by omega
  obtain ⟨N, hN⟩ : ∃ N, n - 1 = N := ⟨_, rfl⟩
  have hdl := Of.drop_len (L := L) (k := k) (by rw [hn]; exact hk)
  rw [hn, hN] at hdl
  have hyb := Of.tab_bd12 HG.out P n
  rw [List.take_of_length_le (by rw [hn]; exact Nat.le_refl _)] at hyb
  have hyb := hyb P
  have hzb := Of.tab_bd12 (Of.drop_good HG.out k) P N
  rw [List.take_of_length_le (by rw [hdl]; exact Nat.le_refl _)] at hzb
  have hzb := hzb P
  obtain ⟨y0, y1⟩ := hyb
  obtain ⟨z0, z1⟩ := hzb
  have HDG := hide (Of.drop_good HG.out k)
  have HDL := hide hdl
  have HNN := hide hN
  clear h hn hg hM hdl
  go_enter Try.func26, Try.ntmps26
  go_wp2_with fail
  refine HC.out.mono ?_
  rintro e w1 ⟨rfl, hb1⟩
  clear HC
  go_wp2_with fail
  refine (pl_eq hp).mono ?_
  rintro e w1' ⟨rfl, hw⟩
  obtain rfl : w1 = w1' := hw.symm
  have HW1 := hide (H.out.below hb1)
  obtain ⟨vs, hval⟩ := HW1.out.vals
  have HVAL := hide hval
  have hb2 : b < w1.heap.size := by have h1 := hb1.size; omega
  clear hval
  by_cases hck : c = k + 1
  · have hnk := hide (show n = k + 1 by omega)
    subst hck
    obtain ⟨a2, c2, w2, a4, c4, w3, hr2, hr3, hb3, R4⟩ := rest_any (c := (k + 1)) (c3 := 0) (n3 := 0) (a3 := some ⟨b, off, none⟩) HVAL.out hb2 HN.out (by omega) hk hN (Or.inl (List.drop_of_length_le (by rw [HVAL.out.1, HN.out, hnk.out]; exact Nat.le_refl _))) (by have := hnk.out; omega)
    have HR4 := hide R4
    have HB3 := hide hb3
    clear R4 hb3
    go_upto_region 4 with (at_builtin; refine Lib.wpList_append_run _ rfl _ _ _ _ rfl _ _ rfl rfl _ _ (hr2 _) ?_)
    clear hr2
    go_wp2_with (at_builtin; refine Lib.wpList_append_run _ rfl _ _ _ _ rfl _ _ rfl rfl _ _ (hr3 _) ?_)
    clear hr3
    have HR1 : Hid (∀ W, Below w1.heap.size w1 W → Calls Try.prog 33 #[.slice (some ⟨b, off, none⟩) n (k + 1), .int .i64 P] W fun e w' => ∃ G C g cap, e = .returned (.slice (some ⟨G, 0, none⟩) (n + 1) C) ∧ Below W.heap.size W w' ∧ w'.cell? ⟨G, n, none⟩ = some (.slice (some ⟨g, 0, none⟩) M cap) ∧ w'.cell? ⟨g, P, none⟩ = some (.int .i64 ((Of.tab L P).getD P 0)) ∧ G < w'.heap.size ∧ g < w'.heap.size) := hide fun W hW => (rows_any (d := (k + 1)) HN.out HM.out hM' HG.out (HW1.out.below hW)).mono fun e w' ⟨G, C, gs, he, hb, q⟩ => by
      obtain ⟨g, cap, p1, p2, p3, p4⟩ := olast_cell HN.out HM.out q
      exact ⟨G, C, g, cap, he, hb, p1, p2, p3, p4⟩
    have HR2 : Hid (∀ W, Below w3.heap.size w3 W → Calls Try.prog 33 #[.slice a4 N c4, .int .i64 P] W fun e w' => ∃ G C g cap, e = .returned (.slice (some ⟨G, 0, none⟩) (N + 1) C) ∧ Below W.heap.size W w' ∧ w'.cell? ⟨G, N, none⟩ = some (.slice (some ⟨g, 0, none⟩) M cap) ∧ w'.cell? ⟨g, P, none⟩ = some (.int .i64 ((Of.tab (Of.drop L k) P).getD P 0)) ∧ G < w'.heap.size ∧ g < w'.heap.size) := hide fun W hW => (rows_any (d := c4) HDL.out HM.out hM' HDG.out (HR4.out.below hW)).mono fun e w' ⟨G, C, gs, he, hb, q⟩ => by
      obtain ⟨g, cap, p1, p2, p3, p4⟩ := olast_cell HDL.out HM.out q
      exact ⟨G, C, g, cap, he, hb, p1, p2, p3, p4⟩
    generalize hy : (Of.tab L P).getD P 0 = y at *
    have HY := hide hy
    generalize hz : (Of.tab (Of.drop L k) P).getD P 0 = z at *
    have HZ := hide hz
    have j0 : (0 : Int) ≤ (P : Int) := by omega
    have j1 : (P : Int) < (M : Int) := by have := HM.out; omega
    have j2 : (n : Int) < ((n + 1 : Nat) : Int) := by omega
    have j3 : (N : Int) < ((N + 1 : Nat) : Int) := by omega
    have j4 : IntKind.i64.wrap (y - z) = y - z := by rw [IntKind.wrap_i64]; omega
    clear hy hz
    refine wp_region_noPanic ?_
    refine wp_region_held_drew (S := fun w' => Below w3.heap.size w3 w' ∧ w3.heap.size ≤ w'.heap.size) (by kernel_rfl) ⟨(Below.refl _ _).drew, Nat.le_refl _⟩ (fun hHeld => ?_)
    refine wpAnyH_take (i := 0) (oi := ⟨some 38, _, _, _, _, none⟩) (v := .slice (some ⟨b, off, none⟩) n (k + 1)) rfl (by kernel_rfl) (by kernel_rfl) (by kernel_rfl) (fun _ _ _ h => h) (Or.inl ⟨by rfl, fun w' hSw => by clear hSw; go_simp⟩) hHeld ?_
    simp only [Act.put, List.setIfInBounds_toArray, List.set_cons_zero, List.set_cons_succ]
    refine wpAnyH_take (i := 1) (oi := ⟨some 39, _, _, _, _, none⟩) (v := .int .i64 P) rfl (by kernel_rfl) (by kernel_rfl) (by kernel_rfl) (fun _ _ _ h => h) (Or.inl ⟨by rfl, fun w' hSw => by clear hSw; go_simp⟩) hHeld ?_
    simp only [Act.put, List.setIfInBounds_toArray, List.set_cons_zero, List.set_cons_succ]
    refine wpAnyH_take (i := 3) (oi := ⟨some 41, _, _, _, _, none⟩) (v := .slice (some ⟨b, off, none⟩) n (k + 1)) rfl (by kernel_rfl) (by kernel_rfl) (by kernel_rfl) (fun _ _ _ h => h) (Or.inl ⟨by rfl, fun w' hSw => by clear hSw; go_simp⟩) hHeld ?_
    simp only [Act.put, List.setIfInBounds_toArray, List.set_cons_zero, List.set_cons_succ]
    refine wpAnyH_take (i := 4) (oi := ⟨some 42, _, _, _, _, none⟩) (v := .int .i64 ((n : Nat) : Int)) rfl (by kernel_rfl) (by kernel_rfl) (by kernel_rfl) (fun _ _ _ h => h) (Or.inl ⟨by rfl, fun w' hSw => by clear hSw; go_simp⟩) hHeld ?_
    simp only [Act.put, List.setIfInBounds_toArray, List.set_cons_zero, List.set_cons_succ]
    refine wpAnyH_take (i := 7) (oi := ⟨some 45, _, _, _, _, none⟩) (v := .int .i64 P) rfl (by kernel_rfl) (by kernel_rfl) (by kernel_rfl) (fun _ _ _ h => h) (Or.inl ⟨by rfl, fun w' hSw => by clear hSw; go_simp⟩) hHeld ?_
    simp only [Act.put, List.setIfInBounds_toArray, List.set_cons_zero, List.set_cons_succ]
    refine wpAnyH_take (i := 10) (oi := ⟨some 48, _, _, _, _, none⟩) (v := .slice a4 N c4) rfl (by kernel_rfl) (by kernel_rfl) (by kernel_rfl) (fun _ _ _ h => h) (Or.inl ⟨by rfl, fun w' hSw => by clear hSw; go_simp⟩) hHeld ?_
    simp only [Act.put, List.setIfInBounds_toArray, List.set_cons_zero, List.set_cons_succ]
    refine wpAnyH_take (i := 11) (oi := ⟨some 49, _, _, _, _, none⟩) (v := .int .i64 P) rfl (by kernel_rfl) (by kernel_rfl) (by kernel_rfl) (fun _ _ _ h => h) (Or.inl ⟨by rfl, fun w' hSw => by clear hSw; go_simp⟩) hHeld ?_
    simp only [Act.put, List.setIfInBounds_toArray, List.set_cons_zero, List.set_cons_succ]
    refine wpAnyH_take (i := 13) (oi := ⟨some 51, _, _, _, _, none⟩) (v := .slice a4 N c4) rfl (by kernel_rfl) (by kernel_rfl) (by kernel_rfl) (fun _ _ _ h => h) (Or.inl ⟨by rfl, fun w' hSw => by clear hSw; go_simp⟩) hHeld ?_
    simp only [Act.put, List.setIfInBounds_toArray, List.set_cons_zero, List.set_cons_succ]
    refine wpAnyH_take (i := 14) (oi := ⟨some 52, _, _, _, _, none⟩) (v := .int .i64 (N : Int)) rfl (by kernel_rfl) (by kernel_rfl) (by kernel_rfl) (fun _ _ _ h => h) (Or.inl ⟨by rfl, fun w' hSw => by clear hSw; go_simp⟩) hHeld ?_
    simp only [Act.put, List.setIfInBounds_toArray, List.set_cons_zero, List.set_cons_succ]
    refine wpAnyH_take (i := 17) (oi := ⟨some 55, _, _, _, _, none⟩) (v := .int .i64 P) rfl (by kernel_rfl) (by kernel_rfl) (by kernel_rfl) (fun _ _ _ h => h) (Or.inl ⟨by rfl, fun w' hSw => by clear hSw; go_simp⟩) hHeld ?_
    simp only [Act.put, List.setIfInBounds_toArray, List.set_cons_zero, List.set_cons_succ]
    refine wpAnyH_ready (rs := [2]) (by kernel_rfl) (by simp) ?_
    refine AllReadyH.cons (o := ⟨some 40, _, _, _, _, none⟩) rfl (fun K hK => ?_) AllReadyH.nil
    go_simp
    refine (HR1.out _ (HB3.out.trans (hHeld.1.mono HB3.out.size))).mono ?_
    rintro e w5 ⟨G, C, g, cap, rfl, hb5, p1, p2, p3, p4⟩
    refine hK.out _ _ (s_call hHeld hb5) (fun hHeld => ?_)
    refine wpAnyH_sharp (S' := fun w' => (Below w3.heap.size w3 w' ∧ w3.heap.size ≤ w'.heap.size) ∧ w'.cell? ⟨G, n, none⟩ = some (.slice (some ⟨g, 0, none⟩) M cap) ∧ w'.cell? ⟨g, P, none⟩ = some (.int .i64 y) ∧ G < w'.heap.size ∧ g < w'.heap.size) (fun _ h => h.1) _ _ _ _ ?_
    have hHeld : (Below w3.heap.size w3 w5 ∧ w3.heap.size ≤ w5.heap.size) ∧ w5.cell? ⟨G, n, none⟩ = some (.slice (some ⟨g, 0, none⟩) M cap) ∧ w5.cell? ⟨g, P, none⟩ = some (.int .i64 y) ∧ G < w5.heap.size ∧ g < w5.heap.size := ⟨hHeld, p1, p2, p3, p4⟩
    clear hK K p1 p2 p3 p4 hb5
    refine wpAnyH_take (i := 5) (oi := ⟨some 43, _, _, _, _, none⟩) (v := .pointer (some ⟨G, n, none⟩)) rfl (by kernel_rfl) (by kernel_rfl) (by kernel_rfl) (fun _ _ _ h => h) (Or.inl ⟨by rfl, fun w' hSw => by clear hSw; go_simp; intro hh; omega⟩) hHeld ?_
    simp only [Act.put, List.setIfInBounds_toArray, List.set_cons_zero, List.set_cons_succ]
    refine wpAnyH_take (i := 6) (oi := ⟨some 44, _, _, _, _, none⟩) (v := .slice (some ⟨g, 0, none⟩) M cap) rfl (by kernel_rfl) (by kernel_rfl) (by kernel_rfl) (fun _ _ _ h => h) (Or.inl ⟨by rfl, fun w' hSw => by obtain ⟨_, x1, x2, _, _⟩ := hSw; go_simp⟩) hHeld ?_
    simp only [Act.put, List.setIfInBounds_toArray, List.set_cons_zero, List.set_cons_succ]
    refine wpAnyH_take (i := 8) (oi := ⟨some 46, _, _, _, _, none⟩) (v := .pointer (some ⟨g, P, none⟩)) rfl (by kernel_rfl) (by kernel_rfl) (by kernel_rfl) (fun _ _ _ h => h) (Or.inl ⟨by rfl, fun w' hSw => by clear hSw; go_simp⟩) hHeld ?_
    simp only [Act.put, List.setIfInBounds_toArray, List.set_cons_zero, List.set_cons_succ]
    refine wpAnyH_take (i := 9) (oi := ⟨some 47, _, _, _, _, none⟩) (v := .int .i64 y) rfl (by kernel_rfl) (by kernel_rfl) (by kernel_rfl) (fun _ _ _ h => h) (Or.inl ⟨by rfl, fun w' hSw => by obtain ⟨_, x1, x2, _, _⟩ := hSw; go_simp⟩) hHeld ?_
    simp only [Act.put, List.setIfInBounds_toArray, List.set_cons_zero, List.set_cons_succ]
    refine wpAnyH_ready (rs := [12]) (by kernel_rfl) (by simp) ?_
    refine AllReadyH.cons (o := ⟨some 50, _, _, _, _, none⟩) rfl (fun K hK => ?_) AllReadyH.nil
    go_simp
    refine (HR2.out _ hHeld.1.1).mono ?_
    rintro e w6 ⟨G', C', g', cap', rfl, hb6, p1, p2, p3, p4⟩
    have hS6 := s_call hHeld.1 hb6
    refine hK.out _ _ ⟨hS6, (hb6.cell (p := ⟨G, n, none⟩) hHeld.2.2.2.1).trans hHeld.2.1, (hb6.cell (p := ⟨g, P, none⟩) hHeld.2.2.2.2).trans hHeld.2.2.1, Nat.lt_of_lt_of_le hHeld.2.2.2.1 hb6.size, Nat.lt_of_lt_of_le hHeld.2.2.2.2 hb6.size⟩ (fun _ => ?_)
    refine wpAnyH_sharp (S' := fun w' => w' = w6) (fun w' e => by subst e; exact ⟨hS6, (hb6.cell (p := ⟨G, n, none⟩) hHeld.2.2.2.1).trans hHeld.2.1, (hb6.cell (p := ⟨g, P, none⟩) hHeld.2.2.2.2).trans hHeld.2.2.1, Nat.lt_of_lt_of_le hHeld.2.2.2.1 hb6.size, Nat.lt_of_lt_of_le hHeld.2.2.2.2 hb6.size⟩) _ _ _ _ ?_
    have HB6 := hide hS6.1
    have hHeld : w6 = w6 := rfl
    clear hK K p3 p4 hb6 hS6
    refine wpAnyH_take (i := 15) (oi := ⟨some 53, _, _, _, _, none⟩) (v := .pointer (some ⟨G', N, none⟩)) rfl (by kernel_rfl) (by kernel_rfl) (by kernel_rfl) (fun _ _ _ h => h) (Or.inl ⟨by rfl, fun w' hSw => by subst hSw; go_simp; intro hh; omega⟩) hHeld ?_
    simp only [Act.put, List.setIfInBounds_toArray, List.set_cons_zero, List.set_cons_succ]
    refine wpAnyH_take (i := 16) (oi := ⟨some 54, _, _, _, _, none⟩) (v := .slice (some ⟨g', 0, none⟩) M cap') rfl (by kernel_rfl) (by kernel_rfl) (by kernel_rfl) (fun _ _ _ h => h) (Or.inl ⟨by rfl, fun w' hSw => by subst hSw; go_simp⟩) hHeld ?_
    simp only [Act.put, List.setIfInBounds_toArray, List.set_cons_zero, List.set_cons_succ]
    refine wpAnyH_take (i := 18) (oi := ⟨some 56, _, _, _, _, none⟩) (v := .pointer (some ⟨g', P, none⟩)) rfl (by kernel_rfl) (by kernel_rfl) (by kernel_rfl) (fun _ _ _ h => h) (Or.inl ⟨by rfl, fun w' hSw => by subst hSw; go_simp⟩) hHeld ?_
    simp only [Act.put, List.setIfInBounds_toArray, List.set_cons_zero, List.set_cons_succ]
    refine wpAnyH_take (i := 19) (oi := ⟨some 57, _, _, _, _, none⟩) (v := .int .i64 z) rfl (by kernel_rfl) (by kernel_rfl) (by kernel_rfl) (fun _ _ _ h => h) (Or.inl ⟨by rfl, fun w' hSw => by subst hSw; go_simp⟩) hHeld ?_
    simp only [Act.put, List.setIfInBounds_toArray, List.set_cons_zero, List.set_cons_succ]
    refine wpAnyH_take (i := 20) (oi := ⟨some 58, _, _, _, _, none⟩) (v := .int .i64 (y - z)) rfl (by kernel_rfl) (by kernel_rfl) (by kernel_rfl) (fun _ _ _ h => h) (Or.inl ⟨by rfl, fun w' hSw => by subst hSw; go_simp⟩) hHeld ?_
    simp only [Act.put, List.setIfInBounds_toArray, List.set_cons_zero, List.set_cons_succ]
    refine wpAnyH_take (i := 21) (oi := ⟨some 6, _, _, _, _, none⟩) (v := .int .i64 (y - z)) rfl (by kernel_rfl) (by kernel_rfl) (by kernel_rfl) (fun _ _ _ h => h) (Or.inl ⟨by rfl, fun w' hSw => by subst hSw; go_simp⟩) hHeld ?_
    simp only [Act.put, List.setIfInBounds_toArray, List.set_cons_zero, List.set_cons_succ]
    refine wpAnyH_take (i := 22) (oi := ⟨some 7, _, _, _, _, none⟩) (v := .bool true) rfl (by kernel_rfl) (by kernel_rfl) (by kernel_rfl) (fun _ _ _ h => h) (Or.inl ⟨by rfl, fun w' hSw => by subst hSw; go_simp⟩) hHeld ?_
    simp only [Act.put, List.setIfInBounds_toArray, List.set_cons_zero, List.set_cons_succ]
    refine wpAnyH_done (by kernel_rfl) ?_ _
    refine NoPanic.normal ?_
    have HBE : Hid (Below w.heap.size w w6) := hide (hb1.trans ((HB3.out.trans (HB6.out.mono HB3.out.size)).mono hb1.size))
    clear hHeld
    go_wp2_with fail
    go_ret2
    exact ⟨by rw [HY.out, HZ.out]; rfl, HBE.out⟩
  · have hck' : ¬ (c : Int) = (k : Int) + 1 := by omega
    obtain ⟨a2, c2, w2, a4, c4, w3, hr2, hr3, hb3, R4⟩ := rest_any (c := c) (c3 := (c - (k + 1))) (n3 := (n - (k + 1))) (a3 := some ⟨b, off + (k + 1), none⟩) HVAL.out hb2 HN.out (by omega) hk hN (HVAL.out.drop hb2) (rfl)
    have HR4 := hide R4
    have HB3 := hide hb3
    clear R4 hb3
    go_upto_region 4 with (at_builtin; refine Lib.wpList_append_run _ rfl _ _ _ _ rfl _ _ rfl rfl _ _ (hr2 _) ?_)
    clear hr2
    go_wp2_with (at_builtin; refine Lib.wpList_append_run _ rfl _ _ _ _ rfl _ _ rfl rfl _ _ (hr3 _) ?_)
    clear hr3
    have HR1 : Hid (∀ W, Below w1.heap.size w1 W → Calls Try.prog 33 #[.slice (some ⟨b, off, none⟩) n c, .int .i64 P] W fun e w' => ∃ G C g cap, e = .returned (.slice (some ⟨G, 0, none⟩) (n + 1) C) ∧ Below W.heap.size W w' ∧ w'.cell? ⟨G, n, none⟩ = some (.slice (some ⟨g, 0, none⟩) M cap) ∧ w'.cell? ⟨g, P, none⟩ = some (.int .i64 ((Of.tab L P).getD P 0)) ∧ G < w'.heap.size ∧ g < w'.heap.size) := hide fun W hW => (rows_any (d := c) HN.out HM.out hM' HG.out (HW1.out.below hW)).mono fun e w' ⟨G, C, gs, he, hb, q⟩ => by
      obtain ⟨g, cap, p1, p2, p3, p4⟩ := olast_cell HN.out HM.out q
      exact ⟨G, C, g, cap, he, hb, p1, p2, p3, p4⟩
    have HR2 : Hid (∀ W, Below w3.heap.size w3 W → Calls Try.prog 33 #[.slice a4 N c4, .int .i64 P] W fun e w' => ∃ G C g cap, e = .returned (.slice (some ⟨G, 0, none⟩) (N + 1) C) ∧ Below W.heap.size W w' ∧ w'.cell? ⟨G, N, none⟩ = some (.slice (some ⟨g, 0, none⟩) M cap) ∧ w'.cell? ⟨g, P, none⟩ = some (.int .i64 ((Of.tab (Of.drop L k) P).getD P 0)) ∧ G < w'.heap.size ∧ g < w'.heap.size) := hide fun W hW => (rows_any (d := c4) HDL.out HM.out hM' HDG.out (HR4.out.below hW)).mono fun e w' ⟨G, C, gs, he, hb, q⟩ => by
      obtain ⟨g, cap, p1, p2, p3, p4⟩ := olast_cell HDL.out HM.out q
      exact ⟨G, C, g, cap, he, hb, p1, p2, p3, p4⟩
    generalize hy : (Of.tab L P).getD P 0 = y at *
    have HY := hide hy
    generalize hz : (Of.tab (Of.drop L k) P).getD P 0 = z at *
    have HZ := hide hz
    have j0 : (0 : Int) ≤ (P : Int) := by omega
    have j1 : (P : Int) < (M : Int) := by have := HM.out; omega
    have j2 : ((n : Nat) : Int) < ((n + 1 : Nat) : Int) := by omega
    have j3 : (N : Int) < ((N + 1 : Nat) : Int) := by omega
    have j4 : IntKind.i64.wrap (y - z) = y - z := by rw [IntKind.wrap_i64]; omega
    clear hy hz
    refine wp_region_noPanic ?_
    refine wp_region_held_drew (S := fun w' => Below w3.heap.size w3 w' ∧ w3.heap.size ≤ w'.heap.size) (by kernel_rfl) ⟨(Below.refl _ _).drew, Nat.le_refl _⟩ (fun hHeld => ?_)
    refine wpAnyH_take (i := 0) (oi := ⟨some 38, _, _, _, _, none⟩) (v := .slice (some ⟨b, off, none⟩) n c) rfl (by kernel_rfl) (by kernel_rfl) (by kernel_rfl) (fun _ _ _ h => h) (Or.inl ⟨by rfl, fun w' hSw => by clear hSw; go_simp⟩) hHeld ?_
    simp only [Act.put, List.setIfInBounds_toArray, List.set_cons_zero, List.set_cons_succ]
    refine wpAnyH_take (i := 1) (oi := ⟨some 39, _, _, _, _, none⟩) (v := .int .i64 P) rfl (by kernel_rfl) (by kernel_rfl) (by kernel_rfl) (fun _ _ _ h => h) (Or.inl ⟨by rfl, fun w' hSw => by clear hSw; go_simp⟩) hHeld ?_
    simp only [Act.put, List.setIfInBounds_toArray, List.set_cons_zero, List.set_cons_succ]
    refine wpAnyH_take (i := 3) (oi := ⟨some 41, _, _, _, _, none⟩) (v := .slice (some ⟨b, off, none⟩) n c) rfl (by kernel_rfl) (by kernel_rfl) (by kernel_rfl) (fun _ _ _ h => h) (Or.inl ⟨by rfl, fun w' hSw => by clear hSw; go_simp⟩) hHeld ?_
    simp only [Act.put, List.setIfInBounds_toArray, List.set_cons_zero, List.set_cons_succ]
    refine wpAnyH_take (i := 4) (oi := ⟨some 42, _, _, _, _, none⟩) (v := .int .i64 ((n : Nat) : Int)) rfl (by kernel_rfl) (by kernel_rfl) (by kernel_rfl) (fun _ _ _ h => h) (Or.inl ⟨by rfl, fun w' hSw => by clear hSw; go_simp⟩) hHeld ?_
    simp only [Act.put, List.setIfInBounds_toArray, List.set_cons_zero, List.set_cons_succ]
    refine wpAnyH_take (i := 7) (oi := ⟨some 45, _, _, _, _, none⟩) (v := .int .i64 P) rfl (by kernel_rfl) (by kernel_rfl) (by kernel_rfl) (fun _ _ _ h => h) (Or.inl ⟨by rfl, fun w' hSw => by clear hSw; go_simp⟩) hHeld ?_
    simp only [Act.put, List.setIfInBounds_toArray, List.set_cons_zero, List.set_cons_succ]
    refine wpAnyH_take (i := 10) (oi := ⟨some 48, _, _, _, _, none⟩) (v := .slice a4 N c4) rfl (by kernel_rfl) (by kernel_rfl) (by kernel_rfl) (fun _ _ _ h => h) (Or.inl ⟨by rfl, fun w' hSw => by clear hSw; go_simp⟩) hHeld ?_
    simp only [Act.put, List.setIfInBounds_toArray, List.set_cons_zero, List.set_cons_succ]
    refine wpAnyH_take (i := 11) (oi := ⟨some 49, _, _, _, _, none⟩) (v := .int .i64 P) rfl (by kernel_rfl) (by kernel_rfl) (by kernel_rfl) (fun _ _ _ h => h) (Or.inl ⟨by rfl, fun w' hSw => by clear hSw; go_simp⟩) hHeld ?_
    simp only [Act.put, List.setIfInBounds_toArray, List.set_cons_zero, List.set_cons_succ]
    refine wpAnyH_take (i := 13) (oi := ⟨some 51, _, _, _, _, none⟩) (v := .slice a4 N c4) rfl (by kernel_rfl) (by kernel_rfl) (by kernel_rfl) (fun _ _ _ h => h) (Or.inl ⟨by rfl, fun w' hSw => by clear hSw; go_simp⟩) hHeld ?_
    simp only [Act.put, List.setIfInBounds_toArray, List.set_cons_zero, List.set_cons_succ]
    refine wpAnyH_take (i := 14) (oi := ⟨some 52, _, _, _, _, none⟩) (v := .int .i64 (N : Int)) rfl (by kernel_rfl) (by kernel_rfl) (by kernel_rfl) (fun _ _ _ h => h) (Or.inl ⟨by rfl, fun w' hSw => by clear hSw; go_simp⟩) hHeld ?_
    simp only [Act.put, List.setIfInBounds_toArray, List.set_cons_zero, List.set_cons_succ]
    refine wpAnyH_take (i := 17) (oi := ⟨some 55, _, _, _, _, none⟩) (v := .int .i64 P) rfl (by kernel_rfl) (by kernel_rfl) (by kernel_rfl) (fun _ _ _ h => h) (Or.inl ⟨by rfl, fun w' hSw => by clear hSw; go_simp⟩) hHeld ?_
    simp only [Act.put, List.setIfInBounds_toArray, List.set_cons_zero, List.set_cons_succ]
    refine wpAnyH_ready (rs := [2]) (by kernel_rfl) (by simp) ?_
    refine AllReadyH.cons (o := ⟨some 40, _, _, _, _, none⟩) rfl (fun K hK => ?_) AllReadyH.nil
    go_simp
    refine (HR1.out _ (HB3.out.trans (hHeld.1.mono HB3.out.size))).mono ?_
    rintro e w5 ⟨G, C, g, cap, rfl, hb5, p1, p2, p3, p4⟩
    refine hK.out _ _ (s_call hHeld hb5) (fun hHeld => ?_)
    refine wpAnyH_sharp (S' := fun w' => (Below w3.heap.size w3 w' ∧ w3.heap.size ≤ w'.heap.size) ∧ w'.cell? ⟨G, n, none⟩ = some (.slice (some ⟨g, 0, none⟩) M cap) ∧ w'.cell? ⟨g, P, none⟩ = some (.int .i64 y) ∧ G < w'.heap.size ∧ g < w'.heap.size) (fun _ h => h.1) _ _ _ _ ?_
    have hHeld : (Below w3.heap.size w3 w5 ∧ w3.heap.size ≤ w5.heap.size) ∧ w5.cell? ⟨G, n, none⟩ = some (.slice (some ⟨g, 0, none⟩) M cap) ∧ w5.cell? ⟨g, P, none⟩ = some (.int .i64 y) ∧ G < w5.heap.size ∧ g < w5.heap.size := ⟨hHeld, p1, p2, p3, p4⟩
    clear hK K p1 p2 p3 p4 hb5
    refine wpAnyH_take (i := 5) (oi := ⟨some 43, _, _, _, _, none⟩) (v := .pointer (some ⟨G, n, none⟩)) rfl (by kernel_rfl) (by kernel_rfl) (by kernel_rfl) (fun _ _ _ h => h) (Or.inl ⟨by rfl, fun w' hSw => by clear hSw; go_simp; intro hh; omega⟩) hHeld ?_
    simp only [Act.put, List.setIfInBounds_toArray, List.set_cons_zero, List.set_cons_succ]
    refine wpAnyH_take (i := 6) (oi := ⟨some 44, _, _, _, _, none⟩) (v := .slice (some ⟨g, 0, none⟩) M cap) rfl (by kernel_rfl) (by kernel_rfl) (by kernel_rfl) (fun _ _ _ h => h) (Or.inl ⟨by rfl, fun w' hSw => by obtain ⟨_, x1, x2, _, _⟩ := hSw; go_simp⟩) hHeld ?_
    simp only [Act.put, List.setIfInBounds_toArray, List.set_cons_zero, List.set_cons_succ]
    refine wpAnyH_take (i := 8) (oi := ⟨some 46, _, _, _, _, none⟩) (v := .pointer (some ⟨g, P, none⟩)) rfl (by kernel_rfl) (by kernel_rfl) (by kernel_rfl) (fun _ _ _ h => h) (Or.inl ⟨by rfl, fun w' hSw => by clear hSw; go_simp⟩) hHeld ?_
    simp only [Act.put, List.setIfInBounds_toArray, List.set_cons_zero, List.set_cons_succ]
    refine wpAnyH_take (i := 9) (oi := ⟨some 47, _, _, _, _, none⟩) (v := .int .i64 y) rfl (by kernel_rfl) (by kernel_rfl) (by kernel_rfl) (fun _ _ _ h => h) (Or.inl ⟨by rfl, fun w' hSw => by obtain ⟨_, x1, x2, _, _⟩ := hSw; go_simp⟩) hHeld ?_
    simp only [Act.put, List.setIfInBounds_toArray, List.set_cons_zero, List.set_cons_succ]
    refine wpAnyH_ready (rs := [12]) (by kernel_rfl) (by simp) ?_
    refine AllReadyH.cons (o := ⟨some 50, _, _, _, _, none⟩) rfl (fun K hK => ?_) AllReadyH.nil
    go_simp
    refine (HR2.out _ hHeld.1.1).mono ?_
    rintro e w6 ⟨G', C', g', cap', rfl, hb6, p1, p2, p3, p4⟩
    have hS6 := s_call hHeld.1 hb6
    refine hK.out _ _ ⟨hS6, (hb6.cell (p := ⟨G, n, none⟩) hHeld.2.2.2.1).trans hHeld.2.1, (hb6.cell (p := ⟨g, P, none⟩) hHeld.2.2.2.2).trans hHeld.2.2.1, Nat.lt_of_lt_of_le hHeld.2.2.2.1 hb6.size, Nat.lt_of_lt_of_le hHeld.2.2.2.2 hb6.size⟩ (fun _ => ?_)
    refine wpAnyH_sharp (S' := fun w' => w' = w6) (fun w' e => by subst e; exact ⟨hS6, (hb6.cell (p := ⟨G, n, none⟩) hHeld.2.2.2.1).trans hHeld.2.1, (hb6.cell (p := ⟨g, P, none⟩) hHeld.2.2.2.2).trans hHeld.2.2.1, Nat.lt_of_lt_of_le hHeld.2.2.2.1 hb6.size, Nat.lt_of_lt_of_le hHeld.2.2.2.2 hb6.size⟩) _ _ _ _ ?_
    have HB6 := hide hS6.1
    have hHeld : w6 = w6 := rfl
    clear hK K p3 p4 hb6 hS6
    refine wpAnyH_take (i := 15) (oi := ⟨some 53, _, _, _, _, none⟩) (v := .pointer (some ⟨G', N, none⟩)) rfl (by kernel_rfl) (by kernel_rfl) (by kernel_rfl) (fun _ _ _ h => h) (Or.inl ⟨by rfl, fun w' hSw => by subst hSw; go_simp; intro hh; omega⟩) hHeld ?_
    simp only [Act.put, List.setIfInBounds_toArray, List.set_cons_zero, List.set_cons_succ]
    refine wpAnyH_take (i := 16) (oi := ⟨some 54, _, _, _, _, none⟩) (v := .slice (some ⟨g', 0, none⟩) M cap') rfl (by kernel_rfl) (by kernel_rfl) (by kernel_rfl) (fun _ _ _ h => h) (Or.inl ⟨by rfl, fun w' hSw => by subst hSw; go_simp⟩) hHeld ?_
    simp only [Act.put, List.setIfInBounds_toArray, List.set_cons_zero, List.set_cons_succ]
    refine wpAnyH_take (i := 18) (oi := ⟨some 56, _, _, _, _, none⟩) (v := .pointer (some ⟨g', P, none⟩)) rfl (by kernel_rfl) (by kernel_rfl) (by kernel_rfl) (fun _ _ _ h => h) (Or.inl ⟨by rfl, fun w' hSw => by subst hSw; go_simp⟩) hHeld ?_
    simp only [Act.put, List.setIfInBounds_toArray, List.set_cons_zero, List.set_cons_succ]
    refine wpAnyH_take (i := 19) (oi := ⟨some 57, _, _, _, _, none⟩) (v := .int .i64 z) rfl (by kernel_rfl) (by kernel_rfl) (by kernel_rfl) (fun _ _ _ h => h) (Or.inl ⟨by rfl, fun w' hSw => by subst hSw; go_simp⟩) hHeld ?_
    simp only [Act.put, List.setIfInBounds_toArray, List.set_cons_zero, List.set_cons_succ]
    refine wpAnyH_take (i := 20) (oi := ⟨some 58, _, _, _, _, none⟩) (v := .int .i64 (y - z)) rfl (by kernel_rfl) (by kernel_rfl) (by kernel_rfl) (fun _ _ _ h => h) (Or.inl ⟨by rfl, fun w' hSw => by subst hSw; go_simp⟩) hHeld ?_
    simp only [Act.put, List.setIfInBounds_toArray, List.set_cons_zero, List.set_cons_succ]
    refine wpAnyH_take (i := 21) (oi := ⟨some 6, _, _, _, _, none⟩) (v := .int .i64 (y - z)) rfl (by kernel_rfl) (by kernel_rfl) (by kernel_rfl) (fun _ _ _ h => h) (Or.inl ⟨by rfl, fun w' hSw => by subst hSw; go_simp⟩) hHeld ?_
    simp only [Act.put, List.setIfInBounds_toArray, List.set_cons_zero, List.set_cons_succ]
    refine wpAnyH_take (i := 22) (oi := ⟨some 7, _, _, _, _, none⟩) (v := .bool true) rfl (by kernel_rfl) (by kernel_rfl) (by kernel_rfl) (fun _ _ _ h => h) (Or.inl ⟨by rfl, fun w' hSw => by subst hSw; go_simp⟩) hHeld ?_
    simp only [Act.put, List.setIfInBounds_toArray, List.set_cons_zero, List.set_cons_succ]
    refine wpAnyH_done (by kernel_rfl) ?_ _
    refine NoPanic.normal ?_
    have HBE : Hid (Below w.heap.size w w6) := hide (hb1.trans ((HB3.out.trans (HB6.out.mono HB3.out.size)).mono hb1.size))
    clear hHeld
    go_wp2_with fail
    go_ret2
    exact ⟨by rw [HY.out, HZ.out]; rfl, HBE.out⟩
end Go.Proofs.Ytdlpbemjbmgbeaa
