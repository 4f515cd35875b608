/-
  fillRow of the program, walked.
-/
import Derived.Test.YtdlpbemjbmgbeaaCi
namespace Go.Proofs.Ytdlpbemjbmgbeaa
open Go.RowKit

set_option maxRecDepth 100000 in
set_option maxHeartbeats 8000000 in
theorem fr_any {a : Option Addr} {n c d R M P base : Nat} {L : List (List Int)} {old : List Int} {w : World} (hn : L.length = n) (hM : P + 1 = M) (hM' : M ≤ 1000) (hg : Of.offersB L = true) (hL : ORowX R w a L)
    (own : w.ownsRow base 3 1 (.slice (some ⟨R, 0, none⟩) M c) M (ints old)) :
    Calls Try.prog 28 #[.slice (some ⟨R, 0, none⟩) M c, .slice a n d] w fun e w' => ∃ G, e = .returned (.slice (some ⟨G, 0, none⟩) n n) ∧ w.grownBy w' (some R) ∧ w'.ownsRow base 3 1 (.slice (some ⟨R, 0, none⟩) M c) M (ints (Of.tab L P)) ∧ ORow w' (some ⟨G, 0, none⟩) (tabs L P) := by
  obtain ⟨wc, hclr, ownc, hgc⟩ := run_clear_own (by omega) own
  have h12 := Of.offersB_len hg
  rw [hn] at h12
  have hmk := makeR_run n (by omega)
  have hmi := makeI_run M (by omega)
  have hRlt := (own.lt R rfl)
  have HN := hide hn
  have HG := hide hg
  have HL := hide hL
  have hszc : w.heap.size ≤ wc.heap.size := hgc.size
  have HF : Hid (FR w (wc.alloc (.cells (madeCells #[.slice none 0 0] n) 26)) base R M c wc.heap.size P n [] L 0 (Of.tab (L.take 0) P)) := hide (by
    have hb := o_below_new wc (.cells (madeCells #[.slice none 0 0] n) 26)
    refine ⟨?_, ⟨rfl, owns_low (madeR_own wc n (by omega) [] (tabs L P)) hszc, fun i hi => absurd hi (Nat.not_lt_zero _), by simp, by simp⟩, grown_trans hgc (below_grown _ hb)⟩
    rw [List.take_zero, Of.tab_nil, hM]
    exact o_own ownc hb)
  have HTL : Hid (∀ k, (Of.tab (L.take k) P).length = M) := hide fun k => by rw [Of.tab_len, hM]
  have HTT : Hid (∀ k, k < n → (tabs L P).getD k [] = Of.tab (L.take k) P) := hide fun k hk => tabs_at L P (by omega)
  clear hL own hn hg ownc hgc
  go_enter Try.func28, Try.ntmps28
  go_wp2_with (first | (at_builtin; refine wpList_clear_run _ rfl _ _ rfl _ rfl _ _ (hclr _) ?_))
  go_loopw [6, 7, 8, 9, 16] (fun _ _ _ _ s wr => ∃ (k : Nat) (gs : List Nat), s = .int .i64 k ∧ k ≤ n ∧ Hid (FR w wr base R M c wc.heap.size P n gs L k (Of.tab (L.take k) P))) (fun _ _ _ _ s _ => n - (intOf s).toNat)
  case atStart => exact ⟨0, [], rfl, Nat.zero_le _, HF⟩
  case round =>
    obtain ⟨k, gs, rfl, hk, HK⟩ := hrel
    clear HF
    by_cases hlt : k < n
    · obtain ⟨b, off, ai, ci, rfl, hb, r1, R1⟩ := (HL.out.grown HK.out.grown).at (i := k) (by rw [HN.out]; exact hlt)
      have i0' : (0 : Int) ≤ (k : Int) := by omega
      have i1' : (k : Int) < (n : Int) := by omega
      have ho := Of.offersB_at HG.out k
      have HO := hide ho
      have HRB := hide (Of.tab_bd12 HG.out P k)
      have HST : Hid (Of.tab (L.take (k + 1)) P = Of.step (L.getD k []) (Of.tab (L.take k) P)) := hide (Of.tab_take L P (by rw [HN.out]; exact hlt))
      -- the offer's own variable, the list ahead
      obtain ⟨wd, hcp, ownG, hgd⟩ := copy_own (w := (wr.alloc (.cells #[.slice ai (L.getD k []).length ci] 36)).alloc (.cells (madeCells #[.int .i64 0] M) 3)) (base := wr.heap.size) (base' := base) (G := wr.heap.size + 1) (HTL.out k) (ys := List.replicate M 0)
        (o_own (o_own HK.out.row (o_below_new _ _)) (o_below_new _ _)) (by
          have h1 := made_own (wr.alloc (.cells #[.slice ai (L.getD k []).length ci] 36)) M (by omega)
          rw [World.size_alloc] at h1
          exact owns_low h1 (by omega))
      have hbd : Below (wr.heap.size + 1) (wr.alloc (.cells #[.slice ai (L.getD k []).length ci] 36)) wd := by
        have h1 := o_below_new (wr.alloc (.cells #[.slice ai (L.getD k []).length ci] 36)) (.cells (madeCells #[.int .i64 0] M) 3)
        have h2 := grown_below' (k := wr.heap.size + 1) hgd (Nat.le_refl _) (by simp)
        simp only [World.size_alloc] at h1
        exact h1.trans h2
      have hbw : Below wr.heap.size wr wd := (o_below_new wr (.cells #[.slice ai (L.getD k []).length ci] 36)).trans (hbd.mono (by omega))
      have c7 : wd.cell? ⟨wr.heap.size, 0, none⟩ = some (.slice ai (L.getD k []).length ci) := (hbd.cell (p := ⟨wr.heap.size, 0, none⟩) (by show wr.heap.size < _; omega)).trans (by simp [go_sem])
      have hzd : wr.heap.size + 1 < wd.heap.size := by have := hgd.size; simp at this; omega
      have HKd := hide (HK.out.below hbw)
      have HFI : Hid (FI wd wr.heap.size R M (L.getD k []).length ci ai (L.getD k []) (Of.tab (L.take k) P)) := hide ⟨ownG, c7, R1.grown (below_grown _ hbw), hzd⟩
      have hRV : R < wr.heap.size := Nat.lt_of_lt_of_le hRlt.2 HK.out.grown.size
      have hwV : w.heap.size ≤ wr.heap.size := HK.out.grown.size
      have HGS : Hid (∀ x ∈ gs, x < wr.heap.size) := hide fun x hx => (HK.out.rows.lt hx).2
      have hGV : wc.heap.size < wr.heap.size := (HK.out.rows.2.1.lt _ rfl).2
      clear ownG hgd hbd R1 c7 hzd hbw HK
      have HTK := hide (HTT.out k hlt)
      have hol := HTL.out k
      have hnl := HTL.out (k + 1)
      have HMX : Hid (∀ t, t < M → (Of.tab (L.take (k + 1)) P).getD t 0 = Of.best (L.getD k []) (Of.tab (L.take k) P) t) := hide fun t ht => by rw [HST.out, Of.step_at _ _ (by rw [hol]; exact ht)]
      generalize L.getD k [] = o at *
      generalize hmm : o.length = m at *
      have HMM := hide hmm
      generalize Of.tab (L.take k) P = old at *
      generalize hnew : Of.tab (L.take (k + 1)) P = new at *
      have HNW := hide hnew
      clear hnew
      have HOL := hide hol
      have HNL := hide hnl
      clear hmk hmm hol hnl HST
      go_wp2_with (first | (at_builtin; refine wpList_copy_runX _ rfl _ _ _ _ rfl _ _ rfl rfl _ _ (hcp _) ?_))
      clear hcp hmi
      generalize wr.heap.size = V at *
      go_loopw [9, 29] (fun _ s wi => ∃ (t : Nat), s = .int .i64 t ∧ t ≤ M ∧ Hid (FR w wi base R M c wc.heap.size P n gs L k (mix new old t)) ∧ Hid (FI wi V R M m ci ai o old)) (fun _ s _ => M - (intOf s).toNat)
      case atStart => exact ⟨0, rfl, Nat.zero_le _, hide (by rw [mix_zero]; exact HKd.out), HFI⟩
      case round =>
        obtain ⟨t, rfl, ht, HK, HI⟩ := hrel
        clear HKd HFI
        by_cases htm : t < M
        · have t0' : (0 : Int) ≤ (t : Int) := by omega
          have t1' : (t : Int) < (M : Int) := by omega
          have c7 := HI.out.off
          have HSW := hide (sw_any (c := ci) (d := M) (p := t) HMM.out HOL.out HO.out HRB.out htm hM' HI.out.lst.row (arow_owns HOL.out.symm HI.out.ahead))
          have HMT := hide (HMX.out t htm)
          go_wp2_with fail
          refine HSW.out.mono ?_
          rintro e w1 ⟨g1, cap1, rfl, own1, hb1⟩
          have HK1 := hide (HK.out.below hb1)
          have HI1 := hide (HI.out.grown (below_grown _ hb1) hRV)
          have HR1 := hide (arow_owns (by rw [Of.sums_len, HMM.out]) own1)
          have c0 : w1.cell? ⟨R, t, none⟩ = some (.int .i64 ((mix new old t).getD t 0)) := by
            rw [HK1.out.row.cellAt t (by omega), ints_get _ t (by rw [mix_len, HOL.out]; exact htm)]
          have f0 := HK1.out.row.frozenAt t
          clear own1 hb1 HSW c7
          go_wp2_with fail
          refine (mx_any (by rw [Of.sums_len, HMM.out]) (by omega) (by omega) HR1.out).mono ?_
          rintro e w2 ⟨rfl, hw⟩
          obtain rfl : w1 = w2 := hw.symm
          rw [Of.max_sums, ← HMT.out]
          have HK2 := hide (HK1.out.store hRlt.2 (mix_set (new := new) (old := old) (t := t)))
          have HI2 := hide (HI1.out.grown (HK1.out.row.stored t (.int .i64 (new.getD t 0))).2 hRV)
          generalize new.getD t 0 = x at *
          clear HR1 HK1 HI1 HMT
          go_wp2_with fail
          go_roundw
          case rel => exact ⟨t + 1, by go_num, by omega, HK2, HI2⟩
          case measure => simp only [intOf]; omega
        · have hte : t = M := by omega
          have HE := HK.out
          rw [hte, mix_all (by rw [HOL.out, HNL.out]) HOL.out] at HE
          have HP := hide (HE.put hRlt.2 hwV (fun x hx => by have := HGS.out x hx; omega) (g := V + 1) (by omega) (by rw [HTK.out]; exact HI.out.ahead) (by rw [HTK.out]; exact HOL.out))
          have c0 : wr.cell? ⟨wc.heap.size, k, none⟩ = some (.slice none 0 0) := by
            rw [HE.rows.2.1.cellAt k (by omega)]
            simp [ovals, hlt]
          have f0 := HE.rows.2.1.frozenAt k
          clear HE hte
          go_wp2_with fail
          go_roundw
          case rel => exact ⟨k + 1, gs ++ [V + 1], by go_num, by omega, hide (by rw [HNW.out]; exact HP.out)⟩
          case measure => simp only [intOf]; omega
    · have hke : k = n := by omega
      subst hke
      have HD := hide (HK.out.done HN.out)
      have HE := HK.out
      have e1 : L.take k = L := List.take_of_length_le (by rw [HN.out]; exact Nat.le_refl _)
      rw [e1] at HE
      have HE' := hide HE
      clear HE e1 hmk hmi
      go_wp2_with fail
      go_ret
      exact ⟨wc.heap.size, rfl, HE'.out.grown, HE'.out.row, HD.out⟩
end Go.Proofs.Ytdlpbemjbmgbeaa
