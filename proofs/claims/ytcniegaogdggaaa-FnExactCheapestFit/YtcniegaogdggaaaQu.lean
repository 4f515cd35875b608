/-
  Regions that draw their order and hold calls that make memory, walked once, where each call's answer hangs on no address; what PricesHold answers.
-/
import Derived.Test.YtcniegaogdggaaaQt
import Derived.Test.YtcniegaogdggaaaQq
import Derived.Shelf.Abstract
namespace Go.Proofs.Ytcniegaogdggaaa
open Go.RowKit

theorem q_val {P : Program} {ops : Array Oper} {C : World → Prop} {Q : Act → Prop} {a : Act} {o : Oper} {rest : List Oper} (hgd : o.guard = none) (v : Value) (h : ∀ w, C w → (execOp a.eval o).run P w = .ok (.value v) w) (hk : wpQuiet P ops C Q rest (a.put o.dst v)) : wpQuiet P ops C Q (o :: rest) a :=
  wpQuiet_step fun K hK => by
    rw [if_pos (by simp [Region.wanted, hgd])]
    exact ⟨v, fun w hw => by unfold Oper.quietAt; rw [h w hw]; exact ⟨rfl, rfl⟩, hK _ hk⟩
theorem q_call {P : Program} {ops : Array Oper} {C : World → Prop} {Q : Act → Prop} {a : Act} {o : Oper} {rest : List Oper} (hgd : o.guard = none) (f : FuncId) (args : Array Value) (v : Value) (hr : ∀ w, (execOp a.eval o).run P w = .ok (.enter f args) w)
    (h : ∀ w, C w → Calls P f args w fun e w' => e = .returned v ∧ C w') (hk : wpQuiet P ops C Q rest (a.put o.dst v)) : wpQuiet P ops C Q (o :: rest) a :=
  wpQuiet_step fun K hK => by
    rw [if_pos (by simp [Region.wanted, hgd])]
    exact ⟨v, fun w hw => by unfold Oper.quietAt; rw [hr w]; exact ⟨rfl, h w hw⟩, hK _ hk⟩
theorem q_move {P : Program} {ops : Array Oper} {C : World → Prop} {Q : Act → Prop} {a : Act} {o : Oper} {rest : List Oper} (hgd : o.guard = none) (x : Operand) (ho : o.op = .move x) (v : Value) (hv : a.eval x = v) (hk : wpQuiet P ops C Q rest (a.put o.dst v)) : wpQuiet P ops C Q (o :: rest) a :=
  q_val hgd v (fun w _ => by unfold execOp; simp only [ho, hv]; rfl) hk
theorem q_assign {P : Program} {ops : Array Oper} {C : World → Prop} {Q : Act → Prop} {a : Act} {o : Oper} {rest : List Oper} (hgd : o.guard = none) (x : Operand) (ho : o.op = .assign x) (v : Value) (hv : a.eval x = v) (hk : wpQuiet P ops C Q rest (a.put o.dst v)) : wpQuiet P ops C Q (o :: rest) a :=
  q_val hgd v (fun w _ => by unfold execOp; simp only [ho, hv]; rfl) hk
theorem q_row {ops : Array Oper} {C : World → Prop} {Q : Act → Prop} {a : Act} {o : Oper} {rest : List Oper} {b : Nat} {xs : List Int} (hgd : o.guard = none) (x : Operand) (ho : o.op = .load 65 x) (hx : a.eval x = .pointer (some ⟨b, 0, none⟩)) (h : ∀ w, C w → R10 w b xs)
    (hk : wpQuiet Try.prog ops C Q rest (a.put o.dst (.agg (tv xs)))) : wpQuiet Try.prog ops C Q (o :: rest) a :=
  q_val hgd _ (fun w hw => by
    unfold execOp
    simp only [ho, hx, Sem.run_bind, (h w hw).loads, Result.andThen_ok, Sem.run_pure]) hk
theorem q_neqrow {ops : Array Oper} {C : World → Prop} {Q : Act → Prop} {a : Act} {o : Oper} {rest : List Oper} {xs ys : List Int} {t' : TypeId} {r : Bool} (hgd : o.guard = none) (x y : Operand) (ho : o.op = .binOp .neq 65 x y t') (hx : a.eval x = .agg (tv xs)) (hy : a.eval y = .agg (tv ys)) (h1 : xs.length = 10) (h2 : ys.length = 10)
    (hr : ((List.range 10).all fun i => xs.getD i 0 == ys.getD i 0) = r) (hk : wpQuiet Try.prog ops C Q rest (a.put o.dst (.bool (!r)))) : wpQuiet Try.prog ops C Q (o :: rest) a :=
  q_val hgd _ (fun w _ => by
    unfold execOp
    simp only [ho, hx, hy, Sem.run_bind, neqg_tv, neq_tv xs ys w h1 h2 hr, Result.andThen_ok, Sem.run_pure]) hk
theorem enter_value {P : Program} {a : Act} {o : Oper} (f : FuncId) (xs : Array Operand) (ts : Array TypeId) (ho : o.op = .call { callee := .value (.func f), args := xs, argTypes := ts }) (args : Array Value) (ha : xs.map a.eval = args) (hf : ∀ args w, (callFunc f args).run P w = .ok (.enter f args) w) (w : World) : (execOp a.eval o).run P w = .ok (.enter f args) w := by
  unfold execOp
  simp [ho, resolve, ha, invoke, Deferred.ofValue, Act.eval, hf]
theorem below_in {w w1 w2 : World} (h : Below w.heap.size w w1) (hb : Below w1.heap.size w1 w2) : Below w.heap.size w w2 := h.trans (hb.mono h.size)
set_option maxHeartbeats 4000000 in
theorem ph_yes {e a b : Option Addr} {l f c d : Nat} {C : List (List Int)} {us vs : List Int} {w : World} (hg : Hu.bothB C us vs = true) (hl : C.length = l) (hn : us.length = l) (hm : vs.length = l) (hc : CRow w e C) (ha : ARow w a us) (hb : ARow w b vs) :
    Calls Try.prog 29 #[.slice e l f, .agg #[.slice a l c, .slice b l d]] w fun e w' => e = .returned (.tuple #[.bool (Hu.holdB C us vs), .bool true]) ∧ Below w.heap.size w w' := by
  obtain ⟨g1, g2, g3⟩ := Hu.bothB_yes hg
  obtain ⟨g4, g5, g6, g7⟩ := Hu.prB_yes g2
  have gl := Hu.costB_len g1
  rw [hl] at gl
  obtain ⟨l1, l10⟩ := gl
  have bn := below_new w (.cells #[.slice a l c, .slice b l d] 29)
  have HC := hide (hc.below bn)
  have HA := hide (ha.below bn)
  have HB := hide (hb.below bn)
  have HL := hide hl
  have HN := hide hn
  have HM := hide hm
  have HG := hide hg
  have HBP := hide fun (W : World) (i : Nat) (hi : i < l) (r1 : ARow W a us) (r2 : ARow W b vs) => bp_any (c := c) (d := d) hn hm l1 l10 hi g6 g7 r1 r2
  have HCL := hide fun (i : Nat) (hi : i < l) => (Hu.costB_row g1 (show i < C.length by rw [hl]; exact hi)).1.trans hl
  have HRS := hide fun (i : Nat) (hi : i < l) => Hu.row_same hg (show i < C.length by rw [hl]; exact hi)
  have HNO : Hid (∀ i, i < l → Hu.rowHold C us vs i = false → Hu.holdB C us vs = false) := hide fun i hi h => by
    cases e : Hu.holdB C us vs
    · rfl
    · rw [Hu.holdB_rows, List.all_eq_true] at e
      rw [e i (List.mem_range.2 (by omega))] at h; cases h
  have HYES : Hid ((∀ i, i < l → Hu.rowHold C us vs i = true) → Hu.holdB C us vs = true) := hide fun h => by
    rw [Hu.holdB_rows, List.all_eq_true]
    intro i hi
    exact h i (by have := List.mem_range.1 hi; omega)
  have eRo : ∀ args w, (callFunc 51 args).run Try.prog w = .ok (.enter 51 args) w := enters_of Try.func51 (by kernel_rfl) rfl
  have eLe : ∀ args w, (callFunc 50 args).run Try.prog w = .ok (.enter 50 args) w := enters_of Try.func50 (by kernel_rfl) rfl
  have ERo := hide eRo
  have ELe := hide eLe
  generalize Hu.holdB C us vs = G at *
  clear hc ha hb hl hn hm hg g1 g2 g3 g4 g5 g6 g7 bn eRo eLe
  go_enter Try.func29, Try.ntmps29
  go_wp2_with fail
  refine (bo_eq HL HN HM HC HA HB HG).mono ?_
  rintro e w1 ⟨rfl, hb1⟩
  have HB1 := hide ((below_new w (.cells #[.slice a l c, .slice b l d] 29)).trans (hb1.mono (by simp)))
  have HP1 := hide ((PBox.new w (.slice a l c) (.slice b l d) 29).below hb1)
  have HC1 := hide (HC.out.below hb1)
  have HA1 := hide (HA.out.below hb1)
  have HV1 := hide (HB.out.below hb1)
  clear hb1 HC HA HB
  go_wp2_with fail
  go_loopw [4, 5, 6, 7, 8, 15] (fun s4 s5 _ _ _ s wr => ∃ (k : Nat), s4 = .bool false ∧ s5 = .bool false ∧ s = .int .i64 k ∧ k ≤ l ∧ Hid (∀ i, i < k → Hu.rowHold C us vs i = true) ∧ Hid (Below w1.heap.size w1 wr)) (fun _ _ _ _ _ s _ => l - (intOf s).toNat)
  case atStart => exact ⟨0, rfl, rfl, rfl, Nat.zero_le _, hide fun i hi => absurd hi (Nat.not_lt_zero _), hide (Below.refl _ _)⟩
  case round =>
    obtain ⟨k, rfl, rfl, rfl, hk, HK, HBr⟩ := hrel
    by_cases hlt : k < l
    · obtain ⟨b1, off, ai, ci, rfl, hb, r1, R1⟩ := (HC1.out.below HBr.out).at (i := k) (by rw [HL.out]; exact hlt)
      have HR := hide R1
      have HCk := hide (HCL.out k hlt)
      rw [HCL.out k hlt] at r1
      obtain ⟨p0, p1, p2⟩ := HP1.out.below HBr.out
      have j0 : (0 : Int) ≤ (k : Int) := by omega
      have j1 : (k : Int) < (l : Int) := by omega
      clear R1
      go_wp2_with fail
      refine (HBP.out _ k hlt (HA1.out.below HBr.out) (HV1.out.below HBr.out)).mono ?_
      rintro e w2 ⟨rfl, hb2⟩
      have HB2 := hide hb2
      clear hb2
      go_wp2_with (refine wr_store rfl _ _ rfl rfl rfl (hide (z10_new _ _)) (Hu.bothR_len _ _ _) ?_; intro w3 A3 T3)
      have hb3 := (below_new w2 _).trans (T3.2.1 _ (Nat.le_refl _))
      have HB3 := hide (below_in HB2.out hb3)
      have HA3 := hide A3
      clear A3 T3 hb3
      have HCR : Hid (∀ w', Below w3.heap.size w3 w' → Calls Try.prog 51 #[.slice ai l ci] w' fun e w'' => e = .returned (.agg (tv (Hu.pad (C.getD k [])))) ∧ Below w3.heap.size w3 w'') := hide fun w' hw' => (ro_any HCk.out l1 l10 (HR.out.below (below_in HB3.out hw'))).mono fun e w'' h => ⟨h.1, below_in hw' h.2⟩
      have HCL2 : Hid (∀ w', Below w3.heap.size w3 w' → Calls Try.prog 50 #[.agg (tv (Hu.bothR us vs k)), .agg (tv (Hu.pad (C.getD k [])))] w' fun e w'' => e = .returned (.agg (tv (Hu.minR (Hu.bothR us vs k) (Hu.pad (C.getD k []))))) ∧ Below w3.heap.size w3 w'') := hide fun w' hw' => (le_any (Hu.bothR_len _ _ _) (Hu.pad_len _)).mono fun e w'' h => ⟨h.1, below_in hw' h.2⟩
      have HCA : Hid (∀ w', Below w3.heap.size w3 w' → R10 w' w2.heap.size (Hu.bothR us vs k)) := hide fun w' hw' => HA3.out.below hw'
      cases hrh : Hu.rowHold C us vs k
      · have HRH := hide ((HRS.out k hlt).trans hrh)
        have HN1 := hide (HNO.out k hlt hrh)
        clear hrh
        refine wp_region_quiet (C := fun w' => Below w3.heap.size w3 w') (by kernel_rfl) (by kernel_rfl) ((Below.refl _ _).drew) ?_
        refine q_row rfl _ rfl (by simp [go_sem]) HCA.out ?_
        refine q_move rfl _ rfl (.slice ai l ci) (by simp [go_sem]) ?_
        refine q_call rfl 51 #[.slice ai l ci] _ (enter_value _ _ _ rfl _ (by simp [go_sem]) ERo.out) HCR.out ?_
        refine q_call rfl 50 #[.agg (tv (Hu.bothR us vs k)), .agg (tv (Hu.pad (C.getD k [])))] _ (enter_value _ _ _ rfl _ (by simp [go_sem]) ELe.out) HCL2.out ?_
        refine q_row rfl _ rfl (by simp [go_sem]) HCA.out ?_
        refine q_neqrow rfl _ _ rfl (by simp [go_sem]) (by simp [go_sem]) (Hu.minR_len _ _) (Hu.bothR_len _ _ _) HRH.out ?_
        refine wpQuiet_nil ?_
        intro w4 hb4
        have HB4 := hide (HB1.out.trans ((below_in HBr.out (below_in HB3.out hb4)).mono HB1.out.size))
        clear hb4
        go_simp
        go_wp2_with fail
        go_ret2
        exact ⟨congrArg (fun z => Ending.returned (.tuple #[.bool z, .bool true])) HN1.out.symm, HB4.out⟩
      · have HRH := hide ((HRS.out k hlt).trans hrh)
        have HK1 : Hid (∀ i, i < k + 1 → Hu.rowHold C us vs i = true) := hide fun i hi => by
          by_cases e : i = k
          · subst e; exact hrh
          · exact HK.out i (by omega)
        clear hrh
        refine wp_region_quiet (C := fun w' => Below w3.heap.size w3 w') (by kernel_rfl) (by kernel_rfl) ((Below.refl _ _).drew) ?_
        refine q_row rfl _ rfl (by simp [go_sem]) HCA.out ?_
        refine q_move rfl _ rfl (.slice ai l ci) (by simp [go_sem]) ?_
        refine q_call rfl 51 #[.slice ai l ci] _ (enter_value _ _ _ rfl _ (by simp [go_sem]) ERo.out) HCR.out ?_
        refine q_call rfl 50 #[.agg (tv (Hu.bothR us vs k)), .agg (tv (Hu.pad (C.getD k [])))] _ (enter_value _ _ _ rfl _ (by simp [go_sem]) ELe.out) HCL2.out ?_
        refine q_row rfl _ rfl (by simp [go_sem]) HCA.out ?_
        refine q_neqrow rfl _ _ rfl (by simp [go_sem]) (by simp [go_sem]) (Hu.minR_len _ _) (Hu.bothR_len _ _ _) HRH.out ?_
        refine wpQuiet_nil ?_
        intro w4 hb4
        have HB4 := hide (below_in HBr.out (below_in HB3.out hb4))
        clear hb4
        go_simp
        go_wp2_with fail
        go_roundw
        case rel => exact ⟨k + 1, rfl, rfl, by go_num, by omega, HK1, HB4⟩
        case measure => simp only [intOf]; omega
    · have hke : k = l := by omega
      subst hke
      have HY := hide (HYES.out HK.out)
      have HB4 := hide (HB1.out.trans (HBr.out.mono HB1.out.size))
      go_wp2_with fail
      go_ret2
      exact ⟨congrArg (fun z => Ending.returned (.tuple #[.bool z, .bool true])) HY.out.symm, HB4.out⟩
set_option maxHeartbeats 2000000 in
theorem ph_no {e a b : Option Addr} {l n m f c d : Nat} {C : List (List Int)} {us vs : List Int} {w : World} (hg : Hu.bothB C us vs = false) (hl : C.length = l) (hn : us.length = n) (hm : vs.length = m) (hc : CRow w e C) (ha : ARow w a us) (hb : ARow w b vs) :
    Calls Try.prog 29 #[.slice e l f, .agg #[.slice a n c, .slice b m d]] w fun e w' => e = .returned (.tuple #[.bool false, .bool false]) ∧ Below w.heap.size w w' := by
  have bn := below_new w (.cells #[.slice a n c, .slice b m d] 29)
  have HC := hide (hc.below bn)
  have HA := hide (ha.below bn)
  have HB := hide (hb.below bn)
  have HL := hide hl
  have HN := hide hn
  have HM := hide hm
  have HG := hide hg
  clear hc ha hb hl hn hm hg bn
  go_enter Try.func29, Try.ntmps29
  go_wp2_with fail
  refine (bo_eq HL HN HM HC HA HB HG).mono ?_
  rintro e w1 ⟨rfl, hb1⟩
  have HB1 := hide ((below_new w (.cells #[.slice a n c, .slice b m d] 29)).trans (hb1.mono (by simp)))
  clear hb1 HC HA HB
  go_wp2_with fail
  go_ret2
  exact ⟨rfl, HB1.out⟩
theorem ph_w {e a b : Option Addr} {l n m f c d : Nat} {C : List (List Int)} {us vs : List Int} {w : World} (hl : C.length = l) (hn : us.length = n) (hm : vs.length = m) (hc : CRow w e C) (ha : ARow w a us) (hb : ARow w b vs) :
    Calls Try.prog 29 #[.slice e l f, .agg #[.slice a n c, .slice b m d]] w fun e w' => e = .returned (.tuple #[.bool (Hu.phI C us vs), .bool (Hu.bothB C us vs)]) ∧ Below w.heap.size w w' := by
  unfold Hu.phI
  cases hg : Hu.bothB C us vs
  · exact ph_no hg hl hn hm hc ha hb
  · obtain ⟨g1, g2, g3⟩ := Hu.bothB_yes hg
    have g4 := (Hu.prB_yes g2).1
    obtain rfl : n = l := by omega
    obtain rfl : m = n := by omega
    exact ph_yes hg hl hn hm hc ha hb
set_option maxHeartbeats 4000000 in
theorem sph_yes {e a b : Option Addr} {l f c d : Nat} {C : List (List Int)} {us vs : List Int} {w : World} (hg : Hu.bothB C us vs = true) (hl : C.length = l) (hn : us.length = l) (hm : vs.length = l) (hc : CRow w e C) (ha : ARow w a us) (hb : ARow w b vs) :
    Calls Try.prog 27 #[.slice e l f, .agg #[.slice a l c, .slice b l d]] w fun e w' => e = .returned (.tuple #[.bool (Hu.holdB C us vs), .bool true]) ∧ Below w.heap.size w w' := by
  obtain ⟨g1, g2, g3⟩ := Hu.bothB_yes hg
  obtain ⟨g4, g5, g6, g7⟩ := Hu.prB_yes g2
  have gl := Hu.costB_len g1
  rw [hl] at gl
  obtain ⟨l1, l10⟩ := gl
  have bn := below_new w (.cells #[.slice a l c, .slice b l d] 29)
  have HC := hide (hc.below bn)
  have HA := hide (ha.below bn)
  have HB := hide (hb.below bn)
  have HL := hide hl
  have HN := hide hn
  have HM := hide hm
  have HG := hide hg
  have HBU := hide fun (i : Nat) (hi : i < l) => Pf.inB_yes (Pf.allB_get g6 (show i < us.length by omega))
  have HBV := hide fun (i : Nat) (hi : i < l) => Pf.inB_yes (Pf.allB_get g7 (show i < vs.length by omega))
  have HCL := hide fun (i : Nat) (hi : i < l) => (Hu.costB_row g1 (show i < C.length by rw [hl]; exact hi)).1.trans hl
  have HNO : Hid (∀ i, i < l → ∀ j, j < l → ¬ (us.getD i 0 + vs.getD j 0 ≤ (C.getD i []).getD j 0) → Hu.holdB C us vs = false) := hide fun i hi j hj h => by
    cases e : Hu.holdB C us vs
    · rfl
    · exact absurd (Hu.holdB_iff.1 e i (by omega) j (by omega)) h
  have HYES : Hid ((∀ i, i < l → ∀ j, j < l → us.getD i 0 + vs.getD j 0 ≤ (C.getD i []).getD j 0) → Hu.holdB C us vs = true) := hide fun h => Hu.holdB_iff.2 fun i hi j hj => h i (by omega) j (by omega)
  generalize Hu.holdB C us vs = G at *
  clear hc ha hb hl hn hm hg g1 g2 g3 g4 g5 g6 g7 bn
  go_enter Try.func27, Try.ntmps27
  go_wp2_with fail
  refine (sbo_eq HL (by omega) HN HM HC HA HB HG).mono ?_
  rintro e w1 ⟨rfl, hb1⟩
  have HB1 := hide ((below_new w (.cells #[.slice a l c, .slice b l d] 29)).trans (hb1.mono (by simp)))
  have HP1 := hide ((PBox.new w (.slice a l c) (.slice b l d) 29).below hb1)
  have HC1 := hide (HC.out.below hb1)
  have HA1 := hide (HA.out.below hb1)
  have HV1 := hide (HB.out.below hb1)
  clear hb1 HC HA HB
  go_wp2_with fail
  go_loopw [4, 5, 6, 7, 8, 9, 16] (fun s4 s5 _ _ _ _ s wr => ∃ (k q : Nat), s4 = .bool false ∧ s5 = .bool false ∧ s = .int .i64 k ∧ k ≤ l ∧ Hid (∀ i, i < k → ∀ j, j < l → us.getD i 0 + vs.getD j 0 ≤ (C.getD i []).getD j 0) ∧ wr = w1.drewN q) (fun _ _ _ _ _ _ s _ => l - (intOf s).toNat)
  case atStart => exact ⟨0, 0, rfl, rfl, rfl, Nat.zero_le _, hide fun i hi => absurd hi (Nat.not_lt_zero _), rfl⟩
  case round =>
    obtain ⟨k, q, rfl, rfl, rfl, hk, HK, rfl⟩ := hrel
    by_cases hlt : k < l
    · obtain ⟨b1, off, ai, ci, rfl, hb, r1, R1⟩ := HC1.out.at (i := k) (by rw [HL.out]; exact hlt)
      have HR := hide R1
      have HCk := hide (HCL.out k hlt)
      rw [HCL.out k hlt] at r1
      obtain ⟨p0, p1, p2⟩ := HP1.out
      obtain ⟨bu, ou, rfl, ru⟩ := HA1.out.at (i := k) (by rw [HN.out]; exact hlt)
      have bx := HBU.out k hlt
      have HKN := hide (HNO.out k hlt)
      have j0 : (0 : Int) ≤ (k : Int) := by omega
      have j1 : (k : Int) < (l : Int) := by omega
      generalize hx : us.getD k 0 = x at ru bx HKN
      have HX := hide hx
      clear R1 hx
      go_wp2_with fail
      go_loopw [4, 5, 8, 9, 23] (fun s4 s5 _ _ s wr => ∃ (j q : Nat), s4 = .bool false ∧ s5 = .bool false ∧ s = .int .i64 j ∧ j ≤ l ∧ Hid (∀ i, i < j → x + vs.getD i 0 ≤ (C.getD k []).getD i 0) ∧ wr = w1.drewN q) (fun _ _ _ _ s _ => l - (intOf s).toNat)
      case atStart => exact ⟨0, q, rfl, rfl, rfl, Nat.zero_le _, hide fun i hi => absurd hi (Nat.not_lt_zero _), rfl⟩
      case round =>
        obtain ⟨j, q2, rfl, rfl, rfl, hj, HJ, rfl⟩ := hrel
        by_cases hjl : j < l
        · obtain ⟨b3, o3, rfl, r3⟩ := HR.out.at (i := j) (by rw [HCk.out]; exact hjl)
          obtain ⟨b4, o4, rfl, r4⟩ := HV1.out.at (i := j) (by rw [HM.out]; exact hjl)
          have by1 := HBV.out j hjl
          have HKJ := hide (HKN.out j hjl)
          have HJJ := hide fun (h : x + vs.getD j 0 ≤ (C.getD k []).getD j 0) (i : Nat) (hi : i < j + 1) => (show x + vs.getD i 0 ≤ (C.getD k []).getD i 0 by
            by_cases e : i = j
            · subst e; exact h
            · exact HJ.out i (by omega))
          generalize vs.getD j 0 = y at r4 by1 HKJ HJJ
          generalize (C.getD k []).getD j 0 = z at r3 HKJ HJJ
          have t0 : (0 : Int) ≤ (j : Int) := by omega
          have t1 : (j : Int) < (l : Int) := by omega
          have ww : IntKind.i64.wrap (x + y) = x + y := by rw [IntKind.wrap_i64]; omega
          by_cases hle : x + y ≤ z
          · have hz : ¬ z < x + y := by omega
            have HJ2 := hide (HJJ.out hle)
            go_wp2_with fail
            go_quiet (fail)
            go_wp2_with fail
            go_roundw
            case rel => exact ⟨j + 1, _, rfl, rfl, by go_num, by omega, HJ2, rfl⟩
            case measure => simp only [intOf]; omega
          · have hz : z < x + y := by omega
            have HN2 := hide (HKJ.out hz)
            go_wp2_with fail
            go_quiet (fail)
            go_wp2_with fail
            go_ret2
            exact ⟨congrArg (fun z => Ending.returned (.tuple #[.bool z, .bool true])) HN2.out.symm, below_drewN (below_drewN HB1.out _) _⟩
        · have hje : j = l := by omega
          subst hje
          have HK1 : Hid (∀ i, i < k + 1 → ∀ t, t < j → us.getD i 0 + vs.getD t 0 ≤ (C.getD i []).getD t 0) := hide fun i hi t ht => by
            by_cases e : i = k
            · subst e; rw [HX.out]; exact HJ.out t ht
            · exact HK.out i (by omega) t ht
          go_wp2_with fail
          go_roundw
          case rel => exact ⟨k + 1, _, rfl, rfl, by go_num, by omega, HK1, rfl⟩
          case measure => simp only [intOf]; omega
    · have hke : k = l := by omega
      subst hke
      have HY := hide (HYES.out HK.out)
      go_wp2_with fail
      go_ret2
      exact ⟨congrArg (fun z => Ending.returned (.tuple #[.bool z, .bool true])) HY.out.symm, below_drewN HB1.out _⟩
set_option maxHeartbeats 2000000 in
theorem sph_no {e a b : Option Addr} {l n m f c d : Nat} {C : List (List Int)} {us vs : List Int} {w : World} (hg : Hu.bothB C us vs = false) (hl : C.length = l) (hl1 : l ≤ 1048576) (hn : us.length = n) (hm : vs.length = m) (hc : CRow w e C) (ha : ARow w a us) (hb : ARow w b vs) :
    Calls Try.prog 27 #[.slice e l f, .agg #[.slice a n c, .slice b m d]] w fun e w' => e = .returned (.tuple #[.bool false, .bool false]) ∧ Below w.heap.size w w' := by
  have bn := below_new w (.cells #[.slice a n c, .slice b m d] 29)
  have HC := hide (hc.below bn)
  have HA := hide (ha.below bn)
  have HB := hide (hb.below bn)
  have HL := hide hl
  have HN := hide hn
  have HM := hide hm
  have HG := hide hg
  clear hc ha hb hl hn hm hg bn
  go_enter Try.func27, Try.ntmps27
  go_wp2_with fail
  refine (sbo_eq HL hl1 HN HM HC HA HB HG).mono ?_
  rintro e w1 ⟨rfl, hb1⟩
  have HB1 := hide ((below_new w (.cells #[.slice a n c, .slice b m d] 29)).trans (hb1.mono (by simp)))
  clear hb1 HC HA HB
  go_wp2_with fail
  go_ret2
  exact ⟨rfl, HB1.out⟩
theorem sph_w {e a b : Option Addr} {l n m f c d : Nat} {C : List (List Int)} {us vs : List Int} {w : World} (hl : C.length = l) (hl1 : l ≤ 1048576) (hn : us.length = n) (hm : vs.length = m) (hc : CRow w e C) (ha : ARow w a us) (hb : ARow w b vs) :
    Calls Try.prog 27 #[.slice e l f, .agg #[.slice a n c, .slice b m d]] w fun e w' => e = .returned (.tuple #[.bool (Hu.phI C us vs), .bool (Hu.bothB C us vs)]) ∧ Below w.heap.size w w' := by
  unfold Hu.phI
  cases hg : Hu.bothB C us vs
  · exact sph_no hg hl hl1 hn hm hc ha hb
  · obtain ⟨g1, g2, g3⟩ := Hu.bothB_yes hg
    have g4 := (Hu.prB_yes g2).1
    obtain rfl : n = l := by omega
    obtain rfl : m = n := by omega
    exact sph_yes hg hl hn hm hc ha hb
end Go.Proofs.Ytcniegaogdggaaa
