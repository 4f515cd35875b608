/-
  What GoodHouse of both answers; picks of a day, of the program; whether all is as said, of the model.
-/
import Derived.Test.YtlbagigghpiifaaHc17
namespace Go.Proofs.Ytlbagigghpiifaa
open Go.RowKit

namespace Hs
theorem house_split (ws cs os : List Int) : houseB ws cs os = (slotsB cs ws && fitB cs os) := rfl
theorem house_len {ws cs os : List Int} (h : houseB ws cs os = true) : os.length = ws.length ∧ 1 ≤ cs.length ∧ cs.length ≤ 8 ∧ ws.length ≤ 10 := by
  rw [house_split, Bool.and_eq_true] at h
  obtain ⟨h1, h2, _, h4⟩ := slotsB_yes h.1
  obtain ⟨h5, h6, _⟩ := cntB_yes h1
  have := fit_len h.2
  exact ⟨by omega, h5, h6, h4⟩
theorem house_model {ws cs os : List Int} {n q : Nat} (hn : ws.length = n) (hq : os.length = q) :
    houseB ws cs os = ((cntB cs && decide (cs.sum = (n : Int))) && (Pf.allB ws 0 1000 && (decide (q = n) && fitB cs os))) := by
  cases h : houseB ws cs os
  · symm
    cases h1 : cntB cs && decide (cs.sum = (n : Int))
    · rfl
    · cases h2 : Pf.allB ws 0 1000
      · rfl
      · cases h3 : fitB cs os
        · simp
        · rw [house_split, h3, Bool.and_true] at h
          unfold slotsB at h
          rw [hn, h1, h2] at h
          cases h
  · obtain ⟨hl, _⟩ := house_len h
    rw [house_split, Bool.and_eq_true] at h
    have h1 := h.1
    unfold slotsB at h1
    rw [hn, Bool.and_eq_true] at h1
    rw [h1.1, h1.2, h.2, show q = n by omega]
    simp
end Hs
set_option maxHeartbeats 1000000 in
theorem gh17_any {a b o : Option Addr} {n m q c d e : Nat} {ws cs os : List Int} {w : World} (HN : Hid (ws.length = n)) (HM : Hid (cs.length = m)) (HQ : Hid (os.length = q)) (hq : q ≤ 1048576) (HA : Hid (ARow w a ws)) (HB : Hid (ARow w b cs)) (HO : Hid (ARow w o os)) :
    Calls Try.prog 22 #[.agg #[.slice a n c, .slice b m d, .slice o q e]] w fun e w' => e = .returned (.bool (Hs.houseB ws cs os)) ∧ Below w.heap.size w w' := by
  have hb0 := below_new w (.cells #[.slice a n c, .slice b m d, .slice o q e] 41)
  have HX := hide (HBox.new w (.slice a n c) (.slice b m d) (.slice o q e) 41)
  have HA1 := hide (HA.out.below hb0)
  have HB1 := hide (HB.out.below hb0)
  have HO1 := hide (HO.out.below hb0)
  have HB0 := hide hb0
  have HE := hide (Hs.house_split ws cs os)
  clear hb0
  generalize Hs.houseB ws cs os = G at *
  cases h : Hs.slotsB cs ws
  · have HF : Hid (false = G) := hide (by rw [HE.out, h]; rfl)
    have H := hide h
    clear h
    go_enter Try.func22, Try.ntmps22
    go_wp2_with fail
    refine (hs_eq HN HM HA1 HB1 H).mono ?_
    rintro _ w1 ⟨rfl, hb1⟩
    have HBf := hide (HB0.out.trans (hb1.mono HB0.out.size))
    clear hb1
    go_wp2_with fail
    go_ret
    exact ⟨ret_bool HF.out, HBf.out⟩
  · have HF : Hid (Hs.fitB cs os = G) := hide (by rw [HE.out, h]; rfl)
    have H := hide h
    obtain ⟨m1, m8, _⟩ := cnt_few HM (Hs.slotsB_yes h).1
    clear h
    go_enter Try.func22, Try.ntmps22
    go_wp2_with fail
    refine (hs_eq HN HM HA1 HB1 H).mono ?_
    rintro _ w1 ⟨rfl, hb1⟩
    obtain ⟨x0, x1, x2, _⟩ := HX.out.below hb1
    have HB2 := hide (HB1.out.below hb1)
    have HO2 := hide (HO1.out.below hb1)
    have HBf := hide (HB0.out.trans (hb1.mono HB0.out.size))
    clear hb1
    go_wp2_with fail
    refine (ho_eq HM m1 m8 HQ hq HB2 HO2 HF).mono ?_
    rintro _ w2 ⟨rfl, hb2⟩
    have HBg := hide (HBf.out.trans (hb2.mono HBf.out.size))
    clear hb2
    go_wp2_with fail
    go_ret
    exact ⟨rfl, HBg.out⟩
theorem gh17_eq {a b o : Option Addr} {n m q c d e : Nat} {ws cs os : List Int} {w : World} {r : Bool} (HN : Hid (ws.length = n)) (HM : Hid (cs.length = m)) (HQ : Hid (os.length = q)) (hq : q ≤ 1048576) (HA : Hid (ARow w a ws)) (HB : Hid (ARow w b cs)) (HO : Hid (ARow w o os)) (hr : Hid (Hs.houseB ws cs os = r)) :
    Calls Try.prog 22 #[.agg #[.slice a n c, .slice b m d, .slice o q e]] w fun e w' => e = .returned (.bool r) ∧ Below w.heap.size w w' := hr.out ▸ gh17_any HN HM HQ hq HA HB HO
set_option maxHeartbeats 2000000 in
theorem sgh17_any {a b o : Option Addr} {n m q c d e : Nat} {ws cs os : List Int} {w : World} (HN : Hid (ws.length = n)) (HM : Hid (cs.length = m)) (hn : n ≤ 1048576) (HQ : Hid (os.length = q)) (hq : q ≤ 1048576) (HA : Hid (ARow w a ws)) (HB : Hid (ARow w b cs)) (HO : Hid (ARow w o os)) :
    Calls Try.prog 20 #[.agg #[.slice a n c, .slice b m d, .slice o q e]] w fun e w' => e = .returned (.bool (Hs.houseB ws cs os)) ∧ Below w.heap.size w w' := by
  have hb0 := below_new w (.cells #[.slice a n c, .slice b m d, .slice o q e] 41)
  have HX := hide (HBox.new w (.slice a n c) (.slice b m d) (.slice o q e) 41)
  have HA1 := hide (HA.out.below hb0)
  have HB1 := hide (HB.out.below hb0)
  have HO1 := hide (HO.out.below hb0)
  have HB0 := hide hb0
  have HE := hide (Hs.house_model (cs := cs) HN.out HQ.out)
  clear hb0
  generalize Hs.houseB ws cs os = G at *
  cases h : (Hs.cntB cs && decide (cs.sum = (n : Int)))
  · have HF : Hid (false = G) := hide (by rw [HE.out, h]; rfl)
    have H := hide h
    clear h
    go_enter Try.func20, Try.ntmps20
    go_wp2_with fail
    refine (scnt_eq HB1 HM H).mono ?_
    rintro _ w1 ⟨rfl, rfl⟩
    go_wp2_with fail
    go_ret
    exact ⟨ret_bool HF.out, HB0.out⟩
  · have H := hide h
    rw [Bool.and_eq_true, decide_eq_true_eq] at h
    obtain ⟨m1, m8, _⟩ := cnt_few HM h.1
    clear h
    cases h2 : Pf.allB ws 0 1000
    · have HF : Hid (false = G) := hide (by rw [HE.out, h2, Bool.false_and, Bool.and_false])
      have H2 := hide h2
      clear h2
      go_enter Try.func20, Try.ntmps20
      go_wp2_with fail
      refine (scnt_eq HB1 HM H).mono ?_
      rintro _ w1 ⟨rfl, rfl⟩
      go_wp2_with fail
      refine (sall17 HA1 HN (by omega) H2).mono ?_
      rintro _ w1 ⟨rfl, rfl⟩
      go_wp2_with fail
      go_ret
      exact ⟨ret_bool HF.out, HB0.out⟩
    · have H2 := hide h2
      by_cases hqn : q = n
      · subst hqn
        have he : ((q : Int) == (q : Int)) = true := by simp
        have HF : Hid (Hs.fitB cs os = G) := hide (by rw [HE.out, H.out, h2]; simp)
        clear h2
        go_enter Try.func20, Try.ntmps20
        go_wp2_with fail
        refine (scnt_eq HB1 HM H).mono ?_
        rintro _ w1 ⟨rfl, rfl⟩
        go_wp2_with fail
        refine (sall17 HA1 HN (by omega) H2).mono ?_
        rintro _ w1 ⟨rfl, rfl⟩
        go_wp2_with fail
        refine (sfit_eq HM m1 m8 HQ hq HB1 HO1 HF).mono ?_
        rintro _ w2 ⟨rfl, hb2⟩
        have HBg := hide (HB0.out.trans (hb2.mono HB0.out.size))
        clear hb2
        go_wp2_with fail
        go_ret
        exact ⟨rfl, HBg.out⟩
      · have he : ((q : Int) == (n : Int)) = false := by simp; omega
        have HF : Hid (false = G) := hide (by rw [HE.out, H.out, h2]; simp [hqn])
        clear h2
        go_enter Try.func20, Try.ntmps20
        go_wp2_with fail
        refine (scnt_eq HB1 HM H).mono ?_
        rintro _ w1 ⟨rfl, rfl⟩
        go_wp2_with fail
        refine (sall17 HA1 HN (by omega) H2).mono ?_
        rintro _ w1 ⟨rfl, rfl⟩
        go_wp2_with fail
        go_ret
        exact ⟨ret_bool HF.out, HB0.out⟩
theorem sgh17_eq {a b o : Option Addr} {n m q c d e : Nat} {ws cs os : List Int} {w : World} {r : Bool} (HN : Hid (ws.length = n)) (HM : Hid (cs.length = m)) (hn : n ≤ 1048576) (HQ : Hid (os.length = q)) (hq : q ≤ 1048576) (HA : Hid (ARow w a ws)) (HB : Hid (ARow w b cs)) (HO : Hid (ARow w o os)) (hr : Hid (Hs.houseB ws cs os = r)) :
    Calls Try.prog 20 #[.agg #[.slice a n c, .slice b m d, .slice o q e]] w fun e w' => e = .returned (.bool r) ∧ Below w.heap.size w w' := hr.out ▸ sgh17_any HN HM hn HQ hq HA HB HO
/-- A day in a variable: its house, and how often each good is picked. -/
def DyBox (w : World) (B : Nat) (v0 v1 v2 v3 : Value) : Prop := w.cell? ⟨B, 0, none⟩ = some v0 ∧ w.cell? ⟨B, 1, none⟩ = some v1 ∧ w.cell? ⟨B, 2, none⟩ = some v2 ∧ w.cell? ⟨B, 3, none⟩ = some v3 ∧ B < w.heap.size
theorem DyBox.new (w : World) (v0 v1 v2 v3 : Value) (t : TypeId) : DyBox (w.alloc (.cells #[v0, v1, v2, v3] t)) w.heap.size v0 v1 v2 v3 := ⟨by simp [go_sem], by simp [go_sem], by simp [go_sem], by simp [go_sem], by simp⟩
theorem DyBox.below {w w' : World} {B : Nat} {v0 v1 v2 v3 : Value} (h : DyBox w B v0 v1 v2 v3) (hb : Below w.heap.size w w') : DyBox w' B v0 v1 v2 v3 :=
  ⟨(hb.cell h.2.2.2.2).trans h.1, (hb.cell h.2.2.2.2).trans h.2.1, (hb.cell h.2.2.2.2).trans h.2.2.1, (hb.cell h.2.2.2.2).trans h.2.2.2.1, Nat.lt_of_lt_of_le h.2.2.2.2 hb.size⟩
set_option maxHeartbeats 1000000 in
theorem ip17_any {a b o p : Option Addr} {n m q r c d e f : Nat} {cs ps : List Int} {w : World} (HM : Hid (cs.length = m)) (HR : Hid (ps.length = r)) (HP : Hid (ARow w p ps)) :
    Calls Try.prog 28 #[.agg #[.slice a n c, .slice b m d, .slice o q e, .slice p r f]] w fun e w' => e = .returned (.bool (Sh.flowB ps && decide (ps.length = cs.length))) ∧ Below w.heap.size w w' := by
  have hb0 := below_new w (.cells #[.slice a n c, .slice b m d, .slice o q e, .slice p r f] 50)
  have HX := hide (DyBox.new w (.slice a n c) (.slice b m d) (.slice o q e) (.slice p r f) 50)
  have HP1 := hide (HP.out.below hb0)
  have HB0 := hide hb0
  have HE : Hid ((Sh.flowB ps && decide (ps.length = cs.length)) = (Sh.flowB ps && decide (r = m))) := hide (by rw [HM.out, HR.out])
  clear hb0
  generalize (Sh.flowB ps && decide (ps.length = cs.length)) = G at *
  cases h : Sh.flowB ps
  · have HF : Hid (false = G) := hide (by rw [HE.out, h]; rfl)
    have H := hide h
    clear h
    go_enter Try.func28, Try.ntmps28
    go_wp2_with fail
    refine (flows_eq HP1 HR H).mono ?_
    rintro _ w1 ⟨rfl, rfl⟩
    go_wp2_with fail
    go_ret
    exact ⟨ret_bool HF.out, HB0.out⟩
  · have HF : Hid (((r : Int) == (m : Int)) = G) := hide (by rw [HE.out, h, Bool.true_and, Bool.eq_iff_iff]; simp; omega)
    have H := hide h
    clear h
    go_enter Try.func28, Try.ntmps28
    go_wp2_with fail
    refine (flows_eq HP1 HR H).mono ?_
    rintro _ w1 ⟨rfl, rfl⟩
    go_wp2_with fail
    go_ret
    exact ⟨ret_bool HF.out, HB0.out⟩
theorem ip17_eq {a b o p : Option Addr} {n m q r c d e f : Nat} {cs ps : List Int} {w : World} {g : Bool} (HM : Hid (cs.length = m)) (HR : Hid (ps.length = r)) (HP : Hid (ARow w p ps)) (hr : Hid ((Sh.flowB ps && decide (ps.length = cs.length)) = g)) :
    Calls Try.prog 28 #[.agg #[.slice a n c, .slice b m d, .slice o q e, .slice p r f]] w fun e w' => e = .returned (.bool g) ∧ Below w.heap.size w w' := hr.out ▸ ip17_any HM HR HP
set_option maxHeartbeats 1000000 in
theorem sall17_any {p b a : Option Addr} {n m r c d f : Nat} {ps cs ws : List Int} {w : World} (HR : Hid (ps.length = r)) (HM : Hid (cs.length = m)) (HN : Hid (ws.length = n)) (hn : n ≤ 1048576) (HP : Hid (ARow w p ps)) (HB : Hid (ARow w b cs)) (HA : Hid (ARow w a ws)) :
    Calls Try.prog 26 #[.slice p r f, .slice b m d, .slice a n c] w fun e w' => e = .returned (.bool (Hs.dayB ps cs ws)) ∧ w' = w := by
  have HE : Hid (Hs.dayB ps cs ws = (Sh.flowB ps && (decide (r = m) && ((Hs.cntB cs && decide (cs.sum = (n : Int))) && Pf.allB ws 0 1000)))) := hide (by unfold Hs.dayB Hs.slotsB; rw [HM.out, HR.out, HN.out, Bool.and_assoc])
  generalize Hs.dayB ps cs ws = G at *
  cases h : Sh.flowB ps
  · have HF : Hid (false = G) := hide (by rw [HE.out, h]; rfl)
    have H := hide h
    clear h
    go_enter Try.func26, Try.ntmps26
    go_wp2_with (go_at_call 46; refine (sflows_eq HP HR H).mono ?_; rintro e w1 ⟨rfl, rfl⟩)
    go_ret
    exact ⟨ret_bool HF.out, rfl⟩
  · have H := hide h
    by_cases hm : m = r
    · have he : ((m : Int) == (r : Int)) = true := by simp; omega
      cases h2 : (Hs.cntB cs && decide (cs.sum = (n : Int)))
      · have HF : Hid (false = G) := hide (by rw [HE.out, h, h2]; simp)
        have H2 := hide h2
        clear h h2 hm
        go_enter Try.func26, Try.ntmps26
        go_wp2_with (first
          | (go_at_call 46; refine (sflows_eq HP HR H).mono ?_; rintro e w1 ⟨rfl, rfl⟩)
          | (go_at_call 37; refine (scnt_eq HB HM H2).mono ?_; rintro e w1 ⟨rfl, rfl⟩))
        go_ret
        exact ⟨ret_bool HF.out, rfl⟩
      · have HF : Hid (Pf.allB ws 0 1000 = G) := hide (by rw [HE.out, h, h2, hm]; simp)
        have H2 := hide h2
        clear h h2 hm
        go_enter Try.func26, Try.ntmps26
        go_wp2_with (first
          | (go_at_call 46; refine (sflows_eq HP HR H).mono ?_; rintro e w1 ⟨rfl, rfl⟩)
          | (go_at_call 37; refine (scnt_eq HB HM H2).mono ?_; rintro e w1 ⟨rfl, rfl⟩)
          | (go_at_call 41; refine (sall17 HA HN (by omega) HF).mono ?_; rintro e w1 ⟨rfl, rfl⟩))
        go_ret
        exact ⟨rfl, rfl⟩
    · have he : ((m : Int) == (r : Int)) = false := by simp; omega
      have HF : Hid (false = G) := hide (by rw [HE.out, h]; simp [show ¬ r = m from fun e => hm e.symm])
      clear h hm
      go_enter Try.func26, Try.ntmps26
      go_wp2_with (go_at_call 46; refine (sflows_eq HP HR H).mono ?_; rintro e w1 ⟨rfl, rfl⟩)
      go_ret
      exact ⟨ret_bool HF.out, rfl⟩
theorem sall17_eq {p b a : Option Addr} {n m r c d f : Nat} {ps cs ws : List Int} {w : World} {g : Bool} (HR : Hid (ps.length = r)) (HM : Hid (cs.length = m)) (HN : Hid (ws.length = n)) (hn : n ≤ 1048576) (HP : Hid (ARow w p ps)) (HB : Hid (ARow w b cs)) (HA : Hid (ARow w a ws)) (hr : Hid (Hs.dayB ps cs ws = g)) :
    Calls Try.prog 26 #[.slice p r f, .slice b m d, .slice a n c] w fun e w' => e = .returned (.bool g) ∧ w' = w := hr.out ▸ sall17_any HR HM HN hn HP HB HA
end Go.Proofs.Ytlbagigghpiifaa
