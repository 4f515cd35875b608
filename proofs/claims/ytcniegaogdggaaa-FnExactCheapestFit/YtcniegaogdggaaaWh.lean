/-
  What slices.IndexFunc and slices.DeleteFunc answer where one number is to go.
-/
import Derived.Test.YtcniegaogdggaaaWg
import Derived.Lib.SliceRun
namespace Go.Proofs.Ytcniegaogdggaaa
open Go.RowKit

/-- Numbers behind p gone one to the front, up to i. -/
def shl (lf : List Int) (p i : Nat) : List Int := (List.range lf.length).map fun t => if p ≤ t ∧ t < i then lf.getD (t + 1) 0 else lf.getD t 0
theorem shl_len (lf : List Int) (p i : Nat) : (shl lf p i).length = lf.length := by simp [shl]
theorem shl_get (lf : List Int) (p i : Nat) {t : Nat} (h : t < lf.length) : (shl lf p i).getD t 0 = if p ≤ t ∧ t < i then lf.getD (t + 1) 0 else lf.getD t 0 := by simp [shl, h]
theorem shl_zero (lf : List Int) (p : Nat) : shl lf p p = lf := by
  apply List.ext_getElem
  · simp [shl]
  · intro t h1 h2
    simp [shl, h2, show ¬ (p ≤ t ∧ t < p) by omega]
theorem shl_set (lf : List Int) {p i : Nat} (hp : p ≤ i) : (shl lf p i).set i (lf.getD (i + 1) 0) = shl lf p (i + 1) := by
  apply List.ext_getElem
  · simp [shl]
  · intro t h1 h2
    simp [shl] at h1
    rw [List.getElem_set]
    by_cases e : i = t
    · subst e; simp [shl, hp]
    · simp only [e, if_false, shl, List.getElem_map, List.getElem_range]
      by_cases q : p ≤ t ∧ t < i
      · rw [if_pos q, if_pos ⟨q.1, by omega⟩]
      · rw [if_neg q, if_neg (by omega)]
theorem shl_end (lf : List Int) {p M : Nat} (hM : lf.length = M + 1) (hp : p ≤ M) : (shl lf p M).take M = lf.eraseIdx p := by
  apply List.ext_getElem
  · rw [List.length_take, shl_len, List.length_eraseIdx_of_lt (by omega), hM]; omega
  · intro t h1 h2
    rw [List.length_take, shl_len] at h1
    rw [List.getElem_take, List.getElem_eraseIdx]
    simp only [shl, List.getElem_map, List.getElem_range]
    by_cases q : t < p
    · rw [dif_pos q, if_neg (by omega)]
      simp [show t < lf.length by omega]
    · rw [dif_neg q, if_pos ⟨by omega, by omega⟩]
      simp [show t + 1 < lf.length by omega]
set_option maxHeartbeats 400000 in
theorem cg_any {Q : Nat} {x d : Int} {w : World} (h : w.cell? ⟨Q, 0, none⟩ = some (.int .i64 d)) :
    Calls Try.prog 76 #[.int .i64 x, .pointer (some ⟨Q, 0, none⟩)] w fun e w' => e = .returned (.bool (x == d)) ∧ w' = w := by
  go_enter Try.func76, Try.ntmps76
  go_wp2_with fail
  go_ret
  exact ⟨rfl, rfl⟩
set_option maxHeartbeats 2000000 in
theorem if_any {Q p N c : Nat} {d : Int} {a : Option Addr} {lf : List Int} {w : World} (hN : lf.length = N) (hp : p < N) (hd : lf.getD p 0 = d) (hne : ∀ j, j < p → lf.getD j 0 ≠ d) (h100 : N ≤ 1000) (hQ : w.cell? ⟨Q, 0, none⟩ = some (.int .i64 d)) (ha : ARow w a lf) :
    Calls Try.prog 77 #[.slice a N c, .func (.func 76) #[] #[.pointer (some ⟨Q, 0, none⟩)]] w fun e w' => e = .returned (.int .i64 (p : Int)) ∧ w' = w := by
  have eg : ∀ args w, (callFunc 76 args).run Try.prog w = .ok (.enter 76 args) w := enters_of Try.func76 (by kernel_rfl) rfl
  have HC := hide fun (x : Int) => cg_any (x := x) hQ
  have HA := hide ha
  have HN := hide hN
  have HD := hide hd
  have HNE := hide hne
  clear ha hN hd hne hQ
  go_enter Try.func77, Try.ntmps77
  go_wp2_with fail
  go_loop [4, 5, 8] (fun s4 _ s => ∃ (k : Nat), s4 = .int .i64 0 ∧ s = .int .i64 k ∧ k ≤ p) (fun _ _ s => N - (intOf s).toNat)
  case atStart => exact ⟨0, rfl, rfl, Nat.zero_le _⟩
  case round =>
    obtain ⟨k, rfl, rfl, hk⟩ := hrel
    obtain ⟨b2, o2, rfl, r1⟩ := HA.out.at (i := k) (by rw [HN.out]; omega)
    have i0 : (0 : Int) ≤ (k : Int) := by omega
    have i1 : (k : Int) < (N : Int) := by omega
    by_cases hkp : k < p
    · have hb : (lf.getD k 0 == d) = false := by simpa using HNE.out k hkp
      have HCC := hide (HC.out (lf.getD k 0))
      rw [hb] at HCC
      generalize lf.getD k 0 = x at *
      clear hb
      go_wp2_with (go_at_fn 76; refine HCC.out.mono ?_; rintro e w1 ⟨rfl, hw1⟩; obtain rfl := hw1)
      go_round
      case rel => exact ⟨k + 1, rfl, by go_num, by omega⟩
      case measure => simp only [intOf]; omega
    · have hke : k = p := by omega
      subst hke
      have HCC := hide (HC.out (lf.getD k 0))
      rw [show (lf.getD k 0 == d) = true by rw [HD.out]; simp] at HCC
      generalize lf.getD k 0 = x at *
      go_wp2_with (go_at_fn 76; refine HCC.out.mono ?_; rintro e w1 ⟨rfl, hw1⟩; obtain rfl := hw1)
      go_ret
      exact ⟨rfl, rfl⟩
/-- The front of an owned list is owned. -/
theorem own_take {w : World} {base g n cap m : Nat} {xs : List Int} (h : w.ownsRow base 3 1 (.slice (some ⟨g, 0, none⟩) n cap) n (ints xs)) (hm : m ≤ n) : w.ownsRow base 3 1 (.slice (some ⟨g, 0, none⟩) m cap) m (ints (xs.take m)) := by
  have hl : xs.length = n := by have := h.1; rw [ints_len] at this; omega
  refine ⟨by rw [ints_len, List.length_take]; omega, ?_⟩
  rcases h.2 with ⟨h0, _⟩ | ⟨g', cap', cur, hv, hb, hg, h1, h2, h3, h4⟩
  · cases h0
  · cases hv
    refine Or.inr ⟨g, cap, cur, rfl, hb, hg, by omega, h2, h3, ?_⟩
    have e : ints (xs.take m) = (ints xs).take m := by simp [ints, List.map_take]
    rw [e, ← h4, List.take_take, Nat.min_eq_left (by omega), Nat.mul_one]
theorem zero3 : ∀ w, (zeroValue 3).run Try.prog w = .ok (.int .i64 0) w := fun w => by
  obtain ⟨i, hi, hz, _⟩ := infoI
  simp [zeroValue, typeInfo, hi, hz]
set_option maxRecDepth 20000 in
set_option maxHeartbeats 4000000 in
theorem df_any {base g Q p M cap : Nat} {d : Int} {lf : List Int} {w : World} (hM : lf.length = M + 1) (hp : p ≤ M) (hd : lf.getD p 0 = d) (hne : ∀ j, j < M + 1 → j ≠ p → lf.getD j 0 ≠ d) (h100 : M ≤ 900) (hQ : w.cell? ⟨Q, 0, none⟩ = some (.int .i64 d)) (hQg : Q ≠ g) (hQl : Q < w.heap.size) (ho : w.ownsRow base 3 1 (.slice (some ⟨g, 0, none⟩) (M + 1) cap) (M + 1) (ints lf)) :
    Calls Try.prog 75 #[.slice (some ⟨g, 0, none⟩) (M + 1) cap, .func (.func 76) #[] #[.pointer (some ⟨Q, 0, none⟩)]] w fun e w' => e = .returned (.slice (some ⟨g, 0, none⟩) M cap) ∧ w'.ownsRow base 3 1 (.slice (some ⟨g, 0, none⟩) M cap) M (ints (lf.eraseIdx p)) ∧ w.grownBy w' (some g) := by
  have eg : ∀ args w, (callFunc 76 args).run Try.prog w = .ok (.enter 76 args) w := enters_of Try.func76 (by kernel_rfl) rfl
  have hcap : M + 1 ≤ cap := by
    rcases ho.2 with ⟨h0, _⟩ | ⟨g', cap', cur, hv, _, _, h1, _⟩
    · cases h0
    · cases hv; exact h1
  have hcm : cap ≤ maxLen := by
    rcases ho.2 with ⟨h0, _⟩ | ⟨g', cap', cur, hv, _, _, _, h1, _⟩
    · cases h0
    · cases hv; exact h1
  unfold maxLen at hcm
  have HIF := hide (if_any (c := cap) hM (show p < M + 1 by omega) hd (fun j hj => hne j (by omega) (by omega)) (by omega) hQ (arow_owns hM.symm ho))
  have HNE := hide hne
  have HM := hide hM
  have HO0 : Hid (w.ownsRow base 3 1 (.slice (some ⟨g, 0, none⟩) (M + 1) cap) (M + 1) (ints (shl lf p p))) := hide (by rw [shl_zero]; exact ho)
  have HQ := hide hQ
  have hpn : ((p : Int) == -1) = false := by simp
  obtain ⟨N, hN⟩ : ∃ N, N = M + 1 := ⟨_, rfl⟩
  rw [← hN] at HIF HM HO0 hcap ⊢
  have HNe := hide hN
  have hMN : M < N := by omega
  have hN2 : N ≤ 1001 := by omega
  clear hM hd hne hQ ho hN
  go_enter Try.func75, Try.ntmps75
  go_wp2_with fail
  refine HIF.out.mono ?_
  rintro e w1 ⟨rfl, hw1⟩
  obtain rfl : w = w1 := hw1.symm
  clear HIF
  go_wp2_with fail
  go_loopw [5, 6, 7] (fun s5 s6 _ wr => ∃ (i : Nat), s5 = .int .i64 i ∧ s6 = .int .i64 ((i : Int) + 1) ∧ p ≤ i ∧ i ≤ M ∧ Hid (wr.ownsRow base 3 1 (.slice (some ⟨g, 0, none⟩) N cap) N (ints (shl lf p i))) ∧ Hid (w.grownBy wr (some g))) (fun s5 _ _ _ => M - (intOf s5).toNat)
  case atStart => exact ⟨p, rfl, by go_num, Nat.le_refl _, hp, HO0, hide (World.grownBy.refl _ _)⟩
  case round =>
    clear HO0
    obtain ⟨i, rfl, rfl, hpi, hi, HO, HG⟩ := hrel
    by_cases hlt : i < M
    · have hil : i + 1 < lf.length := by rw [HM.out]; have := HNe.out; omega
      have hN1 : (i : Int) + 1 < (N : Int) := by have := HNe.out; omega
      have t0 : (0 : Int) ≤ (i : Int) + 1 := by omega
      have t1 : (i : Int) < (N : Int) := by omega
      have t2 : (0 : Int) ≤ (i : Int) := by omega
      have hN1' : i + 1 < N := by omega
      have c1 : wr.cell? ⟨g, i + 1, none⟩ = some (.int .i64 (lf.getD (i + 1) 0)) := by
        rw [HO.out.cellAt (i + 1) (by omega), ints_get _ _ (by rw [shl_len]; exact hil), shl_get _ _ _ hil, if_neg (by omega)]
      have c0 : wr.cell? ⟨g, i, none⟩ = some (.int .i64 ((shl lf p i).getD i 0)) := by
        rw [HO.out.cellAt i (by omega), ints_get _ _ (by rw [shl_len]; omega)]
      have f0 := HO.out.frozenAt i
      have hQ := (World.cell?_of_block (w := w) (a := ⟨Q, 0, none⟩) (HG.out.block Q hQl (by simpa using hQg))).trans HQ.out
      have hb : (lf.getD (i + 1) 0 == d) = false := by simpa using HNE.out (i + 1) (by have := HNe.out; omega) (by omega)
      have HCC := hide (cg_any (x := lf.getD (i + 1) 0) hQ)
      rw [hb] at HCC
      have HSS := hide (shl_set lf hpi)
      generalize lf.getD (i + 1) 0 = x at *
      obtain ⟨st1, st2⟩ := HO.out.stored i (.int .i64 x)
      rw [ints_set, HSS.out] at st1
      have HST := hide st1
      have HG2 : Hid (w.grownBy (wr.setCell ⟨g, i, none⟩ (.int .i64 x)) (some g)) := hide ⟨st2.os.trans HG.out.os, st2.tape.trans HG.out.tape, st2.output.trans HG.out.output, Nat.le_trans HG.out.size st2.size, fun b hb hne => (st2.block b (Nat.lt_of_lt_of_le hb HG.out.size) hne).trans (HG.out.block b hb hne)⟩
      generalize (shl lf p i).getD i 0 = z at c0
      clear hb st1 st2
      go_wp2_with (go_at_fn 76; refine HCC.out.mono ?_; rintro e w1 ⟨rfl, hw1⟩; obtain rfl : wr = w1 := hw1.symm)
      exact ⟨⟨i + 1, by go_num, by go_num, by omega, by omega, HST, HG2⟩, by simp only [intOf]; omega⟩
    · have hie : i = M := by omega
      subst hie
      have hN1 : ¬ (i : Int) + 1 < (N : Int) := by have := HNe.out; omega
      have k0 : (0 : Int) ≤ (i : Int) := by omega
      have k1 : (i : Int) ≤ (N : Int) := by omega
      have k2 : (N : Int) ≤ (cap : Int) := by omega
      have k3 : (i : Int) ≤ (cap : Int) := by omega
      have k4 : ¬ cap = i := by omega
      have k5 : ¬ (cap : Int) = (i : Int) := by omega
      have hsub : N - i = 1 := by have := HNe.out; omega
      have c0 : wr.cell? ⟨g, i, none⟩ = some (.int .i64 ((shl lf p i).getD i 0)) := by
        rw [HO.out.cellAt i (by omega), ints_get _ _ (by rw [shl_len, HM.out]; omega)]
      have f0 := HO.out.frozenAt i
      have hclr := fun ty c => Lib.run_clear_slice (P := Try.prog) wr 27 3 ty (.int .i64 0) Try.underlying27 zero3 rfl rfl g i 1 c (by omega) (fun j hj => by
        have : j = 0 := by omega
        subst this; rw [Nat.add_zero, c0]; rfl) (fun j hj => by
        have : j = 0 := by omega
        subst this; exact f0)
      obtain ⟨st1, st2⟩ := HO.out.stored i (.int .i64 0)
      rw [ints_set] at st1
      have HF : Hid ((wr.setCells g i (List.replicate 1 (.int .i64 0))).ownsRow base 3 1 (.slice (some ⟨g, 0, none⟩) i cap) i (ints (lf.eraseIdx p))) := hide (by
        have h1 := own_take st1 (m := i) (by omega)
        rw [List.take_set_of_le (by omega), shl_end lf (by rw [HM.out]; exact HNe.out) hpi] at h1
        exact h1)
      have HG2 : Hid (w.grownBy (wr.setCells g i (List.replicate 1 (.int .i64 0))) (some g)) := hide ⟨st2.os.trans HG.out.os, st2.tape.trans HG.out.tape, st2.output.trans HG.out.output, Nat.le_trans HG.out.size st2.size, fun b hb hne => (st2.block b (Nat.lt_of_lt_of_le hb HG.out.size) hne).trans (HG.out.block b hb hne)⟩
      obtain ⟨w5, hw5⟩ : ∃ w5, w5 = wr.setCells g i (List.replicate 1 (.int .i64 0)) := ⟨_, rfl⟩
      rw [← hw5] at HF HG2
      have hcl : ∀ ty c, (Builtin.clear_ #[27] ty #[.slice (some ⟨g, i, none⟩) (N - i) c]).run Try.prog wr = .ok (.tuple #[]) w5 := fun ty c => by rw [hsub, hw5]; exact hclr ty c
      clear st1 st2 hclr hw5 c0 hsub
      go_wp2_with fail
      go_ret
      exact ⟨rfl, HF.out, HG2.out⟩
end Go.Proofs.Ytcniegaogdggaaa
