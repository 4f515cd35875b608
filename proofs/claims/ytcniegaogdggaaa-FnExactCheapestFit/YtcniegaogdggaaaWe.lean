/-
  What nearest answers.
-/
import Derived.Test.YtcniegaogdggaaaWd
import Derived.Shelf.Abstract
import Derived.Deep.DeepCutAuto
namespace Go.Proofs.Ytcniegaogdggaaa
open Go.RowKit

set_option maxHeartbeats 1000000 in
theorem cl_any {B p q : Nat} {v0 v1 v2 : Value} {xs ys : List Int} {w : World} (hp : p < 10) (hq : q < 10) (h : SV w B v0 v1 v2 xs ys) :
    Calls Try.prog 74 #[.int .i64 (p : Int), .int .i64 (q : Int), .pointer (some ⟨B, 0, none⟩)] w fun e w' => e = .returned (.bool (decide (xs.getD p 0 < xs.getD q 0))) ∧ ∃ m, w' = w.drewN m := by
  have c1 := h.x hp
  have c2 := h.x hq
  have p0 : (0 : Int) ≤ (p : Int) := by omega
  have p1 : (p : Int) < 10 := by omega
  have q0 : (0 : Int) ≤ (q : Int) := by omega
  have q1 : (q : Int) < 10 := by omega
  generalize xs.getD p 0 = x at *
  generalize xs.getD q 0 = y at *
  clear h
  go_enter Try.func74, Try.ntmps74
  go_wp2_with fail
  go_quiet (fail)
  go_wp2_with fail
  go_ret
  exact ⟨rfl, _, rfl⟩
theorem best_next {ls : Hu.Fn} {lf : List Nat} {k p : Nat} (hk : k < lf.length) (hp : p < lf.length) (h : (k = 0 ∧ p = 0) ∨ Hu.bestN ls (lf.take k) = some (lf.getD p 0)) : Hu.bestN ls (lf.take (k + 1)) = some (lf.getD (if ls (lf.getD k 0) < ls (lf.getD p 0) then k else p) 0) := by
  have e1 : lf.take (k + 1) = lf.take k ++ [lf.getD k 0] := by rw [List.take_add_one, List.getElem?_eq_getElem hk]; simp [hk]
  rw [e1, Hu.best_snoc]
  rcases h with ⟨rfl, rfl⟩ | h
  · simp [Hu.bestN, Hu.pickN]
  · rw [h]
    simp only [Hu.pickN]
    split <;> rfl
set_option maxHeartbeats 4000000 in
theorem fb_any {B N c2 : Nat} {a2 : Option Addr} {v0 v1 v2 : Value} {lf : List Nat} {xs ys : List Int} {w : World} (hN : lf.length = N) (h1 : 1 ≤ N) (h100 : N ≤ 100) (h10 : ∀ x ∈ lf, x < 10) (ha : ARow w a2 (Hu.cast lf)) (h : SV w B v0 v1 v2 xs ys) :
    Calls Try.prog 73 #[.slice a2 N c2, .func (.func 74) #[] #[.pointer (some ⟨B, 0, none⟩)]] w fun e w' => (∃ p : Nat, e = .returned (.int .i64 (p : Int)) ∧ p < N ∧ Hu.bestN (fun b => xs.getD b 0) lf = some (lf.getD p 0)) ∧ Below w.heap.size w w' := by
  have eg : ∀ args w, (callFunc 74 args).run Try.prog w = .ok (.enter 74 args) w := enters_of Try.func74 (by kernel_rfl) rfl
  have HCL := hide fun (p q : Nat) (hp : p < 10) (hq : q < 10) (W : World) (hW : Below w.heap.size w W) => (cl_any (w := W) hp hq (h.below hW)).mono fun e w' (h : _ ∧ ∃ m, w' = W.drewN m) => (show _ ∧ Below W.heap.size W w' from ⟨h.1, by obtain ⟨m, e⟩ := h.2; rw [e]; exact below_drewN (Below.refl _ _) m⟩)
  have HA := hide ha
  have HN := hide hN
  have H10 := hide h10
  clear ha hN h10 h
  go_enter Try.func73, Try.ntmps73
  go_wp2_with fail
  go_loopw [5, 6, 9] (fun s5 _ s wr => ∃ (k p : Nat), s = .int .i64 k ∧ s5 = .int .i64 p ∧ k ≤ N ∧ p < N ∧ Hid ((k = 0 ∧ p = 0) ∨ Hu.bestN (fun b => xs.getD b 0) (lf.take k) = some (lf.getD p 0)) ∧ Hid (Below w.heap.size w wr)) (fun _ _ s _ => N - (intOf s).toNat)
  case atStart => exact ⟨0, 0, rfl, rfl, Nat.zero_le _, h1, hide (Or.inl ⟨rfl, rfl⟩), hide (Below.refl _ _)⟩
  case round =>
    obtain ⟨k, p, rfl, rfl, hk, hp, HBT, HB⟩ := hrel
    by_cases hlt : k < N
    · have hkl : k < lf.length := by rw [HN.out]; exact hlt
      have hpl : p < lf.length := by rw [HN.out]; exact hp
      have hk10 := H10.out _ (getD_mem9 lf hkl)
      have hp10 := H10.out _ (getD_mem9 lf hpl)
      obtain ⟨b2, o2, rfl, hb2, hrr⟩ := HA.out.resolve_left (by intro e; have := Hu.cast_len lf; rw [e] at this; simp at this; omega)
      have r1 := (HB.out.cell (p := ⟨b2, o2 + k, none⟩) hb2).trans (hrr k (by rw [Hu.cast_len]; exact hkl))
      have r2 := (HB.out.cell (p := ⟨b2, o2 + p, none⟩) hb2).trans (hrr p (by rw [Hu.cast_len]; exact hpl))
      rw [Hu.cast_get lf hkl] at r1
      rw [Hu.cast_get lf hpl] at r2
      have HNX := hide (best_next hkl hpl HBT.out)
      have HCC := hide (HCL.out _ _ hk10 hp10)
      generalize hX : xs.getD (lf.getD k 0) 0 = X at HNX HCC
      generalize hY : xs.getD (lf.getD p 0) 0 = Y at HNX HCC
      generalize lf.getD k 0 = K at r1 HCC
      generalize lf.getD p 0 = Q at r2 HCC
      have i0 : (0 : Int) ≤ (k : Int) := by omega
      have i1 : (k : Int) < (N : Int) := by omega
      have j0 : (0 : Int) ≤ (p : Int) := by omega
      have j1 : (p : Int) < (N : Int) := by omega
      clear hX hY hrr
      by_cases hXY : X < Y
      · rw [decide_eq_true hXY] at HCC
        rw [if_pos hXY] at HNX
        go_wp2_with fail
        go_region_held3 (fun w' => w'.cell? ⟨b2, o2 + k, none⟩ = some (.int .i64 (K : Int)) ∧ w'.cell? ⟨b2, o2 + p, none⟩ = some (.int .i64 (Q : Int)) ∧ Below w.heap.size w w' ∧ w.heap.size ≤ w'.heap.size)
          (first | exact ⟨r1, r2, HB.out.drew, HB.out.size⟩ | assumption | exact two_call8 hb2 hb2 ‹_› (by assumption) | fail)
          (first | (go_at_fn 74; obtain ⟨_, _, hbS, _⟩ := ‹_ ∧ _ ∧ _ ∧ _›; refine (HCC.out _ hbS).mono ?_; rintro e w1 ⟨rfl, hb1⟩) | fail)
        obtain ⟨_, _, hbE, _⟩ := ‹_ ∧ _ ∧ _ ∧ _›
        have HBE := hide hbE
        go_wp2_with fail
        exact ⟨⟨k + 1, k, by go_num, rfl, by omega, hlt, hide (Or.inr HNX.out), HBE⟩, by simp only [intOf]; omega⟩
      · rw [decide_eq_false hXY] at HCC
        rw [if_neg hXY] at HNX
        go_wp2_with fail
        go_region_held3 (fun w' => w'.cell? ⟨b2, o2 + k, none⟩ = some (.int .i64 (K : Int)) ∧ w'.cell? ⟨b2, o2 + p, none⟩ = some (.int .i64 (Q : Int)) ∧ Below w.heap.size w w' ∧ w.heap.size ≤ w'.heap.size)
          (first | exact ⟨r1, r2, HB.out.drew, HB.out.size⟩ | assumption | exact two_call8 hb2 hb2 ‹_› (by assumption) | fail)
          (first | (go_at_fn 74; obtain ⟨_, _, hbS, _⟩ := ‹_ ∧ _ ∧ _ ∧ _›; refine (HCC.out _ hbS).mono ?_; rintro e w1 ⟨rfl, hb1⟩) | fail)
        obtain ⟨_, _, hbE, _⟩ := ‹_ ∧ _ ∧ _ ∧ _›
        have HBE := hide hbE
        go_wp2_with fail
        exact ⟨⟨k + 1, p, by go_num, rfl, by omega, hp, hide (Or.inr HNX.out), HBE⟩, by simp only [intOf]; omega⟩
    · have hke : k = N := by omega
      subst hke
      have HF : Hid (Hu.bestN (fun b => xs.getD b 0) lf = some (lf.getD p 0)) := hide (by
        rcases HBT.out with ⟨h, _⟩ | h
        · omega
        · rwa [List.take_of_length_le (by rw [HN.out]; omega)] at h)
      go_wp2_with fail
      go_ret
      exact ⟨⟨p, rfl, hp, HF.out⟩, HB.out⟩
theorem nr_keep {w w1 w2 : World} {b o bb oo N : Nat} {v : Value} {D : Nat → Int} (hb : b < w.heap.size) (hbb : bb < w.heap.size) (s : w1.cell? ⟨b, o, none⟩ = some v ∧ (∀ p, p < N → w1.cell? ⟨bb, oo + p, none⟩ = some (.int .i64 (D p))) ∧ Below w.heap.size w w1 ∧ w.heap.size ≤ w1.heap.size) (h : Below w1.heap.size w1 w2) :
    w2.cell? ⟨b, o, none⟩ = some v ∧ (∀ p, p < N → w2.cell? ⟨bb, oo + p, none⟩ = some (.int .i64 (D p))) ∧ Below w.heap.size w w2 ∧ w.heap.size ≤ w2.heap.size := by
  obtain ⟨s1, s2, s3, s4⟩ := s
  exact ⟨(h.cell (p := ⟨b, o, none⟩) (Nat.lt_of_lt_of_le hb s4)).trans s1, fun p hp => (h.cell (p := ⟨bb, oo + p, none⟩) (Nat.lt_of_lt_of_le hbb s4)).trans (s2 p hp), s3.trans (h.mono s4), Nat.le_trans s4 h.size⟩
set_option maxHeartbeats 4000000 in
theorem nr_any {N c2 d : Nat} {a2 : Option Addr} {v0 v1 : Value} {lf : List Nat} {xs ys : List Int} {w : World} (hx : xs.length = 10) (hy : ys.length = 10) (h0 : v0.oneCell' = true) (hv1 : v1.oneCell' = true) (hN : lf.length = N) (h1 : 1 ≤ N) (h100 : N ≤ 100) (h10 : ∀ x ∈ lf, x < 10) (ha : ARow w a2 (Hu.cast lf)) (hbest : Hu.bestN (fun b => xs.getD b 0) lf = some d) :
    Calls Try.prog 66 #[.agg (sl9 v0 v1 (.slice a2 N c2) xs ys).toArray] w fun e w' => e = .returned (.int .i64 (d : Int)) ∧ Below w.heap.size w w' := by
  have A := SV.new w (v0 := v0) (v1 := v1) (v2 := .slice a2 N c2) hx hy h0 hv1 rfl 81
  have bn := below_new w (.cells (sl9 v0 v1 (.slice a2 N c2) xs ys).toArray 81)
  have ha1 := ha.below bn
  obtain ⟨w1, hw1⟩ : ∃ w1, w1 = w.alloc (.cells (sl9 v0 v1 (.slice a2 N c2) xs ys).toArray 81) := ⟨_, rfl⟩
  rw [← hw1] at A bn ha1
  have HW1 := hide hw1.symm
  have c2' := A.c2
  have hlt := A.lt
  have HFB := hide fun (W : World) (hW : Below w1.heap.size w1 W) => fb_any (w := W) (c2 := c2) hN h1 h100 h10 (ha1.below hW) (A.below hW)
  obtain ⟨bb, oo, rfl, hbb, hrr⟩ := ha1.resolve_left (by intro e; have := Hu.cast_len lf; rw [e] at this; simp at this; omega)
  obtain ⟨D, hD⟩ : ∃ D : Nat → Int, ∀ p, D p = ((lf.getD p 0 : Nat) : Int) := ⟨_, fun _ => rfl⟩
  have HRR : Hid (∀ p, p < N → w1.cell? ⟨bb, oo + p, none⟩ = some (.int .i64 (D p))) := hide fun p hp => by
    rw [hrr p (by rw [Hu.cast_len, hN]; exact hp), Hu.cast_get lf (by rw [hN]; exact hp), hD]
  have HD := hide hD
  have HBT := hide hbest
  have HBn := hide bn
  generalize (sl9 v0 v1 (.slice (some ⟨bb, oo, none⟩) N c2) xs ys).toArray = arr at *
  clear A bn ha1 ha hw1 hbest hrr hD
  go_enter Try.func66, Try.ntmps66
  go_upto_region 1 with fail
  rw [HW1.out]
  clear HW1
  go_region_held3 (fun w' => w'.cell? ⟨w.heap.size, 2, none⟩ = some (.slice (some ⟨bb, oo, none⟩) N c2) ∧ (∀ p, p < N → w'.cell? ⟨bb, oo + p, none⟩ = some (.int .i64 (D p))) ∧ Below w1.heap.size w1 w' ∧ w1.heap.size ≤ w'.heap.size)
    (first | exact ⟨c2', HRR.out, (Below.refl _ _).drew, Nat.le_refl _⟩ | assumption | exact nr_keep hlt hbb ‹_› (by assumption) | fail)
    (first | (go_at_call 73; obtain ⟨_, _, hbS, _⟩ := ‹_ ∧ _ ∧ _ ∧ _›; refine (HFB.out _ hbS).mono ?_; rintro e w3 ⟨⟨p, rfl, hp, hpb⟩, hb3⟩; have HPB := hide hpb; clear hpb; have p0 : (0 : Int) ≤ (p : Int) := Int.natCast_nonneg _; have p1 : (p : Int) < (N : Int) := Int.ofNat_lt.2 hp) | fail)
  obtain ⟨_, _, hbE, _⟩ := ‹_ ∧ _ ∧ _ ∧ _›
  have HE : Hid (D p = (d : Int)) := hide (by
    have := HPB.out
    rw [HBT.out] at this
    rw [HD.out p, ← Option.some.inj this])
  have HBE := hide (HBn.out.trans (hbE.mono HBn.out.size))
  clear hbE hb3 hbS
  go_wp2_with fail
  go_ret
  exact ⟨ret_int HE.out, HBE.out⟩
end Go.Proofs.Ytcniegaogdggaaa
