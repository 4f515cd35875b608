/-
  l10Rings of the model.
-/
import Derived.Test.YtdigcbjkobjdmaaNe10
import Derived.Test.YtdigcbjkobjdmaaHb
namespace Go.Proofs.Ytdigcbjkobjdmaa
open Go.RowKit

abbrev nx (n : Nat) (xs ws : List Int) : Mv.PF := Mv.nxt n (Mx.fn xs) (Mx.fn ws)
/-- How the marking walk from k stands. -/
structure In (n k K gk t i r r' : Nat) (xs ws : List Int) (m l : List Bool) : Prop where
  sw : Mv.Sw n (nx n xs ws) k t i m l
  lt : i < n
  sum : t + gk = K
  rr : (0 < t ∧ i = k ∧ r' = r + 1) ∨ (¬ (0 < t ∧ i = k) ∧ r' = r)
def Stp (n k K : Nat) (xs ws : List Int) : Prop := ∀ x, Mv.it (nx n xs ws) K k = some x → (0 < K ∧ x = k) ∨ nx n xs ws x = none
theorem in_start {n k r : Nat} {xs ws : List Int} {m : List Bool} (h2 : Mv.Two n (Mx.fn xs) (Mx.fn ws)) (hm : m.length = n) (hk : k < n) : ∃ K, Stp n k K xs ws ∧ In n k K K 0 k r r xs ws m m := by
  obtain ⟨K, hK⟩ := Mv.stop_of (n := n) (Mv.nxt_inj h2) (fun i x e => (Mv.nxt_some e).1) k
  exact ⟨K, hK, Mv.Sw.start hm, hk, by omega, Or.inr ⟨fun h => by omega, rfl⟩⟩
theorem in_step {n k K gk t i r r' : Nat} {xs ws : List Int} {m l : List Bool} (hy : ws.length = n) (h2 : Mv.Two n (Mx.fn xs) (Mx.fn ws)) (hK : Stp n k K xs ws) (h : In n k K gk t i r r' xs ws m l) (hl : l.getD i true = false) (ha : Mv.Away (Mx.fn xs) (Mx.fn ws) i) : ∃ q : Nat, Ma.idx ws (xs.getD i 0) = (q : Int) ∧ 0 < gk ∧ r' = r ∧ ∀ r2, (q = k → r2 = r + 1) → (q ≠ k → r2 = r) → In n k K (gk - 1) (t + 1) q r r2 xs ws m (l.set i true) := by
  obtain ⟨q, e1, e2, hq⟩ := idx_nxt hy h2 h.lt ha
  have hno : ¬ (0 < t ∧ i = k) := fun ⟨h0, e⟩ => by
    have := (h.sw.marks i h.lt).2 (Or.inr ⟨0, h0, by rw [e]; rfl⟩)
    rw [hl] at this; cases this
  have hs := h.sum
  have hg : 0 < gk := by
    apply Nat.pos_of_ne_zero
    rintro rfl
    rcases hK i (by rw [← hs]; exact h.sw.now) with ⟨h0, e⟩ | e
    · exact hno ⟨by omega, e⟩
    · rw [show nx n xs ws i = some q from e1] at e; cases e
  refine ⟨q, e2, hg, ?_, fun r2 h3 h4 => ⟨h.sw.step h.lt hl e1, hq, by omega, ?_⟩⟩
  · rcases h.rr with ⟨a, b, _⟩ | ⟨_, e⟩
    · exact absurd ⟨a, b⟩ hno
    · exact e
  · by_cases e : q = k
    · exact Or.inl ⟨by omega, e, h3 e⟩
    · exact Or.inr ⟨fun h => e h.2, h4 e⟩
theorem in_end {n k K gk t i r r' : Nat} {xs ws : List Int} {m l : List Bool} (h2 : Mv.Two n (Mx.fn xs) (Mx.fn ws)) (hk : k < n) (hm : Mv.Mk n (nx n xs ws) k m) (hr : Mv.Is k (Mv.Lead (nx n xs ws)) r) (h : In n k K gk t i r r' xs ws m l) (hs : l.getD i true = true ∨ ¬ Mv.Away (Mx.fn xs) (Mx.fn ws) i) : l.length = n ∧ Mv.Mk n (nx n xs ws) (k + 1) l ∧ Mv.Is (k + 1) (Mv.Lead (nx n xs ws)) r' := by
  obtain ⟨h3, h4⟩ := Mv.Sw.fin (Mv.nxt_inj h2) hk h.lt hm h.sw (hs.imp id fun e => Mv.nxt_none fun e' => e e'.2)
  refine ⟨h.sw.len, h3, ?_⟩
  rcases h.rr with ⟨a, b, e⟩ | ⟨a, e⟩
  · rw [e]; exact hr.yes (h4.2 ⟨a, b⟩)
  · rw [e]; exact hr.no fun h => a (h4.1 h)
theorem mk_zero (n : Nat) (s : Mv.PF) : Mv.Mk n s 0 (List.replicate n false) := fun x hx => by
  refine ⟨fun h => ?_, fun ⟨_, j, hj, _⟩ => by omega⟩
  simp [hx] at h
set_option maxHeartbeats 4000000 in
theorem lr_any {a b : Option Addr} {n c d : Nat} {xs ws : List Int} {w : World} (hn : n ≤ 9) (HX : Hid (xs.length = n)) (HY : Hid (ws.length = n)) (HA : Hid (ARow w a xs)) (HB : Hid (ARow w b ws)) (HT : Hid (Mv.Two n (Mx.fn xs) (Mx.fn ws))) :
    Calls Try.prog 47 #[.slice a n c, .slice b n d] w fun e w' => ∃ A R : Nat, e = .returned (.tuple #[.int .i64 A, .int .i64 R]) ∧ AR n n xs ws A R ∧ Below w.heap.size w w' := by
  have hmk := makeB_run n (by omega)
  have HM := hide (madeB_own w n (by omega))
  have hbn := below_new w (.cells (madeCells #[.bool false] n) 4)
  obtain ⟨W2, hW2⟩ : ∃ W, W = w.alloc (.cells (madeCells #[.bool false] n) 4) := ⟨_, rfl⟩
  have hmo := HM.out
  rw [← hW2] at hbn hmo
  have HMO := hide hmo
  have HBN := hide hbn
  have HAR := hide (HA.out.below hbn)
  have HBR := hide (HB.out.below hbn)
  have HW2 := hide hW2.symm
  clear HM hmo hbn hW2
  go_enter Try.func47, Try.ntmps47
  go_wp2_with fail
  rw [HW2.out]
  clear hmk HW2
  go_loop [6, 9, 10, 18] (fun s6 _ _ s => ∃ (k e : Nat), s6 = .int .i64 e ∧ s = .int .i64 k ∧ k ≤ n ∧ Hid (Mv.Is k (Mv.Away (Mx.fn xs) (Mx.fn ws)) e)) (fun _ _ _ s => n - (intOf s).toNat)
  case atStart => exact ⟨0, 0, rfl, rfl, Nat.zero_le _, hide (Mv.Is.zero _)⟩
  case round =>
    obtain ⟨k, e, rfl, rfl, hk, HI⟩ := hrel
    have he := HI.out.le
    by_cases hlt : k < n
    · obtain ⟨b1, o1, rfl, q1⟩ := HBR.out.at (i := k) (by rw [HY.out]; exact hlt)
      obtain ⟨b2, o2, rfl, q2⟩ := HAR.out.at (i := k) (by rw [HX.out]; exact hlt)
      have i0 : (0 : Int) ≤ (k : Int) := by omega
      have i1 : (k : Int) < (n : Int) := by omega
      have HAW : Hid ((0 < xs.getD k 0 ∧ ws.getD k 0 ≠ xs.getD k 0) ↔ Mv.Away (Mx.fn xs) (Mx.fn ws) k) := hide Iff.rfl
      generalize ws.getD k 0 = g at *
      generalize xs.getD k 0 = x at *
      by_cases hg : 0 < x
      · cases hx0 : (g != x)
        · have H1 := hide (HI.out.no fun h => by have := (HAW.out.2 h).2; rw [← bne_iff_ne, hx0] at this; cases this)
          go_wp2_with fail
          go_round
          case rel => exact ⟨k + 1, e, rfl, by go_num, by omega, H1⟩
          case measure => simp only [intOf]; omega
        · have H1 := hide (HI.out.yes (HAW.out.1 ⟨hg, bne_iff_ne.1 hx0⟩))
          go_wp2_with fail
          go_round
          case rel => exact ⟨k + 1, e + 1, by go_num, by go_num, by omega, H1⟩
          case measure => simp only [intOf]; omega
      · have H1 := hide (HI.out.no fun h => hg (HAW.out.2 h).1)
        go_wp2_with fail
        go_round
        case rel => exact ⟨k + 1, e, rfl, by go_num, by omega, H1⟩
        case measure => simp only [intOf]; omega
    · have hke : k = n := by omega
      subst hke
      go_wp2_with fail
      go_loopw [7, 11, 12, 38] (fun s7 _ _ s wr => ∃ (j r : Nat) (m : List Bool), s7 = .int .i64 r ∧ s = .int .i64 j ∧ j ≤ k ∧ m.length = k ∧ Hid (Mv.Mk k (nx k xs ws) j m) ∧ Hid (Mv.Is j (Mv.Lead (nx k xs ws)) r) ∧ Hid (wr.ownsRow w.heap.size 4 1 (.slice (some ⟨w.heap.size, 0, none⟩) k k) k (bls m)) ∧ Hid (Below w.heap.size w wr)) (fun _ _ _ s _ => k - (intOf s).toNat)
      case atStart => exact ⟨0, 0, List.replicate k false, rfl, rfl, Nat.zero_le _, by simp, hide (mk_zero _ _), hide (Mv.Is.zero _), HMO, HBN⟩
      case round =>
        obtain ⟨j, r, m, rfl, rfl, hj, hm, HMK, HIS, HO, HBW⟩ := hrel
        have hr := HIS.out.le
        by_cases hjl : j < k
        · obtain ⟨K, hst, hin⟩ := in_start (r := r) HT.out hm hjl
          have HST := hide hst
          have HIN := hide hin
          have k0 : (0 : Int) ≤ (j : Int) := by omega
          clear hst hin
          go_wp2_with fail
          go_loopg [7, 12] K (fun gk s7 s12 wi => ∃ (i t q : Nat) (l : List Bool), s7 = .int .i64 q ∧ s12 = .int .i64 i ∧ q ≤ 10 ∧ Hid (In k j K gk t i r q xs ws m l) ∧ Hid (wi.ownsRow w.heap.size 4 1 (.slice (some ⟨w.heap.size, 0, none⟩) k k) k (bls l)) ∧ Hid (Below w.heap.size w wi))
          case atStart => exact ⟨j, 0, r, m, rfl, rfl, by omega, HIN, HO, HBW⟩
          case round =>
            obtain ⟨i, t, q, l, rfl, rfl, hq, HN, HOI, HBI⟩ := hrel
            have hil := HN.out.lt
            have j0 : (0 : Int) ≤ (i : Int) := by omega
            have j1 : (i : Int) < (k : Int) := by omega
            have hll := HN.out.sw.len
            have c0 : wr.cell? ⟨w.heap.size, i, none⟩ = some (.bool (l.getD i true)) := by
              rw [HOI.out.cellAt i (by rw [Nat.mul_one]; exact hil), bls_get _ i (by rw [hll]; exact hil) true]
            obtain ⟨b1, o1, rfl, q1⟩ := (HB.out.below HBI.out).at (i := i) (by rw [HY.out]; exact hil)
            obtain ⟨b2, o2, rfl, q2⟩ := (HA.out.below HBI.out).at (i := i) (by rw [HX.out]; exact hil)
            have HAW : Hid ((0 < xs.getD i 0 ∧ ws.getD i 0 ≠ xs.getD i 0) ↔ Mv.Away (Mx.fn xs) (Mx.fn ws) i) := hide Iff.rfl
            have HEN := hide fun (h : l.getD i true = true ∨ ¬ Mv.Away (Mx.fn xs) (Mx.fn ws) i) => in_end HT.out hjl HMK.out HIS.out HN.out h
            have HSTP := hide fun (h : l.getD i true = false) (ha : Mv.Away (Mx.fn xs) (Mx.fn ws) i) => in_step HY.out HT.out HST.out HN.out h ha
            have HOD := hide fun (z : Nat) => g_own HOI.out (below_drewN (Below.refl wr.heap.size wr) z)
            have HBD := hide fun (z : Nat) => below_drewN HBI.out z
            cases hb : l.getD i true
            · rw [hb] at c0
              by_cases hg : 0 < xs.getD i 0
              · cases hx0 : (ws.getD i 0 != xs.getD i 0)
                · obtain ⟨e1, e2, e3⟩ := HEN.out (Or.inr fun h => by have := (HAW.out.2 h).2; rw [← bne_iff_ne, hx0] at this; cases this)
                  have HE2 := hide e2
                  have HE3 := hide e3
                  generalize ws.getD i 0 = g at *
                  generalize xs.getD i 0 = x at *
                  clear hb e2 e3 HEN HSTP HAW
                  go_wp2_with fail
                  go_quiet (fail)
                  go_wp2_with fail
                  go_roundw
                  case rel => exact ⟨j + 1, q, l, rfl, by go_num, by omega, e1, HE2, HE3, hide (HOD.out _), hide (HBD.out _)⟩
                  case measure => simp only [intOf]; omega
                · obtain ⟨p, e1, hg0, hqr, hin⟩ := HSTP.out hb (HAW.out.1 ⟨hg, bne_iff_ne.1 hx0⟩)
                  subst hqr
                  have HI2 := hide hin
                  have HSP := hide fun (W : World) (h : ARow W (some ⟨b1, o1, none⟩) ws) => (e1 ▸ sp_any (w := W) (c := d) (x := xs.getD i 0) HY.out (by omega) h : Calls Try.prog 51 #[.slice (some ⟨b1, o1, none⟩) k d, .int .i64 (xs.getD i 0)] W fun e w' => e = .returned (.int .i64 (p : Int)) ∧ w' = W)
                  have HAT := hide fun (W : World) (h : Below w.heap.size w W) => show W.cell? ⟨b2, o2 + i, none⟩ = some (.int .i64 (xs.getD i 0)) by
                    obtain ⟨_, _, e, q⟩ := (HA.out.below h).at (i := i) (by rw [HX.out]; exact hil)
                    cases e; exact q
                  generalize ws.getD i 0 = g at *
                  generalize xs.getD i 0 = x at *
                  clear hb e1 hin HEN HSTP HAW
                  go_wp2_with fail
                  go_quiet (fail)
                  have hown := HOD.out nq
                  have hbd := HBD.out nq
                  clear HOD HBD c0 q1 q2 HOI HBI
                  generalize wr.drewN nq = W at *
                  have f0 := hown.frozenAt i
                  have c0 : W.cell? ⟨w.heap.size, i, none⟩ = some (.bool (l.getD i true)) := by
                    rw [hown.cellAt i (by rw [Nat.mul_one]; exact hil), bls_get _ i (by rw [hll]; exact hil) true]
                  obtain ⟨st1, st2⟩ := hown.stored i (.bool true)
                  rw [bls_set] at st1
                  have HB5 := hide (hbd.trans (grown_below' st2 (Nat.le_refl _) hbd.size))
                  have q3 := HAT.out _ HB5.out
                  have HSQ := hide (HSP.out _ (HB.out.below HB5.out))
                  have HO5 := hide st1
                  clear st1 st2 hown hbd HSP HAT
                  go_wp2_with fail
                  refine HSQ.out.mono ?_
                  rintro z w4 ⟨rfl, hw4⟩
                  subst hw4
                  by_cases hpk : p = j
                  · have HI3 := hide (HI2.out (q + 1) (fun _ => rfl) (fun h => absurd hpk h))
                    subst hpk
                    go_wp2_with fail
                    go_roundg (gk - 1)
                    case measure => omega
                    case rel => exact ⟨p, t + 1, q + 1, _, by go_num, rfl, by omega, HI3, HO5, HB5⟩
                  · have HI3 := hide (HI2.out q (fun h => absurd h hpk) (fun _ => rfl))
                    have hpj : ¬ (p : Int) = (j : Int) := by omega
                    go_wp2_with fail
                    go_roundg (gk - 1)
                    case measure => omega
                    case rel => exact ⟨p, t + 1, q, _, rfl, rfl, by omega, HI3, HO5, HB5⟩
              · have hd0 : decide (0 < xs.getD i 0) = false := decide_eq_false hg
                obtain ⟨e1, e2, e3⟩ := HEN.out (Or.inr fun h => hg (HAW.out.2 h).1)
                have HE2 := hide e2
                have HE3 := hide e3
                generalize ws.getD i 0 = g at *
                generalize xs.getD i 0 = x at *
                clear hb e2 e3 HEN HSTP HAW
                go_wp2_with fail
                go_quiet (fail)
                go_wp2_with fail
                go_roundw
                case rel => exact ⟨j + 1, q, l, rfl, by go_num, by omega, e1, HE2, HE3, hide (HOD.out _), hide (HBD.out _)⟩
                case measure => simp only [intOf]; omega
            · rw [hb] at c0
              obtain ⟨e1, e2, e3⟩ := HEN.out (Or.inl hb)
              have HE2 := hide e2
              have HE3 := hide e3
              generalize ws.getD i 0 = g at *
              generalize xs.getD i 0 = x at *
              clear hb e2 e3 HEN HSTP HAW
              go_wp2_with fail
              go_quiet (fail)
              go_wp2_with fail
              go_roundw
              case rel => exact ⟨j + 1, q, l, rfl, by go_num, by omega, e1, HE2, HE3, hide (HOD.out _), hide (HBD.out _)⟩
              case measure => simp only [intOf]; omega
        · have hje : j = k := by omega
          subst hje
          have HFI : Hid (AR j j xs ws e r) := hide ⟨HI.out, HIS.out⟩
          go_wp2_with fail
          go_ret2
          exact ⟨e, r, rfl, HFI.out, HBW.out⟩
end Go.Proofs.Ytdigcbjkobjdmaa
