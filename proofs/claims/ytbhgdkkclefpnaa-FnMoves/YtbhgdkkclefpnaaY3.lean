/-
  In one: Nf10, Ng10, Q, R, S, Hs, Ht, Dr10, Ds10, Mn10, Mf10, Bk10, Bm10, Mo10, Na10, Nb10, Mg10.
-/
import Derived.Test.YtbhgdkkclefpnaaY2
import Derived.Test.YtbhgdkkclefpnaaY1
import Derived.Deep.AppendLies
import Derived.Deep.DeepCutAuto
import Derived.Laws.EntriesVeiled
import Derived.Lib.AppendZeros
import Derived.Deep.LoopGhost
namespace Go.Proofs.Ytbhgdkkclefpnaa
open Go.RowKit

abbrev nx (n : Nat) (xs ws : List Int) : Mv.PF := Mv.nxt n (Mx.fn xs) (Mx.fn ws)
/-- How the marking walk from k stands. -/
structure In (n k K gk t i r r' : Nat) (xs ws : List Int) (m l : List Bool) : Prop where
  sw : Mv.Sw n (nx n xs ws) k t i m l
  lt : i < n
  sum : t + gk = K
  rr : (0 < t ∧ i = k ∧ r' = r + 1) ∨ (¬ (0 < t ∧ i = k) ∧ r' = r)
def Stp (n k K : Nat) (xs ws : List Int) : Prop := ∀ x, Mv.it (nx n xs ws) K k = some x → (0 < K ∧ x = k) ∨ nx n xs ws x = none
theorem in_start {n k r : Nat} {xs ws : List Int} {m : List Bool} (h2 : Mv.Two n (Mx.fn xs) (Mx.fn ws)) (hm : m.length = n) (hk : k < n) : ∃ K, Stp n k K xs ws ∧ In n k K K 0 k r r xs ws m m := by
  obtain ⟨K, hK⟩ := Mv.stop_of (n := n) (Mv.nxt_inj h2) (fun i x e => (Mv.nxt_some e).1) k
  exact ⟨K, hK, Mv.Sw.start hm, hk, by omega, Or.inr ⟨fun h => by omega, rfl⟩⟩
theorem in_step {n k K gk t i r r' : Nat} {xs ws : List Int} {m l : List Bool} (hy : ws.length = n) (h2 : Mv.Two n (Mx.fn xs) (Mx.fn ws)) (hK : Stp n k K xs ws) (h : In n k K gk t i r r' xs ws m l) (hl : l.getD i true = false) (ha : Mv.Away (Mx.fn xs) (Mx.fn ws) i) : ∃ q : Nat, Ma.idx ws (xs.getD i 0) = (q : Int) ∧ 0 < gk ∧ r' = r ∧ ∀ r2, (q = k → r2 = r + 1) → (q ≠ k → r2 = r) → In n k K (gk - 1) (t + 1) q r r2 xs ws m (l.set i true) := by
  obtain ⟨q, e1, e2, hq⟩ := idx_nxt hy h2 h.lt ha
  have hno : ¬ (0 < t ∧ i = k) := fun ⟨h0, e⟩ => by
    have := (h.sw.marks i h.lt).2 (Or.inr ⟨0, h0, by rw [e]; rfl⟩)
    rw [hl] at this; cases this
  have hs := h.sum
  have hg : 0 < gk := by
    apply Nat.pos_of_ne_zero
    rintro rfl
    rcases hK i (by rw [← hs]; exact h.sw.now) with ⟨h0, e⟩ | e
    · exact hno ⟨by omega, e⟩
    · rw [show nx n xs ws i = some q from e1] at e; cases e
  refine ⟨q, e2, hg, ?_, fun r2 h3 h4 => ⟨h.sw.step h.lt hl e1, hq, by omega, ?_⟩⟩
  · rcases h.rr with ⟨a, b, _⟩ | ⟨_, e⟩
    · exact absurd ⟨a, b⟩ hno
    · exact e
  · by_cases e : q = k
    · exact Or.inl ⟨by omega, e, h3 e⟩
    · exact Or.inr ⟨fun h => e h.2, h4 e⟩
theorem in_end {n k K gk t i r r' : Nat} {xs ws : List Int} {m l : List Bool} (h2 : Mv.Two n (Mx.fn xs) (Mx.fn ws)) (hk : k < n) (hm : Mv.Mk n (nx n xs ws) k m) (hr : Mv.Is k (Mv.Lead (nx n xs ws)) r) (h : In n k K gk t i r r' xs ws m l) (hs : l.getD i true = true ∨ ¬ Mv.Away (Mx.fn xs) (Mx.fn ws) i) : l.length = n ∧ Mv.Mk n (nx n xs ws) (k + 1) l ∧ Mv.Is (k + 1) (Mv.Lead (nx n xs ws)) r' := by
  obtain ⟨h3, h4⟩ := Mv.Sw.fin (Mv.nxt_inj h2) hk h.lt hm h.sw (hs.imp id fun e => Mv.nxt_none fun e' => e e'.2)
  refine ⟨h.sw.len, h3, ?_⟩
  rcases h.rr with ⟨a, b, e⟩ | ⟨a, e⟩
  · rw [e]; exact hr.yes (h4.2 ⟨a, b⟩)
  · rw [e]; exact hr.no fun h => a (h4.1 h)
theorem mk_zero (n : Nat) (s : Mv.PF) : Mv.Mk n s 0 (List.replicate n false) := fun x hx => by
  refine ⟨fun h => ?_, fun ⟨_, j, hj, _⟩ => by omega⟩
  simp [hx] at h
set_option maxRecDepth 100000 in
set_option maxHeartbeats 4000000 in
theorem lr_any {a b : Option Addr} {n c d : Nat} {xs ws : List Int} {w : World} (hn : n ≤ 9) (HX : Hid (xs.length = n)) (HY : Hid (ws.length = n)) (HA : Hid (ARow w a xs)) (HB : Hid (ARow w b ws)) (HT : Hid (Mv.Two n (Mx.fn xs) (Mx.fn ws))) :
    Calls Try.prog 31 #[.slice a n c, .slice b n d] w fun e w' => ∃ A R : Nat, e = .returned (.tuple #[.int .i64 A, .int .i64 R]) ∧ AR n n xs ws A R ∧ Below w.heap.size w w' := by
  have hmk := makeB_run n (by omega)
  have HM := hide (madeB_own w n (by omega))
  have hbn := below_new w (.cells (madeCells #[.bool false] n) 4)
  obtain ⟨W2, hW2⟩ : ∃ W, W = w.alloc (.cells (madeCells #[.bool false] n) 4) := ⟨_, rfl⟩
  have hmo := HM.out
  rw [← hW2] at hbn hmo
  have HMO := hide hmo
  have HBN := hide hbn
  have HAR := hide (HA.out.below hbn)
  have HBR := hide (HB.out.below hbn)
  have HW2 := hide hW2.symm
  clear HM hmo hbn hW2
  go_enter Try.func31, Try.ntmps31
  go_wp2_with fail
  rw [HW2.out]
  clear hmk HW2
  go_loop [6, 9, 10, 18] (fun s6 _ _ s => ∃ (k e : Nat), s6 = .int .i64 e ∧ s = .int .i64 k ∧ k ≤ n ∧ Hid (Mv.Is k (Mv.Away (Mx.fn xs) (Mx.fn ws)) e)) (fun _ _ _ s => n - (intOf s).toNat)
  case atStart => exact ⟨0, 0, rfl, rfl, Nat.zero_le _, hide (Mv.Is.zero _)⟩
  case round =>
    obtain ⟨k, e, rfl, rfl, hk, HI⟩ := hrel
    have he := HI.out.le
    by_cases hlt : k < n
    · obtain ⟨b1, o1, rfl, q1⟩ := HBR.out.at (i := k) (by rw [HY.out]; exact hlt)
      obtain ⟨b2, o2, rfl, q2⟩ := HAR.out.at (i := k) (by rw [HX.out]; exact hlt)
      have i0 : (0 : Int) ≤ (k : Int) := by omega
      have i1 : (k : Int) < (n : Int) := by omega
      have HAW : Hid ((0 < xs.getD k 0 ∧ ws.getD k 0 ≠ xs.getD k 0) ↔ Mv.Away (Mx.fn xs) (Mx.fn ws) k) := hide Iff.rfl
      generalize ws.getD k 0 = g at *
      generalize xs.getD k 0 = x at *
      by_cases hg : 0 < x
      · cases hx0 : (g != x)
        · have H1 := hide (HI.out.no fun h => by have := (HAW.out.2 h).2; rw [← bne_iff_ne, hx0] at this; cases this)
          go_wp2_with fail
          go_round
          case rel => exact ⟨k + 1, e, rfl, by go_num, by omega, H1⟩
          case measure => simp only [intOf]; omega
        · have H1 := hide (HI.out.yes (HAW.out.1 ⟨hg, bne_iff_ne.1 hx0⟩))
          go_wp2_with fail
          go_round
          case rel => exact ⟨k + 1, e + 1, by go_num, by go_num, by omega, H1⟩
          case measure => simp only [intOf]; omega
      · have H1 := hide (HI.out.no fun h => hg (HAW.out.2 h).1)
        go_wp2_with fail
        go_round
        case rel => exact ⟨k + 1, e, rfl, by go_num, by omega, H1⟩
        case measure => simp only [intOf]; omega
    · have hke : k = n := by omega
      subst hke
      go_wp2_with fail
      go_loopw [7, 11, 12, 38] (fun s7 _ _ s wr => ∃ (j r : Nat) (m : List Bool), s7 = .int .i64 r ∧ s = .int .i64 j ∧ j ≤ k ∧ m.length = k ∧ Hid (Mv.Mk k (nx k xs ws) j m) ∧ Hid (Mv.Is j (Mv.Lead (nx k xs ws)) r) ∧ Hid (wr.ownsRow w.heap.size 4 1 (.slice (some ⟨w.heap.size, 0, none⟩) k k) k (bls m)) ∧ Hid (Below w.heap.size w wr)) (fun _ _ _ s _ => k - (intOf s).toNat)
      case atStart => exact ⟨0, 0, List.replicate k false, rfl, rfl, Nat.zero_le _, by simp, hide (mk_zero _ _), hide (Mv.Is.zero _), HMO, HBN⟩
      case round =>
        obtain ⟨j, r, m, rfl, rfl, hj, hm, HMK, HIS, HO, HBW⟩ := hrel
        have hr := HIS.out.le
        by_cases hjl : j < k
        · obtain ⟨K, hst, hin⟩ := in_start (r := r) HT.out hm hjl
          have HST := hide hst
          have HIN := hide hin
          have k0 : (0 : Int) ≤ (j : Int) := by omega
          clear hst hin
          go_wp2_with fail
          go_loopg [7, 12] K (fun gk s7 s12 wi => ∃ (i t q : Nat) (l : List Bool), s7 = .int .i64 q ∧ s12 = .int .i64 i ∧ q ≤ 10 ∧ Hid (In k j K gk t i r q xs ws m l) ∧ Hid (wi.ownsRow w.heap.size 4 1 (.slice (some ⟨w.heap.size, 0, none⟩) k k) k (bls l)) ∧ Hid (Below w.heap.size w wi))
          case atStart => exact ⟨j, 0, r, m, rfl, rfl, by omega, HIN, HO, HBW⟩
          case round =>
            obtain ⟨i, t, q, l, rfl, rfl, hq, HN, HOI, HBI⟩ := hrel
            have hil := HN.out.lt
            have j0 : (0 : Int) ≤ (i : Int) := by omega
            have j1 : (i : Int) < (k : Int) := by omega
            have hll := HN.out.sw.len
            have c0 : wr.cell? ⟨w.heap.size, i, none⟩ = some (.bool (l.getD i true)) := by
              rw [HOI.out.cellAt i (by rw [Nat.mul_one]; exact hil), bls_get _ i (by rw [hll]; exact hil) true]
            obtain ⟨b1, o1, rfl, q1⟩ := (HB.out.below HBI.out).at (i := i) (by rw [HY.out]; exact hil)
            obtain ⟨b2, o2, rfl, q2⟩ := (HA.out.below HBI.out).at (i := i) (by rw [HX.out]; exact hil)
            have HAW : Hid ((0 < xs.getD i 0 ∧ ws.getD i 0 ≠ xs.getD i 0) ↔ Mv.Away (Mx.fn xs) (Mx.fn ws) i) := hide Iff.rfl
            have HEN := hide fun (h : l.getD i true = true ∨ ¬ Mv.Away (Mx.fn xs) (Mx.fn ws) i) => in_end HT.out hjl HMK.out HIS.out HN.out h
            have HSTP := hide fun (h : l.getD i true = false) (ha : Mv.Away (Mx.fn xs) (Mx.fn ws) i) => in_step HY.out HT.out HST.out HN.out h ha
            have HOD := hide fun (z : Nat) => g_own HOI.out (below_drewN (Below.refl wr.heap.size wr) z)
            have HBD := hide fun (z : Nat) => below_drewN HBI.out z
            cases hb : l.getD i true
            · rw [hb] at c0
              by_cases hg : 0 < xs.getD i 0
              · cases hx0 : (ws.getD i 0 != xs.getD i 0)
                · obtain ⟨e1, e2, e3⟩ := HEN.out (Or.inr fun h => by have := (HAW.out.2 h).2; rw [← bne_iff_ne, hx0] at this; cases this)
                  have HE2 := hide e2
                  have HE3 := hide e3
                  generalize ws.getD i 0 = g at *
                  generalize xs.getD i 0 = x at *
                  clear hb e2 e3 HEN HSTP HAW
                  go_wp2_with fail
                  go_quiet (fail)
                  go_wp2_with fail
                  go_roundw
                  case rel => exact ⟨j + 1, q, l, rfl, by go_num, by omega, e1, HE2, HE3, hide (HOD.out _), hide (HBD.out _)⟩
                  case measure => simp only [intOf]; omega
                · obtain ⟨p, e1, hg0, hqr, hin⟩ := HSTP.out hb (HAW.out.1 ⟨hg, bne_iff_ne.1 hx0⟩)
                  subst hqr
                  have HI2 := hide hin
                  have HSP := hide fun (W : World) (h : ARow W (some ⟨b1, o1, none⟩) ws) => (e1 ▸ sp_any (w := W) (c := d) (x := xs.getD i 0) HY.out (by omega) h : Calls Try.prog 43 #[.slice (some ⟨b1, o1, none⟩) k d, .int .i64 (xs.getD i 0)] W fun e w' => e = .returned (.int .i64 (p : Int)) ∧ w' = W)
                  have HAT := hide fun (W : World) (h : Below w.heap.size w W) => show W.cell? ⟨b2, o2 + i, none⟩ = some (.int .i64 (xs.getD i 0)) by
                    obtain ⟨_, _, e, q⟩ := (HA.out.below h).at (i := i) (by rw [HX.out]; exact hil)
                    cases e; exact q
                  generalize ws.getD i 0 = g at *
                  generalize xs.getD i 0 = x at *
                  clear hb e1 hin HEN HSTP HAW
                  go_wp2_with fail
                  go_quiet (fail)
                  have hown := HOD.out nq
                  have hbd := HBD.out nq
                  clear HOD HBD c0 q1 q2 HOI HBI
                  generalize wr.drewN nq = W at *
                  have f0 := hown.frozenAt i
                  have c0 : W.cell? ⟨w.heap.size, i, none⟩ = some (.bool (l.getD i true)) := by
                    rw [hown.cellAt i (by rw [Nat.mul_one]; exact hil), bls_get _ i (by rw [hll]; exact hil) true]
                  obtain ⟨st1, st2⟩ := hown.stored i (.bool true)
                  rw [bls_set] at st1
                  have HB5 := hide (hbd.trans (grown_below' st2 (Nat.le_refl _) hbd.size))
                  have q3 := HAT.out _ HB5.out
                  have HSQ := hide (HSP.out _ (HB.out.below HB5.out))
                  have HO5 := hide st1
                  clear st1 st2 hown hbd HSP HAT
                  go_wp2_with fail
                  refine HSQ.out.mono ?_
                  rintro z w4 ⟨rfl, hw4⟩
                  subst hw4
                  by_cases hpk : p = j
                  · have HI3 := hide (HI2.out (q + 1) (fun _ => rfl) (fun h => absurd hpk h))
                    subst hpk
                    go_wp2_with fail
                    go_roundg (gk - 1)
                    case measure => omega
                    case rel => exact ⟨p, t + 1, q + 1, _, by go_num, rfl, by omega, HI3, HO5, HB5⟩
                  · have HI3 := hide (HI2.out q (fun h => absurd h hpk) (fun _ => rfl))
                    have hpj : ¬ (p : Int) = (j : Int) := by omega
                    go_wp2_with fail
                    go_roundg (gk - 1)
                    case measure => omega
                    case rel => exact ⟨p, t + 1, q, _, rfl, rfl, by omega, HI3, HO5, HB5⟩
              · have hd0 : decide (0 < xs.getD i 0) = false := decide_eq_false hg
                obtain ⟨e1, e2, e3⟩ := HEN.out (Or.inr fun h => hg (HAW.out.2 h).1)
                have HE2 := hide e2
                have HE3 := hide e3
                generalize ws.getD i 0 = g at *
                generalize xs.getD i 0 = x at *
                clear hb e2 e3 HEN HSTP HAW
                go_wp2_with fail
                go_quiet (fail)
                go_wp2_with fail
                go_roundw
                case rel => exact ⟨j + 1, q, l, rfl, by go_num, by omega, e1, HE2, HE3, hide (HOD.out _), hide (HBD.out _)⟩
                case measure => simp only [intOf]; omega
            · rw [hb] at c0
              obtain ⟨e1, e2, e3⟩ := HEN.out (Or.inl hb)
              have HE2 := hide e2
              have HE3 := hide e3
              generalize ws.getD i 0 = g at *
              generalize xs.getD i 0 = x at *
              clear hb e2 e3 HEN HSTP HAW
              go_wp2_with fail
              go_quiet (fail)
              go_wp2_with fail
              go_roundw
              case rel => exact ⟨j + 1, q, l, rfl, by go_num, by omega, e1, HE2, HE3, hide (HOD.out _), hide (HBD.out _)⟩
              case measure => simp only [intOf]; omega
        · have hje : j = k := by omega
          subst hje
          have HFI : Hid (AR j j xs ws e r) := hide ⟨HI.out, HIS.out⟩
          go_wp2_with fail
          go_ret2
          exact ⟨e, r, rfl, HFI.out, HBW.out⟩
end Go.Proofs.Ytbhgdkkclefpnaa
namespace Go.Proofs.Ytbhgdkkclefpnaa
open Go.RowKit

/-- What is answered: how many are elsewhere and how many rings there are, or nothing. -/
def Ans (xs ws : List Int) (A R : Int) : Prop := (Mx.sameB xs ws = true ∧ ∃ a r : Nat, A = a ∧ R = r ∧ AR xs.length xs.length xs ws a r) ∨ (Mx.sameB xs ws = false ∧ A = 0 ∧ R = 0)
theorem ans_some (xs ws : List Int) : ∃ A R, Ans xs ws A R := by
  cases h : Mx.sameB xs ws
  · exact ⟨0, 0, Or.inr ⟨h, rfl, rfl⟩⟩
  · obtain ⟨a, ha⟩ := Mv.Is.some xs.length (Mv.Away (Mx.fn xs) (Mx.fn ws))
    obtain ⟨r, hr⟩ := Mv.Is.some xs.length (Mv.Lead (Mv.nxt xs.length (Mx.fn xs) (Mx.fn ws)))
    exact ⟨a, r, Or.inl ⟨h, a, r, rfl, rfl, ha, hr⟩⟩
theorem ans_bd {xs ws : List Int} {A R : Int} (h : Ans xs ws A R) : 0 ≤ A ∧ A ≤ 9 ∧ 0 ≤ R ∧ R ≤ 9 := by
  rcases h with ⟨hs, a, r, rfl, rfl, h1, h2⟩ | ⟨_, rfl, rfl⟩
  · have hn := (Mx.good_len (Mx.same_good hs).1).2
    have := h1.le
    have := h2.le
    omega
  · omega
theorem ar_one {k n : Nat} {xs ws : List Int} {a r a' r' : Nat} (h : AR k n xs ws a r) (h' : AR k n xs ws a' r') : a = a' ∧ r = r' := ⟨h.1.one h'.1, h.2.one h'.2⟩
theorem ro_w {a b : Option Addr} {n m c d : Nat} {xs ws : List Int} {A R : Int} {w : World} (hx : xs.length = n) (hy : ws.length = m) (hc : n ≤ c) (hd : m ≤ d) (hans : Ans xs ws A R) (ha : ARow w a xs) (hb : ARow w b ws) :
    Calls Try.prog 30 #[.slice a n c, .slice b m d] w fun e w' => e = .returned (.tuple #[.int .i64 A, .int .i64 R, .bool (Mx.sameB xs ws)]) ∧ Below w.heap.size w w' := by
  rcases hans with ⟨hs, A0, R0, rfl, rfl, hAR⟩ | ⟨hs, rfl, rfl⟩
  · obtain ⟨e2, h2⟩ := Mx.same_two hs hx
    obtain rfl : n = m := by omega
    have hn := (Mx.good_len (Mx.same_good hs).1).2
    rw [hs]
    refine (ro_yes (hide hx) (hide hy) (by omega) hc hd (hide ha) (hide hb) (hide hs) (hide h2)).mono ?_
    rintro e w' ⟨A1, R1, rfl, h1, hw⟩
    rw [hx] at hAR
    obtain ⟨rfl, rfl⟩ := ar_one hAR h1
    exact ⟨rfl, hw⟩
  · rw [hs]
    exact ro_no (hide hx) (hide hy) hc hd (hide ha) (hide hb) (hide hs)
set_option maxRecDepth 100000 in
set_option maxHeartbeats 400000 in
theorem mn_w {a b : Option Addr} {n m c d : Nat} {xs ws : List Int} {A R : Int} {w : World} (hx : xs.length = n) (hy : ws.length = m) (hc : n ≤ c) (hd : m ≤ d) (hans : Ans xs ws A R) (ha : ARow w a xs) (hb : ARow w b ws) :
    Calls Try.prog 7 #[.slice a n c, .slice b m d] w fun e w' => e = .returned (.tuple #[.int .i64 (A + R), .bool (Mx.sameB xs ws)]) ∧ Below w.heap.size w w' := by
  have HR := hide (ro_w (c := c) (d := d) hx hy hc hd hans ha hb)
  obtain ⟨g0, g1, g2, g3⟩ := ans_bd hans
  generalize Mx.sameB xs ws = G at *
  clear hans ha hb
  go_enter Try.func7, Try.ntmps7
  go_wp2_with fail
  refine HR.out.mono ?_
  rintro e w1 ⟨rfl, hw⟩
  have HW := hide hw
  clear hw
  go_wp2_with fail
  go_ret2
  exact ⟨by go_num, HW.out⟩
set_option maxRecDepth 100000 in
set_option maxHeartbeats 400000 in
theorem smn_w {a b : Option Addr} {n m c d : Nat} {xs ws : List Int} {A R : Int} {w : World} (hx : xs.length = n) (hy : ws.length = m) (hc : n ≤ c) (hd : m ≤ d) (hans : Ans xs ws A R) (ha : ARow w a xs) (hb : ARow w b ws) :
    Calls Try.prog 8 #[.slice a n c, .slice b m d] w fun e w' => e = .returned (.tuple #[.int .i64 (A + R), .bool (Mx.sameB xs ws)]) ∧ Below w.heap.size w w' := by
  obtain ⟨g0, g1, g2, g3⟩ := ans_bd hans
  rcases hans with ⟨hs, A0, R0, rfl, rfl, hAR⟩ | ⟨hs, rfl, rfl⟩
  · obtain ⟨e2, h2⟩ := Mx.same_two hs hx
    obtain rfl : n = m := by omega
    have hn := (Mx.good_len (Mx.same_good hs).1).2
    rw [hs]
    rw [hx] at hAR hn
    have HL := hide (lb_eq (c := c) (d := d) (hide hx) (hide hy) hc hd (hide ha) (hide hb) (hide hs))
    have HR := hide (lr_any (c := c) (d := d) hn (hide hx) (hide hy) (hide ha) (hide hb) (hide h2))
    have HAR := hide hAR
    clear hs h2 hAR ha hb
    go_enter Try.func8, Try.ntmps8
    go_wp2_with fail
    refine HL.out.mono ?_
    rintro e w1 ⟨rfl, hw1⟩
    subst hw1
    go_wp2_with fail
    refine HR.out.mono ?_
    rintro e w2 ⟨A1, R1, rfl, h1, hw⟩
    obtain ⟨rfl, rfl⟩ := ar_one HAR.out h1
    have HW := hide hw
    clear hw h1
    go_wp2_with fail
    go_ret2
    exact ⟨by go_num, HW.out⟩
  · rw [hs]
    have HL := hide (lb_eq (c := c) (d := d) (hide hx) (hide hy) hc hd (hide ha) (hide hb) (hide hs))
    clear hs ha hb
    go_enter Try.func8, Try.ntmps8
    go_wp2_with fail
    refine HL.out.mono ?_
    rintro e w1 ⟨rfl, hw1⟩
    subst hw1
    go_wp2_with fail
    go_ret2
    exact ⟨by go_num, Below.refl _ _⟩
end Go.Proofs.Ytbhgdkkclefpnaa
namespace Go.Proofs.Ytbhgdkkclefpnaa
open Go.RowKit

/-- All old blocks but 'c' are as they were. -/
structure Kp (c : Nat) (w w' : World) : Prop where
  os : w'.os = w.os
  tape : w'.tape = w.tape
  output : w'.output = w.output
  size : w.heap.size ≤ w'.heap.size
  block : ∀ k, k < w.heap.size → k ≠ c → w'.heap[k]? = w.heap[k]?
theorem Kp.refl (c : Nat) (w : World) : Kp c w w := ⟨rfl, rfl, rfl, Nat.le_refl _, fun _ _ _ => rfl⟩
theorem Kp.trans {c : Nat} {a b d : World} (h : Kp c a b) (k : Kp c b d) : Kp c a d :=
  ⟨k.os.trans h.os, k.tape.trans h.tape, k.output.trans h.output, Nat.le_trans h.size k.size, fun i hi hne => (k.block i (Nat.lt_of_lt_of_le hi h.size) hne).trans (h.block i hi hne)⟩
theorem Kp.of_below {c : Nat} {a b : World} (h : Below a.heap.size a b) : Kp c a b := ⟨h.os, h.tape, h.output, h.size, fun k hk _ => h.block k hk⟩
theorem Kp.below {c B : Nat} {a b : World} (h : Kp c a b) (hB : B ≤ c) (hs : B ≤ a.heap.size) : Below B a b := ⟨h.os, h.tape, h.output, h.size, fun k hk => h.block k (by omega) (by omega)⟩
theorem Kp.cell {c : Nat} {w w' : World} (h : Kp c w w') {b o : Nat} (hb : b < w.heap.size) (hne : b ≠ c) : w'.cell? ⟨b, o, none⟩ = w.cell? ⟨b, o, none⟩ := World.cell?_of_block (w := w) (h.block b hb hne)
theorem Kp.frozen {c : Nat} {w w' : World} (h : Kp c w w') {b o : Nat} (hb : b < w.heap.size) (hne : b ≠ c) : w'.frozen? ⟨b, o, none⟩ = w.frozen? ⟨b, o, none⟩ := World.frozen?_of_block (w := w) (h.block b hb hne)
theorem Kp.drewN {c : Nat} {a w : World} (h : Kp c a w) (n : Nat) : Kp c a (w.drewN n) := ⟨h.os, h.tape, h.output, h.size, h.block⟩
theorem Kp.setCell {c : Nat} {a w : World} (h : Kp c a w) (o : Nat) (v : Value) : Kp c a (w.setCell ⟨c, o, none⟩ v) :=
  ⟨h.os, h.tape, h.output, by simpa using h.size, fun k hk hne => (Below.heap_setCell w ⟨c, o, none⟩ v k hne).trans (h.block k hk hne)⟩

/-- The bytes that the cursor reads lie in old memory. -/
def Bytes (w : World) (a : Option Addr) (len : Nat) : Prop := len = 0 ∨ ∃ b off, a = some ⟨b, off, none⟩ ∧ ∀ i, i < len → ∃ z : Int, w.cell? ⟨b, off + i, none⟩ = some (.int .u8 z) ∧ 0 ≤ z ∧ z ≤ 255
/-- A cursor lies in block c; it has read at most N bytes. -/
def Cur (w : World) (c : Nat) (a : Option Addr) (len cap N : Nat) : Prop :=
  c < w.heap.size ∧ w.cell? ⟨c, 0, none⟩ = some (.slice a len cap) ∧ (∃ at_ : Nat, w.cell? ⟨c, 1, none⟩ = some (.int .i64 at_) ∧ at_ ≤ N) ∧ (∃ s : Int, w.cell? ⟨c, 2, none⟩ = some (.int .u64 s) ∧ 0 ≤ s ∧ s < 18446744073709551616) ∧
  w.frozen? ⟨c, 1, none⟩ = false ∧ w.frozen? ⟨c, 2, none⟩ = false ∧ Bytes w a len ∧ (∀ b off, a = some ⟨b, off, none⟩ → 0 < len → b ≠ c ∧ b < w.heap.size)

theorem u64_bd (x : Int) : 0 ≤ IntKind.u64.wrap x ∧ IntKind.u64.wrap x < 18446744073709551616 := by
  simp [IntKind.wrap, IntKind.bits, IntKind.signed]; omega

theorem and255 (E : Int) (h0 : 0 ≤ E) (h1 : E ≤ 18446744073709551615) : 0 ≤ wrap64 (bits BinOp.and IntKind.u64 E 255) ∧ wrap64 (bits BinOp.and IntKind.u64 E 255) ≤ 255 := by
  have h := bits_and_u64_nat E.toNat 255 (by omega) (by omega)
  rw [show (255 : Nat) = 2 ^ 8 - 1 by decide, Nat.and_two_pow_sub_one_eq_mod, Int.toNat_of_nonneg h0] at h
  have h2 : bits BinOp.and IntKind.u64 E 255 = ((E.toNat % 2 ^ 8 : Nat) : Int) := h
  rw [h2, wrap_id _ (by omega) (by omega)]
  omega

set_option maxRecDepth 100000 in
set_option maxHeartbeats 1000000 in
theorem next_in (c b off len cap at_ : Nat) (s z : Int) (w : World) (h0 : w.cell? ⟨c, 0, none⟩ = some (.slice (some ⟨b, off, none⟩) len cap)) (h1 : w.cell? ⟨c, 1, none⟩ = some (.int .i64 at_)) (h2 : w.cell? ⟨c, 2, none⟩ = some (.int .u64 s))
    (f1 : w.frozen? ⟨c, 1, none⟩ = false) (f2 : w.frozen? ⟨c, 2, none⟩ = false) (hN : at_ ≤ 1000000000) (hlt : at_ < len) (hz : w.cell? ⟨b, off + at_, none⟩ = some (.int .u8 z)) (z0 : 0 ≤ z) (z1 : z ≤ 255) :
    Calls Try.prog 53 #[.pointer (some ⟨c, 0, none⟩)] w fun e w' => e = .returned (.int .i64 z) ∧ ∃ k k' s', 0 ≤ s' ∧ s' < 18446744073709551616 ∧ w' = ((((w.drewN k).setCell ⟨c, 1, none⟩ (.int .i64 ((at_ : Int) + 1))).setCell ⟨c, 2, none⟩ (.int .u64 s')).drewN k') := by
  have i0 : (0 : Int) ≤ (at_ : Int) := by omega
  have i1 : (at_ : Int) < (len : Int) := by omega
  go_enter Try.func53, Try.ntmps53
  go_wp2
  go_quiet (fail)
  go_wp2
  go_quiet (fail)
  go_wp2
  go_quiet (fail)
  go_wp2
  go_ret
  exact ⟨rfl, _, _, _, (u64_bd _).1, (u64_bd _).2, rfl⟩

set_option maxRecDepth 100000 in
set_option maxHeartbeats 1000000 in
theorem next_out (c len cap at_ : Nat) (a : Option Addr) (s : Int) (w : World) (h0 : w.cell? ⟨c, 0, none⟩ = some (.slice a len cap)) (h1 : w.cell? ⟨c, 1, none⟩ = some (.int .i64 at_)) (h2 : w.cell? ⟨c, 2, none⟩ = some (.int .u64 s))
    (f1 : w.frozen? ⟨c, 1, none⟩ = false) (f2 : w.frozen? ⟨c, 2, none⟩ = false) (hN : at_ ≤ 1000000000) (hlt : len ≤ at_) :
    Calls Try.prog 53 #[.pointer (some ⟨c, 0, none⟩)] w fun e w' => ∃ z : Int, e = .returned (.int .i64 z) ∧ 0 ≤ z ∧ z ≤ 255 ∧ ∃ k k' s', 0 ≤ s' ∧ s' < 18446744073709551616 ∧ w' = ((((w.drewN k).setCell ⟨c, 1, none⟩ (.int .i64 ((at_ : Int) + 1))).setCell ⟨c, 2, none⟩ (.int .u64 s')).drewN k') := by
  have i1 : ¬ (at_ : Int) < (len : Int) := by omega
  have i2 : ¬ (at_ : Int) + 1 ≤ (len : Int) := by omega
  go_enter Try.func53, Try.ntmps53
  go_wp2
  go_quiet (fail)
  go_wp2
  go_quiet (fail)
  go_wp2
  have hq := u64_bd (IntKind.u64.wrap (IntKind.u64.wrap (s * 6364136223846793005)) + 1442695040888963407)
  have hb := and255 (IntKind.u64.wrap (IntKind.u64.wrap (IntKind.u64.wrap (s * 6364136223846793005)) + 1442695040888963407) / 1099511627776) (by omega) (by omega)
  go_ret
  exact ⟨_, rfl, hb.1, hb.2, _, _, _, hq.1, hq.2, rfl⟩

/-- What 'next' leaves behind. -/
theorem cur_next {c len cap at_ N k k' : Nat} {a : Option Addr} {s' : Int} {w : World} (hc : Cur w c a len cap N) (hN : at_ ≤ N) (hs0 : 0 ≤ s') (hs1 : s' < 18446744073709551616) :
    Cur ((((w.drewN k).setCell ⟨c, 1, none⟩ (.int .i64 ((at_ : Int) + 1))).setCell ⟨c, 2, none⟩ (.int .u64 s')).drewN k') c a len cap (N + 1) ∧ Kp c w ((((w.drewN k).setCell ⟨c, 1, none⟩ (.int .i64 ((at_ : Int) + 1))).setCell ⟨c, 2, none⟩ (.int .u64 s')).drewN k') := by
  obtain ⟨h0, h1, ⟨x, h2, _⟩, ⟨y, h3, _, _⟩, h4, h5, h6, h7⟩ := hc
  have hk : Kp c w ((((w.drewN k).setCell ⟨c, 1, none⟩ (.int .i64 ((at_ : Int) + 1))).setCell ⟨c, 2, none⟩ (.int .u64 s')).drewN k') := ((((Kp.refl c w).drewN k).setCell _ _).setCell _ _).drewN k'
  refine ⟨⟨?_, ?_, ⟨at_ + 1, ?_, by omega⟩, ⟨s', ?_, hs0, hs1⟩, ?_, ?_, ?_, ?_⟩, hk⟩
  · exact Nat.lt_of_lt_of_le h0 hk.size
  · simpa [go_sem] using h1
  · simp [go_sem, h2]
  · simp [go_sem, h3]
  · simpa [go_sem] using h4
  · simpa [go_sem] using h5
  · rcases h6 with h | ⟨b, off, rfl, hb⟩
    · exact Or.inl h
    · refine Or.inr ⟨b, off, rfl, fun i hi => ?_⟩
      obtain ⟨hne, hlt⟩ := h7 b off rfl (by omega)
      obtain ⟨z, hz, hz'⟩ := hb i hi
      exact ⟨z, (hk.cell hlt hne).trans hz, hz'⟩
  · intro b off e hl
    obtain ⟨hne, hlt⟩ := h7 b off e hl
    exact ⟨hne, Nat.lt_of_lt_of_le hlt hk.size⟩

theorem next_any {c len cap N : Nat} {a : Option Addr} {w : World} (hc : Cur w c a len cap N) (hN : N ≤ 1000000000) :
    Calls Try.prog 53 #[.pointer (some ⟨c, 0, none⟩)] w fun e w' => ∃ z : Int, e = .returned (.int .i64 z) ∧ 0 ≤ z ∧ z ≤ 255 ∧ Cur w' c a len cap (N + 1) ∧ Kp c w w' := by
  have hc' := hc
  obtain ⟨h0, h1, ⟨at_, h2, h2'⟩, ⟨y, h3, h3', h3''⟩, h4, h5, h6, h7⟩ := hc
  by_cases hlt : at_ < len
  · rcases h6 with h | ⟨b, off, rfl, hb⟩
    · omega
    · obtain ⟨z, hz, z0, z1⟩ := hb at_ hlt
      refine (next_in c b off len cap at_ y z w h1 h2 h3 h4 h5 (by omega) hlt hz z0 z1).mono ?_
      rintro e w' ⟨rfl, k, k', s', s0, s1, rfl⟩
      exact ⟨z, rfl, z0, z1, cur_next hc' h2' s0 s1⟩
  · refine (next_out c len cap at_ a y w h1 h2 h3 h4 h5 (by omega) (by omega)).mono ?_
    rintro e w' ⟨z, rfl, z0, z1, k, k', s', s0, s1, rfl⟩
    exact ⟨z, rfl, z0, z1, cur_next hc' h2' s0 s1⟩
end Go.Proofs.Ytbhgdkkclefpnaa
namespace Go.Proofs.Ytbhgdkkclefpnaa
open Go.RowKit

theorem Cur.below {w w' : World} {c len cap N : Nat} {a : Option Addr} (h : Cur w c a len cap N) (hb : Below w.heap.size w w') : Cur w' c a len cap N := by
  obtain ⟨h0, h1, ⟨x, h2, h2'⟩, ⟨y, h3, h3', h3''⟩, h4, h5, h6, h7⟩ := h
  obtain ⟨hc, hf⟩ := bcell hb
  refine ⟨Nat.lt_of_lt_of_le h0 hb.size, (hc _ _ h0).trans h1, ⟨x, (hc _ _ h0).trans h2, h2'⟩, ⟨y, (hc _ _ h0).trans h3, h3', h3''⟩, (hf _ _ h0).trans h4, (hf _ _ h0).trans h5, ?_, ?_⟩
  · rcases h6 with h | ⟨b, off, rfl, hbb⟩
    · exact Or.inl h
    · refine Or.inr ⟨b, off, rfl, fun i hi => ?_⟩
      obtain ⟨hne, hlt⟩ := h7 b off rfl (by omega)
      obtain ⟨z, hz, hz'⟩ := hbb i hi
      exact ⟨z, (hc _ _ hlt).trans hz, hz'⟩
  · intro b off e hl
    obtain ⟨hne, hlt⟩ := h7 b off e hl
    exact ⟨hne, Nat.lt_of_lt_of_le hlt hb.size⟩
theorem Cur.le {w : World} {c len cap N M : Nat} {a : Option Addr} (h : Cur w c a len cap N) (hNM : N ≤ M) : Cur w c a len cap M := by
  obtain ⟨h0, h1, ⟨x, h2, h2'⟩, h3, h4, h5, h6, h7⟩ := h
  exact ⟨h0, h1, ⟨x, h2, by omega⟩, h3, h4, h5, h6, h7⟩

set_option maxRecDepth 100000 in
set_option maxHeartbeats 400000 in
theorem pick_one {c len cap N : Nat} {a : Option Addr} {w : World} (n : Int) (h : n ≤ 1) (hc : Cur w c a len cap N) :
    Calls Try.prog 42 #[.pointer (some ⟨c, 0, none⟩), .int .i64 n] w fun e w' => ∃ r : Int, e = .returned (.int .i64 r) ∧ 0 ≤ r ∧ (r < n ∨ r = 0) ∧ Cur w' c a len cap (N + 2) ∧ Kp c w w' := by
  have HC := hide hc
  clear hc
  go_enter Try.func42, Try.ntmps42
  go_wp2_with fail
  go_ret
  exact ⟨0, rfl, by omega, by omega, HC.out.le (by omega), Kp.refl _ _⟩

set_option maxRecDepth 100000 in
set_option maxHeartbeats 400000 in
theorem pick_mid {c len cap N : Nat} {a : Option Addr} {w : World} (n : Int) (h0 : 1 < n) (h1 : n ≤ 200) (hc : Cur w c a len cap N) (hN : N ≤ 900000000) :
    Calls Try.prog 42 #[.pointer (some ⟨c, 0, none⟩), .int .i64 n] w fun e w' => ∃ r : Int, e = .returned (.int .i64 r) ∧ 0 ≤ r ∧ (r < n ∨ r = 0) ∧ Cur w' c a len cap (N + 2) ∧ Kp c w w' := by
  have HC := hide hc
  clear hc
  have h2 : ¬ n ≤ 1 := by omega
  have h3 : ¬ 200 < n := by omega
  have hne : (n == 0) = false := by simp; omega
  go_enter Try.func42, Try.ntmps42
  go_wp2_with fail
  refine (next_any HC.out (by omega)).mono ?_
  rintro e w1 ⟨z, rfl, z0, z1, hc1, hk1⟩
  have HC1 := hide hc1
  clear hc1
  have hr0 := Int.emod_nonneg z (show n ≠ 0 by omega)
  have hr1 := Int.emod_lt_of_pos z (show 0 < n by omega)
  go_wp2_with fail
  go_ret
  exact ⟨_, rfl, hr0, Or.inl hr1, HC1.out.le (by omega), hk1⟩

set_option maxRecDepth 100000 in
set_option maxHeartbeats 400000 in
theorem pick_big {c len cap N : Nat} {a : Option Addr} {w : World} (n : Int) (h0 : 200 < n) (h1 : n ≤ 1000000000) (hc : Cur w c a len cap N) (hN : N ≤ 900000000) :
    Calls Try.prog 42 #[.pointer (some ⟨c, 0, none⟩), .int .i64 n] w fun e w' => ∃ r : Int, e = .returned (.int .i64 r) ∧ 0 ≤ r ∧ (r < n ∨ r = 0) ∧ Cur w' c a len cap (N + 2) ∧ Kp c w w' := by
  have HC := hide hc
  clear hc
  have h2 : ¬ n ≤ 1 := by omega
  have hne : (n == 0) = false := by simp; omega
  go_enter Try.func42, Try.ntmps42
  go_wp2_with fail
  refine (next_any HC.out (by omega)).mono ?_
  rintro e w1 ⟨z, rfl, z0, z1, hc1, hk1⟩
  have HC1 := hide hc1
  clear hc1
  go_wp2_with fail
  refine (next_any HC1.out (by omega)).mono ?_
  rintro e w2 ⟨y, rfl, y0, y1, hc2, hk2⟩
  have HC2 := hide hc2
  clear hc2
  have hr0 := Int.emod_nonneg (z * 256 + y) (show n ≠ 0 by omega)
  have hr1 := Int.emod_lt_of_pos (z * 256 + y) (show 0 < n by omega)
  go_wp2_with fail
  go_ret
  exact ⟨_, rfl, hr0, Or.inl hr1, HC2.out, hk1.trans hk2⟩

theorem pick_any {c len cap N : Nat} {a : Option Addr} {w : World} (n : Int) (h1 : n ≤ 1000000000) (hc : Cur w c a len cap N) (hN : N ≤ 900000000) :
    Calls Try.prog 42 #[.pointer (some ⟨c, 0, none⟩), .int .i64 n] w fun e w' => ∃ r : Int, e = .returned (.int .i64 r) ∧ 0 ≤ r ∧ (r < n ∨ r = 0) ∧ Cur w' c a len cap (N + 2) ∧ Kp c w w' := by
  by_cases ha : n ≤ 1
  · exact pick_one n ha hc
  · by_cases hb : n ≤ 200
    · exact pick_mid n (by omega) hb hc hN
    · exact pick_big n (by omega) h1 hc hN

set_option maxRecDepth 100000 in
set_option maxHeartbeats 400000 in
theorem one_any {c len cap N : Nat} {a : Option Addr} {w : World} (n : Int) (h1 : n ≤ 1000000000) (hc : Cur w c a len cap N) (hN : N ≤ 900000000) :
    Calls Try.prog 41 #[.pointer (some ⟨c, 0, none⟩), .int .i64 n] w fun e w' => ∃ r : Bool, e = .returned (.bool r) ∧ Cur w' c a len cap (N + 2) ∧ Kp c w w' := by
  have HC := hide hc
  clear hc
  go_enter Try.func41, Try.ntmps41
  go_wp2_with fail
  refine (pick_any n h1 HC.out hN).mono ?_
  rintro e w1 ⟨r, rfl, r0, r1, hc1, hk1⟩
  go_wp2_with fail
  go_ret
  exact ⟨_, rfl, hc1, hk1⟩

set_option maxRecDepth 100000 in
set_option maxHeartbeats 400000 in
theorem among_any {c len cap N b l k : Nat} {a : Option Addr} {w : World} (hc : Cur w c a len cap N) (hN : N ≤ 900000000) (hl : 0 < l) (hl1 : l ≤ 1000000) (hb : b < w.heap.size) (hne : b ≠ c)
    (hz : ∀ i, i < l → ∃ z : Int, w.cell? ⟨b, i, none⟩ = some (.int .i64 z)) :
    Calls Try.prog 44 #[.pointer (some ⟨c, 0, none⟩), .slice (some ⟨b, 0, none⟩) l k] w fun e w' => ∃ r : Int, e = .returned (.int .i64 r) ∧ Cur w' c a len cap (N + 2) ∧ Kp c w w' := by
  have HC := hide hc
  have HZ := hide hz
  clear hc hz
  go_enter Try.func44, Try.ntmps44
  go_wp2_with fail
  refine (pick_any (l : Int) (by omega) HC.out hN).mono ?_
  rintro e w1 ⟨r, rfl, r0, r1, hc1, hk1⟩
  have HC1 := hide hc1
  clear hc1
  obtain ⟨i, rfl⟩ := Int.eq_ofNat_of_zero_le r0
  have hi : i < l := by omega
  have hi' : (i : Int) < (l : Int) := by omega
  obtain ⟨z, hcell⟩ := HZ.out i hi
  have hcell' : w1.cell? ⟨b, i, none⟩ = some (.int .i64 z) := (hk1.cell hb hne).trans hcell
  clear r1
  go_wp2_with fail
  go_ret
  exact ⟨_, rfl, HC1.out, hk1⟩
end Go.Proofs.Ytbhgdkkclefpnaa
namespace Go.Proofs.Ytbhgdkkclefpnaa
open Go.RowKit

theorem Kp.alloc {c : Nat} {a w : World} (h : Kp c a w) (o : Obj) : Kp c a (w.alloc o) := h.trans (Kp.of_below (below_alloc w o))
theorem Kp.setNew {c B : Nat} {a w : World} (h : Kp c a w) (hB : a.heap.size ≤ B) (o : Nat) (v : Value) : Kp c a (w.setCell ⟨B, o, none⟩ v) :=
  ⟨h.os, h.tape, h.output, by simpa using h.size, fun k hk hne => (Below.heap_setCell w ⟨B, o, none⟩ v k (by show k ≠ B; omega)).trans (h.block k hk hne)⟩
theorem Cur.set {w : World} {c len cap N B o : Nat} {a : Option Addr} {v : Value} (h : Cur w c a len cap N) (hB : B ≠ c) (hb : ∀ b off, a = some ⟨b, off, none⟩ → 0 < len → b ≠ B) : Cur (w.setCell ⟨B, o, none⟩ v) c a len cap N := by
  obtain ⟨h0, h1, ⟨x, h2, h2'⟩, ⟨y, h3, h3', h3''⟩, h4, h5, h6, h7⟩ := h
  have hc : ∀ i j, i ≠ B → (w.setCell ⟨B, o, none⟩ v).cell? ⟨i, j, none⟩ = w.cell? ⟨i, j, none⟩ := fun i j hi => World.cell?_of_block (w := w) (Below.heap_setCell w ⟨B, o, none⟩ v i hi)
  have hf : ∀ x, (w.setCell ⟨B, o, none⟩ v).frozen? x = w.frozen? x := fun x => World.frozen?_setCell _ _ _ _
  refine ⟨by simpa using h0, (hc _ _ (Ne.symm hB)).trans h1, ⟨x, (hc _ _ (Ne.symm hB)).trans h2, h2'⟩, ⟨y, (hc _ _ (Ne.symm hB)).trans h3, h3', h3''⟩, (hf _).trans h4, (hf _).trans h5, ?_, ?_⟩
  · rcases h6 with h | ⟨b, off, rfl, hbb⟩
    · exact Or.inl h
    · refine Or.inr ⟨b, off, rfl, fun i hi => ?_⟩
      obtain ⟨z, hz, hz'⟩ := hbb i hi
      exact ⟨z, (hc _ _ (hb b off rfl (by omega))).trans hz, hz'⟩
  · intro b off e hl
    obtain ⟨hne, hlt⟩ := h7 b off e hl
    exact ⟨hne, by simpa using hlt⟩
theorem Kp.var {c : Nat} {W w1 : World} (hk : Kp c W w1) (b : Nat) (hb : b < W.heap.size) (hne : b ≠ c) (v0 v1 : Value) (h0 : W.cell? ⟨b, 0, none⟩ = some v0) (h1 : W.cell? ⟨b, 1, none⟩ = some v1) (h2 : W.frozen? ⟨b, 0, none⟩ = false) (h3 : W.frozen? ⟨b, 1, none⟩ = false) :
    w1.cell? ⟨b, 0, none⟩ = some v0 ∧ w1.cell? ⟨b, 1, none⟩ = some v1 ∧ w1.frozen? ⟨b, 0, none⟩ = false ∧ w1.frozen? ⟨b, 1, none⟩ = false :=
  ⟨(hk.cell hb hne).trans h0, (hk.cell hb hne).trans h1, (hk.frozen hb hne).trans h2, (hk.frozen hb hne).trans h3⟩
theorem six_cells (w : World) (t : TypeId) (z0 z1 z2 z3 z4 z5 : Int) : ∀ i, i < 6 → ∃ z : Int, (w.alloc (.cells #[.int .i64 z0, .int .i64 z1, .int .i64 z2, .int .i64 z3, .int .i64 z4, .int .i64 z5] t)).cell? ⟨w.heap.size, i, none⟩ = some (.int .i64 z) := by
  intro i hi
  have : i = 0 ∨ i = 1 ∨ i = 2 ∨ i = 3 ∨ i = 4 ∨ i = 5 := by omega
  rcases this with rfl | rfl | rfl | rfl | rfl | rfl
  · exact ⟨z0, by simp⟩
  · exact ⟨z1, by simp⟩
  · exact ⟨z2, by simp⟩
  · exact ⟨z3, by simp⟩
  · exact ⟨z4, by simp⟩
  · exact ⟨z5, by simp⟩

/-- Bytes that were handed in: they lie in old memory. -/
def Src (w : World) (a : Option Addr) (len : Nat) : Prop := Bytes w a len ∧ ∀ b off, a = some ⟨b, off, none⟩ → 0 < len → b < w.heap.size
theorem Src.below {w w' : World} {a : Option Addr} {len : Nat} (h : Src w a len) (hb : Below w.heap.size w w') : Src w' a len := by
  obtain ⟨h6, h7⟩ := h
  obtain ⟨hc, _⟩ := bcell hb
  refine ⟨?_, fun b off e hl => Nat.lt_of_lt_of_le (h7 b off e hl) hb.size⟩
  rcases h6 with h | ⟨b, off, rfl, hbb⟩
  · exact Or.inl h
  · refine Or.inr ⟨b, off, rfl, fun i hi => ?_⟩
    obtain ⟨z, hz, hz'⟩ := hbb i hi
    exact ⟨z, (hc _ _ (h7 b off rfl (by omega))).trans hz, hz'⟩
theorem cur_new {w : World} {a : Option Addr} {len cap : Nat} (h : Src w a len) : Cur (w.alloc (.cells #[.slice a len cap, .int .i64 0, .int .u64 0] 49)) w.heap.size a len cap 0 := by
  have h' := h.below (below_alloc w (.cells #[.slice a len cap, .int .i64 0, .int .u64 0] 49))
  exact ⟨by simp, by simp, ⟨0, by simp, Nat.le_refl _⟩, ⟨0, by simp, by omega, by omega⟩, by simp [go_sem], by simp [go_sem], h'.1, fun b off e hl => ⟨by have := h.2 b off e hl; omega, h'.2 b off e hl⟩⟩

end Go.Proofs.Ytbhgdkkclefpnaa
namespace Go.Proofs.Ytbhgdkkclefpnaa
open Go.RowKit

theorem own_far {w : World} {base e s n k : Nat} {v : Value} {xs : List Value} (h : w.ownsRow base e s v n xs) (hk : k < base) : some k ≠ v.ownBlock := by
  rcases h.2 with ⟨rfl, _⟩ | ⟨g, cap, cur, rfl, hb, _⟩
  · simp [Value.ownBlock]
  · simp [Value.ownBlock]; omega
theorem own_some {w : World} {base e s n : Nat} {v : Value} {xs : List Value} (h : w.ownsRow base e s v n xs) (hn : n ≠ 0) : ∃ g cap, v = .slice (some ⟨g, 0, none⟩) n cap ∧ base ≤ g ∧ g < w.heap.size := by
  rcases h.2 with ⟨_, h0⟩ | ⟨g, cap, cur, hv, hb, hg, _⟩
  · exact absurd h0 hn
  · exact ⟨g, cap, hv, hb, (Array.getElem?_eq_some_iff.1 hg).1⟩
theorem Cur.blocks {w w' : World} {c len cap N : Nat} {a : Option Addr} (h : Cur w c a len cap N) (hs : w.heap.size ≤ w'.heap.size) (hc : w'.heap[c]? = w.heap[c]?)
    (hb : ∀ b off, a = some ⟨b, off, none⟩ → 0 < len → w'.heap[b]? = w.heap[b]?) : Cur w' c a len cap N := by
  obtain ⟨h0, h1, ⟨x, h2, h2'⟩, ⟨y, h3, h3', h3''⟩, h4, h5, h6, h7⟩ := h
  have ec : ∀ o, w'.cell? ⟨c, o, none⟩ = w.cell? ⟨c, o, none⟩ := fun o => World.cell?_of_block (w := w) hc
  have ef : ∀ o, w'.frozen? ⟨c, o, none⟩ = w.frozen? ⟨c, o, none⟩ := fun o => World.frozen?_of_block (w := w) hc
  refine ⟨Nat.lt_of_lt_of_le h0 hs, (ec 0).trans h1, ⟨x, (ec 1).trans h2, h2'⟩, ⟨y, (ec 2).trans h3, h3', h3''⟩, (ef 1).trans h4, (ef 2).trans h5, ?_, ?_⟩
  · rcases h6 with h | ⟨b, off, rfl, hbb⟩
    · exact Or.inl h
    · refine Or.inr ⟨b, off, rfl, fun i hi => ?_⟩
      obtain ⟨z, hz, hz'⟩ := hbb i hi
      exact ⟨z, (World.cell?_of_block (w := w) (hb b off rfl (by omega))).trans hz, hz'⟩
  · intro b off e hl
    obtain ⟨hne, hlt⟩ := h7 b off e hl
    exact ⟨hne, Nat.lt_of_lt_of_le hlt hs⟩
theorem Cur.old {w : World} {c len cap N : Nat} {a : Option Addr} (h : Cur w c a len cap N) : ∀ b off, a = some ⟨b, off, none⟩ → 0 < len → b < w.heap.size := fun b off e hl => (h.2.2.2.2.2.2.2 b off e hl).2
theorem own_kp {w w' : World} {c base e s n : Nat} {v : Value} {xs : List Value} (h : w.ownsRow base e s v n xs) (hk : Kp c w w') (hc : c < base) : w'.ownsRow base e s v n xs := by
  refine ⟨h.1, ?_⟩
  rcases h.2 with h0 | ⟨g, cap, cur, hv, hb, hg, r⟩
  · exact Or.inl h0
  · exact Or.inr ⟨g, cap, cur, hv, hb, (hk.block g (Array.getElem?_eq_some_iff.1 hg).1 (by omega)).trans hg, r⟩
theorem kp_set {w w3 : World} {c g o : Nat} {v : Value} (h : Kp c w w3) (hg : w.heap.size ≤ g) : Kp c w (w3.setCell ⟨g, o, none⟩ v) := h.setNew hg o v
theorem cur_set {w w3 : World} {c g o len cap N : Nat} {a : Option Addr} {v : Value} (hc : Cur w3 c a len cap N) (hcw : c < w.heap.size) (hold : ∀ b off, a = some ⟨b, off, none⟩ → 0 < len → b < w.heap.size) (hg : w.heap.size ≤ g) : Cur (w3.setCell ⟨g, o, none⟩ v) c a len cap N :=
  hc.set (by omega) (fun b off e hl => by have := hold b off e hl; omega)
set_option maxRecDepth 100000 in
set_option maxHeartbeats 400000 in
theorem amongB_any {c len cap N b l k : Nat} {lo hi : Int} {a : Option Addr} {w : World} (hc : Cur w c a len cap N) (hN : N ≤ 900000000) (hl : 0 < l) (hl1 : l ≤ 1000000) (hb : b < w.heap.size) (hne : b ≠ c)
    (hz : ∀ i, i < l → ∃ z : Int, w.cell? ⟨b, i, none⟩ = some (.int .i64 z) ∧ lo ≤ z ∧ z ≤ hi) :
    Calls Try.prog 44 #[.pointer (some ⟨c, 0, none⟩), .slice (some ⟨b, 0, none⟩) l k] w fun e w' => ∃ r : Int, e = .returned (.int .i64 r) ∧ lo ≤ r ∧ r ≤ hi ∧ Cur w' c a len cap (N + 2) ∧ Kp c w w' := by
  have HC := hide hc
  have HZ := hide hz
  clear hc hz
  go_enter Try.func44, Try.ntmps44
  go_wp2_with fail
  refine (pick_any (l : Int) (by omega) HC.out hN).mono ?_
  rintro e w1 ⟨r, rfl, r0, r1, hc1, hk1⟩
  have HC1 := hide hc1
  clear hc1
  obtain ⟨i, rfl⟩ := Int.eq_ofNat_of_zero_le r0
  have hi : i < l := by omega
  have hi' : (i : Int) < (l : Int) := by omega
  obtain ⟨z, hcell, z0, z1⟩ := HZ.out i hi
  have hcell' : w1.cell? ⟨b, i, none⟩ = some (.int .i64 z) := (hk1.cell hb hne).trans hcell
  clear r1
  go_wp2_with fail
  go_ret
  exact ⟨_, rfl, z0, z1, HC1.out, hk1⟩
theorem three_cells (w : World) (t : TypeId) {z0 z1 z2 lo hi : Int} (h0 : lo ≤ z0 ∧ z0 ≤ hi) (h1 : lo ≤ z1 ∧ z1 ≤ hi) (h2 : lo ≤ z2 ∧ z2 ≤ hi) : ∀ i, i < 3 → ∃ z : Int, (w.alloc (.cells #[.int .i64 z0, .int .i64 z1, .int .i64 z2] t)).cell? ⟨w.heap.size, i, none⟩ = some (.int .i64 z) ∧ lo ≤ z ∧ z ≤ hi := by
  intro i hi
  have : i = 0 ∨ i = 1 ∨ i = 2 := by omega
  rcases this with rfl | rfl | rfl
  · exact ⟨z0, by simp, h0⟩
  · exact ⟨z1, by simp, h1⟩
  · exact ⟨z2, by simp, h2⟩
theorem kp_push {w w3 w4 : World} {c e s n : Nat} {v : Value} {xs : List Value} (h : Kp c w w3) (own : w3.ownsRow w.heap.size e s v n xs) (hg : w3.grownBy w4 v.ownBlock) : Kp c w w4 := by
  have hz := h.size
  refine ⟨hg.os.trans h.os, hg.tape.trans h.tape, hg.output.trans h.output, by have := hg.size; omega, fun k hk hne => ?_⟩
  rw [hg.block k (by omega) (own_far own hk)]
  exact h.block k hk hne
theorem cur_push {w w3 w4 : World} {c e s n len cap N : Nat} {a : Option Addr} {v : Value} {xs : List Value} (hc : Cur w3 c a len cap N) (hcw : c < w.heap.size) (hold : ∀ b off, a = some ⟨b, off, none⟩ → 0 < len → b < w.heap.size) (hs : w.heap.size ≤ w3.heap.size)
    (own : w3.ownsRow w.heap.size e s v n xs) (hg : w3.grownBy w4 v.ownBlock) : Cur w4 c a len cap N := by
  have blk : ∀ k, k < w.heap.size → w4.heap[k]? = w3.heap[k]? := fun k hk => hg.block k (by omega) (own_far own hk)
  exact hc.blocks (by have := hg.size; omega) (blk c hcw) (fun b off e hl => blk b (hold b off e hl))
/-- One number more, and where the list lies then. -/
theorem push_lies {w : World} {base n : Nat} {v : Value} {xs : List Value} {x : Int} (hown : w.ownsRow base 3 1 v n xs) (hn : n ≤ 100000) (hb : base ≤ w.heap.size) :
    ∃ g cap w', (∀ ty, (Builtin.append_ #[23, 23] ty #[v, .slice (some ⟨w.heap.size, 0, none⟩) 1 1]).run Try.prog (w.alloc (.cells #[.int .i64 x] 3)) = .ok (.slice (some ⟨g, 0, none⟩) (n + 1) cap) w') ∧ w'.ownsRow base 3 1 (.slice (some ⟨g, 0, none⟩) (n + 1) cap) (n + 1) (xs ++ [.int .i64 x]) ∧ w.grownBy w' v.ownBlock ∧ (v.ownBlock = some g ∨ w.heap.size ≤ g) := by
  obtain ⟨i0, hi, hz0, hz1, hz2⟩ := infoI
  obtain ⟨g, cap, w', h1, h2, h3, h4, _⟩ := run_append_lies (P := Try.prog) (w := w.alloc (.cells #[.int .i64 x] 3)) 23 0 base 3 i0 _ 1 8 Try.underlying23 hi hz0 hz1 hz2 rfl (by decide) v n xs (hown.alloc _) ⟨w.heap.size, 0, none⟩ 1 1 [.int .i64 x] rfl (fun j u hj => by
      rcases vrow_new w (.int .i64 x) 3 with h | ⟨b, off, e, _, hc⟩
      · cases h
      · cases e; rw [add_plain']; exact hc j u hj) (fun u hu => by simp at hu; subst hu; rfl) (by omega) (by unfold maxLen; omega) (by omega) (by simp; omega) _ rfl
  refine ⟨g, cap, w', fun _ => h1, h2, ?_, ?_⟩
  · have hg := World.grownBy_alloc w (.cells #[.int .i64 x] 3) v.ownBlock
    exact ⟨h3.os.trans hg.os, h3.tape.trans hg.tape, h3.output.trans hg.output, Nat.le_trans hg.size h3.size, fun b hb hne => (h3.block b (Nat.lt_of_lt_of_le hb hg.size) hne).trans (hg.block b hb hne)⟩
  · rcases h4 with h | h
    · exact Or.inl h
    · right; simp at h; omega
theorem own_cap {w : World} {base n : Nat} {v : Value} {xs : List Int} (hx : xs.length = n) (h : w.ownsRow base 3 1 v n (ints xs)) : ∃ a cap, v = .slice a n cap ∧ n ≤ cap ∧ ARow w a xs := by
  rcases h.2 with ⟨rfl, hn⟩ | ⟨g, cap, cur, rfl, _, _, hc, _⟩
  · subst hn; exact ⟨none, 0, rfl, Nat.le_refl _, Or.inl (List.length_eq_zero_iff.1 hx)⟩
  · exact ⟨_, _, rfl, hc, arow_owns hx.symm h⟩
end Go.Proofs.Ytbhgdkkclefpnaa
namespace Go.Proofs.Ytbhgdkkclefpnaa
open Go.RowKit

/-- Two lists apart. -/
def Aprt (v u : Value) : Prop := ∀ b, v.ownBlock = some b → u.ownBlock ≠ some b
theorem aprt_keep {w w' : World} {base e s n : Nat} {v u : Value} {xs : List Value} (h : w.ownsRow base e s u n xs) (hg : w.grownBy w' v.ownBlock) (hne : Aprt v u) : w'.ownsRow base e s u n xs := by
  refine h.kept hg ?_
  cases hb : u.ownBlock with
  | none => exact Or.inl rfl
  | some b => exact Or.inr fun e => hne b (e.symm) hb
theorem aprt_first {w : World} {base e s n g k cap : Nat} {v u : Value} {xs : List Value} (hu : w.ownsRow base e s u n xs) (hat : v.ownBlock = some g ∨ w.heap.size ≤ g) (hne : Aprt v u) : Aprt (.slice (some ⟨g, 0, none⟩) k cap) u := by
  intro b hb hub
  have hbg : g = b := by simpa [Value.ownBlock] using hb
  subst hbg
  rcases hat with h | h
  · exact hne _ h hub
  · have := (hu.lt _ hub).2; omega
theorem aprt_symm {v u : Value} (h : Aprt v u) : Aprt u v := fun b h1 h2 => h b h2 h1
end Go.Proofs.Ytbhgdkkclefpnaa
namespace Go.Proofs.Ytbhgdkkclefpnaa
open Go.RowKit

theorem none_row11 (w : World) : (w.alloc (.cells #[] 3)).ownsRow w.heap.size 3 1 (.slice (some ⟨w.heap.size, 0, none⟩) 0 0) 0 [] := by
  have h := World.ownsRow_lit (base := w.heap.size) (e := 3) (size := 1) w #[] 0 (Nat.le_refl _) (by unfold maxLen; omega) (by simp)
  simpa using h
/-- A list of ints behind an empty one. -/
theorem cl_run2 {w : World} {a : Option Addr} {n c : Nat} {xs : List Int} (hx : xs.length = n) (hn : n ≤ 1000) (ha : ARow w a xs) :
    ∃ v' w', (∀ ty, (Builtin.append_ #[23, 23] ty #[.slice (some ⟨w.heap.size, 0, none⟩) 0 0, .slice a n c]).run Try.prog (w.alloc (.cells #[] 3)) = .ok v' w') ∧ w'.ownsRow w.heap.size 3 1 v' n (ints xs) ∧ Below w.heap.size w w' := by
  obtain ⟨i0', hi', hz0, hz1, hz2⟩ := infoI
  obtain ⟨v', w', h1, h2, h3⟩ := run_append_v (P := Try.prog) (w.alloc (.cells #[] 3)) w.heap.size 23 0 3 i0' _ 8 Try.underlying23 hi' hz0 hz1 hz2 rfl _ 0 _ (none_row11 w) a n c (ints xs) (by rw [ints_len, hx]) (ha.alloc _).vrow (fun u hu => by simp only [ints, List.mem_map] at hu; obtain ⟨_, _, rfl⟩ := hu; rfl) (by unfold maxLen; omega) (by omega) (by simp)
  rw [Nat.zero_add] at h2
  exact ⟨v', w', fun _ => h1, h2, ((Below.refl _ _).alloc (Nat.le_refl _) (.cells #[] 3)).trans (grown_under10 h3 (fun b e => by simp [Value.ownBlock] at e; omega) (by simp))⟩
/-- Two lists, the first in block g, the second beyond it. -/
def SpO (w : World) (base g cp : Nat) (u : Value) (n : Nat) (xs ws : List Int) : Prop :=
  xs.length = n ∧ ws.length = n ∧ w.ownsRow base 3 1 (.slice (some ⟨g, 0, none⟩) n cp) n (ints xs) ∧ w.ownsRow (g + 1) 3 1 u n (ints ws) ∧ base ≤ g ∧ g < w.heap.size
theorem SpO.kp {w w' : World} {base c g cp n : Nat} {u : Value} {xs ws : List Int} (h : SpO w base g cp u n xs ws) (hk : Kp c w w') (hc : c < base) : SpO w' base g cp u n xs ws := by
  obtain ⟨h1, h2, h3, h4, h5, h6⟩ := h
  exact ⟨h1, h2, own_kp h3 hk hc, own_kp h4 hk (by omega), h5, Nat.lt_of_lt_of_le h6 hk.size⟩
theorem SpO.put {w : World} {base g cp g2 cp2 n : Nat} {xs ws : List Int} (h : SpO w base g cp (.slice (some ⟨g2, 0, none⟩) n cp2) n xs ws) (i : Nat) (z : Int) : SpO (w.setCell ⟨g2, i, none⟩ (.int .i64 z)) base g cp (.slice (some ⟨g2, 0, none⟩) n cp2) n xs (ws.set i z) := by
  obtain ⟨h1, h2, h3, h4, h5, h6⟩ := h
  obtain ⟨s1, s2⟩ := h4.stored i (.int .i64 z)
  rw [ints_set] at s1
  have hg := (h4.lt g2 rfl).1
  exact ⟨h1, by simpa using h2, h3.kept s2 (Or.inr fun e => by simp [Value.ownBlock] at e; omega), s1, h5, by simpa using h6⟩
theorem SpO.cell {w : World} {base g cp g2 cp2 n : Nat} {xs ws : List Int} (h : SpO w base g cp (.slice (some ⟨g2, 0, none⟩) n cp2) n xs ws) {i : Nat} (hi : i < n) : w.cell? ⟨g2, i, none⟩ = some (.int .i64 (ws.getD i 0)) ∧ w.frozen? ⟨g2, i, none⟩ = false := by
  obtain ⟨h1, h2, h3, h4, h5, h6⟩ := h
  exact ⟨by rw [h4.cellAt i (by omega), ints_get ws i (by omega)], h4.frozenAt i⟩
def SPost (w : World) (c : Nat) (a : Option Addr) (len cap M : Nat) (e : Ending) (w' : World) : Prop :=
  ∃ n g cp u xs ws, e = .returned (.tuple #[.slice (some ⟨g, 0, none⟩) n cp, u]) ∧ 1 ≤ n ∧ n ≤ 10 ∧ SpO w' w.heap.size g cp u n xs ws ∧ Cur w' c a len cap M ∧ Kp c w w'
set_option maxRecDepth 100000 in
set_option maxHeartbeats 4000000 in
theorem spots_any {c len cap N : Nat} {a : Option Addr} {w : World} (hc : Cur w c a len cap N) (hN : N ≤ 700000000) :
    Calls Try.prog 22 #[.pointer (some ⟨c, 0, none⟩)] w (SPost w c a len cap (N + 80)) := by
  have hcw := hc.1
  have HOLD := hide hc.old
  have HC := hide hc
  clear hc
  go_enter Try.func22, Try.ntmps22
  go_wp2_with fail
  refine (pick_any 6 (by omega) HC.out (by omega)).mono ?_
  rintro e w1 ⟨r1, rfl, p0, p1, hc1, hk1⟩
  have HC1 := hide hc1
  have HK1 := hide hk1
  clear hc1 hk1
  go_upto_if 17 with (go_at_call 41; refine (one_any 20 (by omega) HC1.out (by omega)).mono ?_; rintro e w2 ⟨r2, rfl, hc2, hk2⟩; have HC2 := hide hc2; have HK2 := hide (HK1.out.trans hk2); clear hc2 hk2)
  go_cut [4] (fun s4 wc => ∃ n : Nat, s4 = .int .i64 n ∧ 1 ≤ n ∧ n ≤ 10 ∧ Hid (Cur wc c a len cap (N + 6)) ∧ Hid (Kp c w wc))
  case first =>
    cases r2
    · go_wp2_with fail
      go_meet
      case rel => exact ⟨(2 + r1).toNat, by congr 1; omega, by omega, by omega, hide (HC2.out.le (by omega)), HK2⟩
    · go_wp2_with fail
      refine (amongB_any (lo := 1) (hi := 10) (HC2.out.below (below_alloc w2 _)) (by omega) (by omega) (by omega) (by simp) (by have := HC2.out.1; omega) (three_cells w2 _ (by omega) (by omega) (by omega))).mono ?_
      rintro e w3 ⟨z, rfl, z0, z1, hc3, hk3⟩
      have HK3 := hide ((HK2.out.alloc _).trans hk3)
      have HC3 := hide hc3
      clear hc3 hk3
      go_wp2_with fail
      go_meet
      case rel => exact ⟨z.toNat, by congr 1; omega, by omega, by omega, hide (HC3.out.le (by omega)), HK3⟩
  case rest =>
    obtain ⟨n, rfl, hn1, hn2, HC4, HK4⟩ := hcut
    clear HC HC1 HK1 HC2 HK2
    go_wp2_with fail
    go_loopw [5, 6] (fun v s wr => ∃ (k : Nat) (xs : List Int), s = .int .i64 k ∧ k ≤ n ∧ xs.length = k ∧ wr.ownsRow w.heap.size 3 1 v k (ints xs) ∧ Hid (Cur wr c a len cap (N + 6)) ∧ Hid (Kp c w wr)) (fun _ s _ => n - (intOf s).toNat)
    case atStart => exact ⟨0, [], rfl, Nat.zero_le _, rfl, World.ownsRow_nil _ _ _ _, HC4, HK4⟩
    case round =>
      obtain ⟨k, xs, rfl, hk, hx, hown, HCR, HKR⟩ := hrel
      by_cases hlt : k < n
      · have k1 : (k : Int) < (n : Int) := by omega
        have hs := HKR.out.size
        obtain ⟨v', w3, hr3, own3, hg3⟩ := push_int (x := (k : Int) + 1) hown (by omega) hs
        rw [← ints_snoc] at own3
        have HO3 := hide own3
        have HK3 := hide (kp_push HKR.out hown hg3)
        have HC3 := hide (cur_push HCR.out hcw HOLD.out hs hown hg3)
        clear own3 hg3 hown HC4 HK4
        go_wp2_with (first | (at_builtin; refine Lib.wpList_append_run _ rfl _ _ _ _ rfl _ _ rfl rfl _ _ (hr3 _) ?_))
        go_roundw
        case rel => exact ⟨k + 1, xs ++ [(k : Int) + 1], by go_num, by omega, by simp [hx], HO3.out, HC3, HK3⟩
        case measure => simp only [intOf]; omega
      · have hke : k = n := by omega
        subst hke
        have HO := hide hown
        clear hown HC4 HK4
        obtain ⟨g, cp, e1, hg0, hg1⟩ := own_some HO.out (by omega)
        subst e1
        go_wp2_with fail
        refine (pick_any 2 (by omega) HCR.out (by omega)).mono ?_
        rintro e w1' ⟨r2', rfl, q0, q1, hc1, hk1⟩
        obtain ⟨z0, hz0⟩ : ∃ z : Nat, 1 + r2' = (z : Int) := ⟨(1 + r2').toNat, by omega⟩
        have hz2 : z0 ≤ 2 := by omega
        have HO1 := hide (own_kp HO.out hk1 hcw)
        have HC1 := hide hc1
        have HK1 := hide (HKR.out.trans hk1)
        clear hc1 hk1 HO HKR HCR
        go_wp2_with fail
        clear hz0 q0 q1
        go_loopw [7] (fun s wr => ∃ (z : Nat) (ys : List Int), s = .int .i64 z ∧ z ≤ 2 ∧ ys.length = k ∧ Hid (wr.ownsRow w.heap.size 3 1 (.slice (some ⟨g, 0, none⟩) k cp) k (ints ys)) ∧ Hid (Cur wr c a len cap (N + 8 + 2 * (2 - z))) ∧ Hid (Kp c w wr)) (fun s _ => (intOf s).toNat)
        case atStart => exact ⟨z0, xs, rfl, hz2, hx, HO1, hide (HC1.out.le (by omega)), HK1⟩
        case round =>
          obtain ⟨z, ys, rfl, hz, hy, HO, HCR, HKR⟩ := hrel
          clear HO1 HC1 HK1
          by_cases hz1 : 0 < z
          · have z1 : (0 : Int) < (z : Int) := by omega
            go_wp2_with fail
            refine (pick_any (k : Int) (by omega) HCR.out (by omega)).mono ?_
            rintro e w3 ⟨r3, rfl, q0, q1, hc3, hk3⟩
            obtain ⟨i, rfl⟩ := Int.eq_ofNat_of_zero_le q0
            have hi : i < k := by omega
            have own3 := own_kp HO.out hk3 hcw
            have HC3 := hide hc3
            have HK3 := hide (HKR.out.trans hk3)
            clear hc3 hk3 HO HCR HKR q1
            have i0 : (0 : Int) ≤ (i : Int) := by omega
            have i1 : (i : Int) < (k : Int) := by omega
            have c1 : w3.cell? ⟨g, i, none⟩ = some (.int .i64 (ys.getD i 0)) := by rw [own3.cellAt i (by omega), ints_get ys i (by omega)]
            have f1 := own3.frozenAt i
            obtain ⟨st1, _⟩ := own3.stored i (.int .i64 0)
            rw [ints_set] at st1
            have HST := hide st1
            have HC5 := hide (cur_set (o := i) (v := .int .i64 0) HC3.out hcw HOLD.out hg0)
            have HK5 := hide (kp_set (o := i) (v := .int .i64 0) HK3.out hg0)
            have hyl : (ys.set i 0).length = k := by simpa using hy
            generalize hys : ys.set i 0 = zs at *
            generalize ys.getD i 0 = y1 at *
            clear hys own3 st1 HC3 HK3
            go_wp2_with fail
            go_roundw
            case rel => exact ⟨z - 1, zs, by congr 1; omega, by omega, hyl, HST, hide (HC5.out.le (by omega)), HK5⟩
            case measure => simp only [intOf]; omega
          · have z1 : ¬ (0 : Int) < (z : Int) := by omega
            have hs := HKR.out.size
            obtain ⟨u, w3, hr3, own3, hb3⟩ := cl_run2 (c := cp) hy (by omega) (arow_owns hy.symm HO.out)
            have HS3 : Hid (SpO w3 w.heap.size g cp u k ys ys) := hide (by
              have hgl := (HO.out.lt g rfl).2
              exact ⟨hy, hy, own_below HO.out hb3, owns_low own3 (by omega), hg0, Nat.lt_of_lt_of_le hgl hb3.size⟩)
            have HK3 := hide (HKR.out.trans (Kp.of_below hb3))
            have HC3 := hide (HCR.out.below hb3)
            obtain ⟨g2, cp2, e2, hg2, _⟩ := own_some own3 (by omega)
            subst e2
            have hg2' : w.heap.size ≤ g2 := by omega
            clear own3 hb3 HO HCR HKR hg2
            go_wp2_with (first | (at_builtin; refine Lib.wpList_append_run _ rfl _ _ _ _ rfl _ _ rfl rfl _ _ (hr3 _) ?_))
            refine (pick_any 6 (by omega) HC3.out (by omega)).mono ?_
            rintro e w4 ⟨r4, rfl, q0, q1, hc4, hk4⟩
            obtain ⟨m0, rfl⟩ := Int.eq_ofNat_of_zero_le q0
            have hm0 : m0 ≤ 5 := by omega
            have HS4 := hide (HS3.out.kp hk4 hcw)
            have HC4 := hide hc4
            have HK4 := hide (HK3.out.trans hk4)
            clear hc4 hk4 HS3 HC3 HK3 q0 q1 hr3
            go_wp2_with fail
            go_loopw [9, 10, 11, 12] (fun s _ _ _ wr => ∃ (m : Nat) (zs : List Int), s = .int .i64 m ∧ m ≤ 5 ∧ Hid (SpO wr w.heap.size g cp (.slice (some ⟨g2, 0, none⟩) k cp2) k ys zs) ∧ Hid (Cur wr c a len cap (N + 16 + 4 * (5 - m))) ∧ Hid (Kp c w wr)) (fun s _ _ _ _ => (intOf s).toNat)
            case atStart => exact ⟨m0, ys, rfl, hm0, HS4, hide (HC4.out.le (by omega)), HK4⟩
            case round =>
              obtain ⟨m, zs, rfl, hm, HSR, HCR, HKR⟩ := hrel
              clear HS4 HC4 HK4
              by_cases hm1 : 0 < m
              · have m1 : (0 : Int) < (m : Int) := by omega
                go_wp2_with fail
                refine (pick_any (k : Int) (by omega) HCR.out (by omega)).mono ?_
                rintro e w5 ⟨r5, rfl, q0, q1, hc5, hk5⟩
                obtain ⟨i, rfl⟩ := Int.eq_ofNat_of_zero_le q0
                have hi : i < k := by omega
                have HS5 := hide (HSR.out.kp hk5 hcw)
                have HC5 := hide hc5
                have HK5 := hide (HKR.out.trans hk5)
                clear hc5 hk5 HSR HCR HKR q1
                go_wp2_with fail
                refine (pick_any (k : Int) (by omega) HC5.out (by omega)).mono ?_
                rintro e w6 ⟨r6, rfl, q2, q3, hc6, hk6⟩
                obtain ⟨j, rfl⟩ := Int.eq_ofNat_of_zero_le q2
                have hj : j < k := by omega
                have sp6 := HS5.out.kp hk6 hcw
                have HC6 := hide hc6
                have HK6 := hide (HK5.out.trans hk6)
                clear hc6 hk6 HS5 HC5 HK5 q3
                have i0 : (0 : Int) ≤ (i : Int) := by omega
                have i1 : (i : Int) < (k : Int) := by omega
                have j0 : (0 : Int) ≤ (j : Int) := by omega
                have j1 : (j : Int) < (k : Int) := by omega
                obtain ⟨c1, f1⟩ := sp6.cell hi
                obtain ⟨c2, f1'⟩ := sp6.cell hj
                have sp7 := sp6.put i (zs.getD j 0)
                obtain ⟨c3, f2⟩ := sp7.cell hj
                have HS8 := hide (sp7.put j (zs.getD i 0))
                have HC8 := hide (cur_set (o := j) (v := .int .i64 (zs.getD i 0)) (cur_set (o := i) (v := .int .i64 (zs.getD j 0)) HC6.out hcw HOLD.out hg2') hcw HOLD.out hg2')
                have HK8 := hide (kp_set (o := j) (v := .int .i64 (zs.getD i 0)) (kp_set (o := i) (v := .int .i64 (zs.getD j 0)) HK6.out hg2') hg2')
                generalize hys : (zs.set i (zs.getD j 0)).set j (zs.getD i 0) = us at *
                generalize (zs.set i (zs.getD j 0)).getD j 0 = y3 at *
                generalize zs.getD i 0 = y1 at *
                generalize zs.getD j 0 = y2 at *
                clear hys sp6 sp7 HC6 HK6 f1'
                go_wp2_with fail
                go_roundw
                case rel => exact ⟨m - 1, us, by congr 1; omega, by omega, HS8, hide (HC8.out.le (by omega)), HK8⟩
                case measure => simp only [intOf]; omega
              · have m1 : ¬ (0 : Int) < (m : Int) := by omega
                go_wp2_with fail
                refine (one_any 30 (by omega) HCR.out (by omega)).mono ?_
                rintro e w5 ⟨r5, rfl, hc5, hk5⟩
                have HS5 := hide (HSR.out.kp hk5 hcw)
                have HC5 := hide hc5
                have HK5 := hide (HKR.out.trans hk5)
                clear hc5 hk5 HSR HCR HKR
                cases r5
                · go_wp2_with fail
                  go_ret2
                  exact ⟨_, _, _, _, ys, zs, rfl, hn1, hn2, HS5.out, HC5.out.le (by omega), HK5.out⟩
                · have z1 : (0 : Int) < (k : Int) := by omega
                  go_wp2_with fail
                  refine (amongB_any (lo := 0) (hi := 21) (HC5.out.below (below_alloc w5 _)) (by omega) (by omega) (by omega) (by simp) (by have := HC5.out.1; omega) (three_cells w5 _ (by omega) (by omega) (by omega))).mono ?_
                  rintro e w6 ⟨z, rfl, z0, z1', hc6, hk6⟩
                  have sp6 := (HS5.out.kp (Kp.of_below (below_alloc w5 _)) hcw).kp hk6 hcw
                  have HC6 := hide hc6
                  have HK6 := hide ((HK5.out.alloc _).trans hk6)
                  obtain ⟨c0, f0⟩ := sp6.cell (i := 0) (by omega)
                  have HS7 := hide (sp6.put 0 z)
                  generalize zs.getD 0 0 = y at *
                  clear hc6 hk6 sp6 HS5 HC5 HK5
                  go_wp2_with fail
                  go_ret2
                  exact ⟨_, _, _, _, ys, zs.set 0 z, rfl, hn1, hn2, HS7.out, (cur_set HC6.out hcw HOLD.out hg2').le (by omega), kp_set HK6.out hg2'⟩
end Go.Proofs.Ytbhgdkkclefpnaa
namespace Go.Proofs.Ytbhgdkkclefpnaa
open Go.RowKit

theorem cur_below10 {w w1 : World} {o : Obj} (hk : Kp w.heap.size (w.alloc o) w1) : Below w.heap.size w w1 :=
  ((Below.refl w.heap.size w).alloc (Nat.le_refl _) o).trans (hk.below (Nat.le_refl _) (by simp))
/-- Two lists of one length. -/
def PMPost (w : World) (e : Ending) (w' : World) : Prop :=
  ∃ a1 c1 a2 c2 xs ws, ∃ n : Nat, e = .returned (.tuple #[.slice a1 n c1, .slice a2 n c2]) ∧ List.length xs = n ∧ List.length ws = n ∧ 1 ≤ n ∧ n ≤ 10 ∧ n ≤ c1 ∧ n ≤ c2 ∧ ARow w' a1 xs ∧ ARow w' a2 ws ∧ Below w.heap.size w w'
set_option maxRecDepth 100000 in
set_option maxHeartbeats 1000000 in
theorem drawPM_any {a : Option Addr} {len cap : Nat} {w : World} (hs : Hid (Src w a len)) :
    Calls Try.prog 4 #[.slice a len cap] w (PMPost w) := by
  have HC := hide (cur_new (cap := cap) hs.out)
  go_enter Try.func4, Try.ntmps4
  go_wp2_with fail
  refine (spots_any HC.out (by omega)).mono ?_
  rintro e w1 ⟨n, g, cp, u, xs, ws, rfl, h1, h2, ⟨hx, hw, own1, own2, _, _⟩, hc1, hk1⟩
  obtain ⟨a1, c1, e1, hc, r1⟩ := own_cap hx own1
  cases e1
  obtain ⟨a2, c2, rfl, hd, r2⟩ := own_cap hw own2
  have R1 := hide r1
  have R2 := hide r2
  have HB := hide (cur_below10 hk1)
  clear own1 own2 r1 r2 hc1 hk1 HC
  go_wp2_with fail
  go_ret2
  exact ⟨_, _, a2, c2, xs, ws, n, rfl, hx, hw, h1, h2, hc, hd, R1.out, R2.out, HB.out⟩
set_option maxRecDepth 100000 in
set_option maxHeartbeats 400000 in
theorem si10_zero (a b : Option Addr) (c d : Nat) (w : World) :
    Calls Try.prog 14 #[.slice a 0 c, .slice b 0 d] w fun e w' => e = .returned (.bool true) ∧ w' = w := by
  go_enter Try.func14, Try.ntmps14
  go_wp2_with fail
  go_loop [13] (fun s => s = .int .i64 0) (fun s => 0)
  case atStart => rfl
  case round =>
    subst hrel
    go_wp2_with fail
    go_ret
    exact ⟨rfl, rfl⟩
theorem eq_upto {xs ys : List Int} {n : Nat} (hx : xs.length = n) (hy : ys.length = n) (h : ∀ j, j < n → xs.getD j 0 = ys.getD j 0) : xs = ys := by
  refine List.ext_getElem (by omega) fun i hi hi' => ?_
  have := h i (by omega)
  simp only [List.getD_eq_getElem?_getD, List.getElem?_eq_getElem hi, List.getElem?_eq_getElem hi', Option.getD_some] at this
  exact this
set_option maxRecDepth 100000 in
set_option maxHeartbeats 1000000 in
theorem si10_some (xs ys : List Int) (b o c b' o' c' n : Nat) (w : World) (hx : Hid (xs.length = n)) (hy : Hid (ys.length = n)) (hl : n ≤ 4000000000000) (h1 : ∀ i, i < xs.length → w.cell? ⟨b, o + i, none⟩ = some (.int .i64 (xs.getD i 0))) (h2 : ∀ i, i < ys.length → w.cell? ⟨b', o' + i, none⟩ = some (.int .i64 (ys.getD i 0))) :
    Calls Try.prog 14 #[.slice (some ⟨b, o, none⟩) n c, .slice (some ⟨b', o', none⟩) n c'] w fun e w' => e = .returned (.bool (decide (xs = ys))) ∧ ∃ m, w' = w.drewN m := by
  have hne : ((n : Int) != (n : Int)) = false := by simp
  rw [hx.out] at h1
  rw [hy.out] at h2
  have H1 := hide h1
  have H2 := hide h2
  clear h1 h2
  go_enter Try.func14, Try.ntmps14
  go_wp2_with fail
  go_loopw [13] (fun s wr => ∃ k : Nat, s = .int .i64 k ∧ k ≤ n ∧ Hid (∀ j, j < k → xs.getD j 0 = ys.getD j 0) ∧ ∃ m, wr = w.drewN m) (fun s _ => n - (intOf s).toNat)
  case atStart => exact ⟨0, rfl, Nat.zero_le _, hide (fun j h => by omega), 0, rfl⟩
  case round =>
    obtain ⟨k, rfl, hk, HE, m, rfl⟩ := hrel
    by_cases hlt : k < n
    · have r1 := H1.out k hlt
      have r2 := H2.out k hlt
      have i0 : (0 : Int) ≤ (k : Int) := by omega
      have i1 : (k : Int) < (n : Int) := by omega
      by_cases he : xs.getD k 0 = ys.getD k 0
      · have HE2 : Hid (∀ j, j < k + 1 → xs.getD j 0 = ys.getD j 0) := hide (fun j hj => by
          by_cases e : j = k
          · subst e; exact he
          · exact HE.out j (by omega))
        rw [← he] at r2
        generalize xs.getD k 0 = x at *
        have hxx : (x != x) = false := by simp
        clear he HE
        go_wp2_with fail
        go_region
        go_wp2_with fail
        exact ⟨⟨k + 1, by go_num, by omega, HE2, m + 1, rfl⟩, by simp only [intOf]; omega⟩
      · have HD : Hid (false = decide (xs = ys)) := hide (by
          symm; rw [decide_eq_false_iff_not]
          exact fun e => he (by rw [e]))
        have hxx : (xs.getD k 0 != ys.getD k 0) = true := by simpa using he
        generalize xs.getD k 0 = x at *
        generalize ys.getD k 0 = y at *
        clear he HE
        go_wp2_with fail
        go_region
        go_wp2_with fail
        go_ret
        exact ⟨ret_bool HD.out, m + 1, rfl⟩
    · have HD : Hid (true = decide (xs = ys)) := hide (by
        symm; rw [decide_eq_true_eq]
        exact eq_upto hx.out hy.out (fun j hj => HE.out j (by omega)))
      go_wp2_with fail
      go_ret
      exact ⟨ret_bool HD.out, m, rfl⟩
theorem si10 {a b : Option Addr} {c d n : Nat} {xs ys : List Int} {w : World} (hx : Hid (xs.length = n)) (hy : Hid (ys.length = n)) (hl : n ≤ 1048576) (h1 : ARow w a xs) (h2 : ARow w b ys) :
    Calls Try.prog 14 #[.slice a n c, .slice b n d] w fun e w' => e = .returned (.bool (decide (xs = ys))) ∧ Below w.heap.size w w' := by
  by_cases h0 : n = 0
  · subst h0
    have e1 := List.length_eq_zero_iff.1 hx.out
    have e2 := List.length_eq_zero_iff.1 hy.out
    subst e1 e2
    exact (si10_zero a b c d w).mono fun e w' ⟨h, hw⟩ => ⟨h, hw ▸ Below.refl _ _⟩
  · have lx := hx.out
    have ly := hy.out
    rcases h1 with rfl | ⟨b1, o1, rfl, hb1, c1⟩
    · simp at lx; omega
    · rcases h2 with rfl | ⟨b2, o2, rfl, hb2, c2⟩
      · simp at ly; omega
      · exact (si10_some xs ys b1 o1 c b2 o2 d n w hx hy (by omega) c1 c2).mono fun e w' ⟨h, m, hw⟩ => ⟨h, hw ▸ below_drewN (Below.refl _ _) m⟩
/-- Bytes as numbers. -/
def YRow (w : World) (a : Option Addr) (zs : List Int) : Prop := zs = [] ∨ ∃ b off, a = some ⟨b, off, none⟩ ∧ b < w.heap.size ∧ ∀ i, i < zs.length → w.cell? ⟨b, off + i, none⟩ = some (.int .u8 (zs.getD i 0)) ∧ 0 ≤ zs.getD i 0 ∧ zs.getD i 0 ≤ 255
theorem YRow.below {w w' : World} {a : Option Addr} {zs : List Int} (h : YRow w a zs) (hb : Below w.heap.size w w') : YRow w' a zs := by
  rcases h with h | ⟨b, off, ha, hl, hc⟩
  · exact Or.inl h
  · exact Or.inr ⟨b, off, ha, Nat.lt_of_lt_of_le hl hb.size, fun i hi => ⟨(hb.cell (p := ⟨b, off + i, none⟩) hl).trans (hc i hi).1, (hc i hi).2⟩⟩
def numY (zs : List Int) : Nat → Int
  | 0 => 0
  | k + 1 => (31 * numY zs k + zs.getD k 0) % 1000003
theorem numY_bd {zs : List Int} {n : Nat} : 0 ≤ numY zs n ∧ numY zs n < 1000003 := by
  cases n with
  | zero => exact ⟨by unfold numY; omega, by unfold numY; omega⟩
  | succ k => unfold numY; omega
theorem src_rowY {w : World} {a : Option Addr} {len : Nat} (h : Src w a len) : ∃ zs : List Int, zs.length = len ∧ YRow w a zs := by
  obtain ⟨hb, hl⟩ := h
  rcases hb with h0 | ⟨b, off, rfl, hc⟩
  · subst h0; exact ⟨[], rfl, Or.inl rfl⟩
  · by_cases h0 : len = 0
    · subst h0; exact ⟨[], rfl, Or.inl rfl⟩
    · refine ⟨(List.range len).map fun i => if hi : i < len then (hc i hi).choose else 0, by simp, Or.inr ⟨b, off, rfl, hl b off rfl (by omega), ?_⟩⟩
      intro i hi
      have hi' : i < len := by simpa using hi
      have e : ((List.range len).map fun i => if hi : i < len then (hc i hi).choose else 0).getD i 0 = (hc i hi').choose := by
        simp [List.getD_eq_getElem?_getD, hi']
      rw [e]
      exact (hc i hi').choose_spec
end Go.Proofs.Ytbhgdkkclefpnaa
namespace Go.Proofs.Ytbhgdkkclefpnaa
open Go.RowKit

set_option maxRecDepth 100000 in
theorem ix10_0 (W : World) : (Instr.index 76 (Value.agg #[Value.func (Fn.func 48) #[] #[], Value.func (Fn.func 49) #[] #[]]) (Value.int IntKind.i64 0)).run Try.prog W = .ok (Value.func (Fn.func 48) #[] #[]) W := rfl
set_option maxRecDepth 100000 in
theorem ix10_1 (W : World) : (Instr.index 76 (Value.agg #[Value.func (Fn.func 48) #[] #[], Value.func (Fn.func 49) #[] #[]]) (Value.int IntKind.i64 1)).run Try.prog W = .ok (Value.func (Fn.func 49) #[] #[]) W := rfl
set_option maxRecDepth 20000 in
set_option maxHeartbeats 4000000 in
theorem nm_any {a b : Option Addr} {n c d : Nat} {xs ws : List Int} {w : World} (hx : xs.length = n) (hy : ws.length = n) (hn : n ≤ 1000) (ha : ARow w a xs) (hbw : ARow w b ws) :
    Calls Try.prog 25 #[.agg #[.slice a n c, .slice b n d]] w (NmP w (Mx.nextM xs ws)) := by
  have bW1 := below_new w (.cells #[.slice a n c, .slice b n d] 53)
  have bW2 := below_new (w.alloc (.cells #[.slice a n c, .slice b n d] 53)) (.cells #[.int .i64 0, .int .i64 0] 40)
  have hb := bW1.trans (bW2.mono bW1.size)
  have c0 : ((w.alloc (.cells #[.slice a n c, .slice b n d] 53)).alloc (.cells #[.int .i64 0, .int .i64 0] 40)).cell? ⟨w.heap.size, 0, none⟩ = some (.slice a n c) := by simp
  have c1 : ((w.alloc (.cells #[.slice a n c, .slice b n d] 53)).alloc (.cells #[.int .i64 0, .int .i64 0] 40)).cell? ⟨w.heap.size, 1, none⟩ = some (.slice b n d) := by simp
  have r0 : ((w.alloc (.cells #[.slice a n c, .slice b n d] 53)).alloc (.cells #[.int .i64 0, .int .i64 0] 40)).cell? ⟨w.heap.size + 1, 0, none⟩ = some (.int .i64 0) := by simp
  have r1 : ((w.alloc (.cells #[.slice a n c, .slice b n d] 53)).alloc (.cells #[.int .i64 0, .int .i64 0] 40)).cell? ⟨w.heap.size + 1, 1, none⟩ = some (.int .i64 0) := by simp
  have r2 : ((w.alloc (.cells #[.slice a n c, .slice b n d] 53)).alloc (.cells #[.int .i64 0, .int .i64 0] 40)).frozen? ⟨w.heap.size + 1, 0, none⟩ = false := by simp [go_sem]
  have r3 : ((w.alloc (.cells #[.slice a n c, .slice b n d] 53)).alloc (.cells #[.int .i64 0, .int .i64 0] 40)).frozen? ⟨w.heap.size + 1, 1, none⟩ = false := by simp [go_sem]
  have hz : ((w.alloc (.cells #[.slice a n c, .slice b n d] 53)).alloc (.cells #[.int .i64 0, .int .i64 0] 40)).heap.size = w.heap.size + 2 := by simp
  obtain ⟨W2, hW2⟩ : ∃ W, W = (w.alloc (.cells #[.slice a n c, .slice b n d] 53)).alloc (.cells #[.int .i64 0, .int .i64 0] 40) := ⟨_, rfl⟩
  rw [← hW2] at hb c0 c1 r0 r1 r2 r3 hz
  have HA := hide (ha.below hb)
  have HBB := hide (hbw.below hb)
  have HB := hide hb
  have HW2 := hide hW2.symm
  obtain ⟨B, hB⟩ : ∃ B, B = w.heap.size := ⟨_, rfl⟩
  rw [← hB] at c0 c1 r0 r1 r2 r3 hz
  have HBe := hide hB.symm
  have HBS := hide fun (W : World) (h : Below w.heap.size w W) (x y : Value) => ((h.setCell (p := ⟨B + 1, 0, none⟩) (by show w.heap.size ≤ B + 1; omega) x).setCell (p := ⟨B + 1, 1, none⟩) (by show w.heap.size ≤ B + 1; omega) y)
  have HMH := hide fun (W : World) (h : Below W2.heap.size W2 W) => mh_any (w := W) (c := c) (d := d) hx hy hn (HA.out.below h) (HBB.out.below h)
  have HMA := hide fun (W : World) (h : Below W2.heap.size W2 W) => ma_any (w := W) (c := c) (d := d) hx hy hn (HA.out.below h) (HBB.out.below h)
  have HNH := hide fun (m : Int × Int) (h : homeM xs ws = some m) => next_h h
  have HNA := hide fun (h : homeM xs ws = none) => next_a h
  have HFAC : Hid (∀ W, Below W2.heap.size W2 W → W.cell? ⟨B, 0, none⟩ = some (.slice a n c) ∧ W.cell? ⟨B, 1, none⟩ = some (.slice b n d) ∧ W.cell? ⟨B + 1, 0, none⟩ = some (.int .i64 0) ∧ W.cell? ⟨B + 1, 1, none⟩ = some (.int .i64 0) ∧ W.frozen? ⟨B + 1, 0, none⟩ = false ∧ W.frozen? ⟨B + 1, 1, none⟩ = false ∧ Below w.heap.size w W) := hide fun W h =>
    ⟨(h.cell (p := ⟨B, 0, none⟩) (by show B < _; omega)).trans c0, (h.cell (p := ⟨B, 1, none⟩) (by show B < _; omega)).trans c1, (h.cell (p := ⟨B + 1, 0, none⟩) (by show B + 1 < _; omega)).trans r0, (h.cell (p := ⟨B + 1, 1, none⟩) (by show B + 1 < _; omega)).trans r1, (h.frozen (p := ⟨B + 1, 0, none⟩) (by show B + 1 < _; omega)).trans r2, (h.frozen (p := ⟨B + 1, 1, none⟩) (by show B + 1 < _; omega)).trans r3, HB.out.trans (h.mono HB.out.size)⟩
  generalize homeM xs ws = OH at *
  generalize asideM xs ws = OA at *
  generalize Mx.nextM xs ws = ON at *
  have bA := hide (below_new W2 (.cells #[.func (.func 48) #[] #[], .func (.func 49) #[] #[]] 76))
  clear bW1 bW2 hb hW2 hB ha hbw hx hy c0 c1 r0 r1 r2 r3 HA HBB hz
  go_enter Try.func25, Try.ntmps25
  go_upto_region 1 with fail
  rw [HW2.out, HBe.out]
  clear HW2 HBe
  go_wp2_with fail
  go_loopw [3, 6, 7, 8, 11] (fun s3 _ _ _ s wr => ∃ k : Nat, s3 = .bool false ∧ s = .int .i64 k ∧ k ≤ 2 ∧ Hid (Below W2.heap.size W2 wr) ∧ Hid (1 ≤ k → OH = none) ∧ Hid (2 ≤ k → OA = none)) (fun _ _ _ _ s _ => 2 - (intOf s).toNat)
  case atStart => exact ⟨0, rfl, rfl, by omega, hide (below_new _ _), hide fun h => absurd h (by omega), hide fun h => absurd h (by omega)⟩
  case round =>
    obtain ⟨k, rfl, rfl, hk, HBr, HK1, HK2⟩ := hrel
    obtain ⟨x0, x1, x2, x3, x4, x5, _⟩ := HFAC.out _ HBr.out
    have j0 := ix10_0
    have j1 := ix10_1
    by_cases h0 : k = 0
    · subst h0
      have HC := hide (HMH.out _ HBr.out)
      go_wp2_with fail
      refine HC.out.mono ?_
      rintro e w4 ⟨F, T, s, rfl, ho, hb4⟩
      have HOo := hide ho
      have HB4 := hide (HBr.out.trans (hb4.mono HBr.out.size))
      clear ho hb4
      have bV := below_new w4 (.cells #[.int .i64 F, .int .i64 T] 40)
      have HB5 := hide (HB4.out.trans (bV.mono HB4.out.size))
      obtain ⟨x0, x1, x2, x3, x4, x5, _⟩ := HFAC.out _ HB5.out
      have v0 : (w4.alloc (.cells #[.int .i64 F, .int .i64 T] 40)).cell? ⟨w4.heap.size, 0, none⟩ = some (.int .i64 F) := (by simp)
      have v1 : (w4.alloc (.cells #[.int .i64 F, .int .i64 T] 40)).cell? ⟨w4.heap.size, 1, none⟩ = some (.int .i64 T) := (by simp)
      clear bV HC
      cases s
      · have HN : Hid (OH = none) := HOo
        go_wp2_with fail
        go_roundw
        case rel => exact ⟨0 + 1, rfl, by go_num, by omega, HB5, hide fun _ => HN.out, hide fun h => absurd h (by omega)⟩
        case measure => simp only [intOf]; omega
      · have HN : Hid (OH = some (F, T)) := HOo
        have HFIN := hide (HBS.out _ (HFAC.out _ HB5.out).2.2.2.2.2.2 (.int .i64 F) (.int .i64 T))
        go_wp2_with fail
        exact bodyPost_ret (v := .tuple #[.agg #[.int .i64 F, .int .i64 T], .bool true]) (by simp [results, Try.results25, go_sem, *]) rfl ⟨F, T, true, rfl, HNH.out _ HN.out, HFIN.out⟩
    · by_cases h1 : k = 1
      · subst h1
        have HOH := HK1.out (by omega)
        have HK1x : Hid (1 ≤ 1 + 1 → OH = none) := hide fun _ => HOH
        have HOHh := hide HOH
        clear HOH
        have HC := hide (HMA.out _ HBr.out)
        go_wp2_with fail
        refine HC.out.mono ?_
        rintro e w4 ⟨F, T, s, rfl, ho, hb4⟩
        have HOo := hide ho
        have HB4 := hide (HBr.out.trans (hb4.mono HBr.out.size))
        clear ho hb4
        have bV := below_new w4 (.cells #[.int .i64 F, .int .i64 T] 40)
        have HB5 := hide (HB4.out.trans (bV.mono HB4.out.size))
        obtain ⟨x0, x1, x2, x3, x4, x5, _⟩ := HFAC.out _ HB5.out
        have v0 : (w4.alloc (.cells #[.int .i64 F, .int .i64 T] 40)).cell? ⟨w4.heap.size, 0, none⟩ = some (.int .i64 F) := (by simp)
        have v1 : (w4.alloc (.cells #[.int .i64 F, .int .i64 T] 40)).cell? ⟨w4.heap.size, 1, none⟩ = some (.int .i64 T) := (by simp)
        clear bV HC
        cases s
        · have HN : Hid (OA = none) := HOo
          go_wp2_with fail
          go_roundw
          case rel => exact ⟨1 + 1, rfl, by go_num, by omega, HB5, HK1x, hide fun _ => HN.out⟩
          case measure => simp only [intOf]; omega
        · have HN : Hid (OA = some (F, T)) := HOo
          have HFIN := hide (HBS.out _ (HFAC.out _ HB5.out).2.2.2.2.2.2 (.int .i64 F) (.int .i64 T))
          go_wp2_with fail
          exact bodyPost_ret (v := .tuple #[.agg #[.int .i64 F, .int .i64 T], .bool true]) (by simp [results, Try.results25, go_sem, *]) rfl ⟨F, T, true, rfl, (HNA.out HOHh.out).trans HN.out, HFIN.out⟩
      · obtain rfl : k = 2 := by omega
        have HN := hide ((HNA.out (HK1.out (by omega))).trans (HK2.out (by omega)))
        have HFIN := hide (HBS.out _ (HFAC.out _ HBr.out).2.2.2.2.2.2 (.int .i64 0) (.int .i64 0))
        go_wp2_with fail
        exact bodyPost_ret (v := .tuple #[.agg #[.int .i64 0, .int .i64 0], .bool false]) (by simp [results, Try.results25, go_sem, *]) rfl ⟨0, 0, false, rfl, HN.out, HFIN.out⟩
end Go.Proofs.Ytbhgdkkclefpnaa
namespace Go.Proofs.Ytbhgdkkclefpnaa
open Go.RowKit

theorem av_nil (w : World) (lo : Nat) : AV w lo w.heap.size (.slice none 0 0) 0 [] := ⟨World.ownsRow_nil _ _ _ _, fun g hg => by simp [Value.ownBlock] at hg, Nat.le_refl _⟩
theorem own_some10 {w : World} {base e s n : Nat} {v : Value} {xs : List Value} (h : w.ownsRow base e s v n xs) (hn : n ≠ 0) : ∃ g cap, v = .slice (some ⟨g, 0, none⟩) n cap ∧ base ≤ g ∧ g < w.heap.size := by
  rcases h.2 with ⟨rfl, h0⟩ | ⟨g, cap, cur, rfl, hb, hg, _⟩
  · exact absurd h0 hn
  · exact ⟨g, cap, rfl, hb, (Array.getElem?_eq_some_iff.1 hg).1⟩
set_option maxRecDepth 100000 in
set_option maxHeartbeats 400000 in
theorem dm_no1 {a b : Option Addr} {n c m d : Nat} {xs : List Int} {w : World} (HX : Hid (xs.length = n)) (hc : n ≤ c) (HA : Hid (ARow w a xs)) (HG : Hid (Mx.goodB xs = false)) :
    Calls Try.prog 12 #[.slice a n c, .slice b m d] w fun e w' => e = .returned (.tuple #[.slice none 0 0, .bool false]) ∧ w' = w := by
  go_enter Try.func12, Try.ntmps12
  go_wp2_with fail
  refine (gs_eq HX hc HA HG).mono ?_
  rintro e w1 ⟨rfl, rfl⟩
  go_wp2_with fail
  go_ret2
  exact ⟨rfl, rfl⟩
set_option maxRecDepth 100000 in
set_option maxHeartbeats 400000 in
theorem dm_no2 {a b : Option Addr} {n c m d : Nat} {xs : List Int} {w : World} (HX : Hid (xs.length = n)) (hc : n ≤ c) (HA : Hid (ARow w a xs)) (HG : Hid (Mx.goodB xs = true)) (hm : 20 < m) :
    Calls Try.prog 12 #[.slice a n c, .slice b m d] w fun e w' => e = .returned (.tuple #[.slice none 0 0, .bool false]) ∧ w' = w := by
  have m0 : (20 : Int) < (m : Int) := by omega
  go_enter Try.func12, Try.ntmps12
  go_wp2_with fail
  refine (gs_eq HX hc HA HG).mono ?_
  rintro e w1 ⟨rfl, rfl⟩
  go_wp2_with fail
  go_ret2
  exact ⟨rfl, rfl⟩
set_option maxRecDepth 100000 in
set_option maxHeartbeats 4000000 in
theorem dm_yes {a b : Option Addr} {n c m d : Nat} {xs : List Int} {L : List (Int × Int)} {w : World} (HX : Hid (xs.length = n)) (hc : n ≤ c) (HA : Hid (ARow w a xs)) (HG : Hid (Mx.goodB xs = true)) (HL : Hid (L.length = m)) (hm : m ≤ 20) (HF : Hid (FRow w b L)) :
    Calls Try.prog 12 #[.slice a n c, .slice b m d] w fun e w' => ∃ v, e = .returned (.tuple #[v, .bool (Mx.dmB xs L)]) ∧ Below w.heap.size w w' ∧ AV w' w.heap.size w'.heap.size v (Mx.dmL xs L).length (Mx.dmL xs L) := by
  have m0 : ¬ (20 : Int) < (m : Int) := by omega
  have hn := Mx.good_len HG.out
  rw [HX.out] at hn
  obtain ⟨n2, n9⟩ := hn
  have HNO := hide fun (h : Mx.run xs L = none) => Mx.dm_no (Or.inr (Or.inr h))
  have HYES := hide fun (ys : List Int) (h : Mx.run xs L = some ys) => Mx.dm_yes HG.out (by rw [HL.out]; exact hm) h
  have HR0 : Hid (Mx.run xs (L.take 0) = some xs) := hide rfl
  have HRS := hide fun (i : Nat) (ys : List Int) (hi : i < L.length) (h : Mx.run xs (L.take i) = some ys) (hc : Mx.canB ys (L.getD i (0, 0)) = true) => show Mx.run xs (L.take (i + 1)) = some (Mx.mv ys (L.getD i (0, 0))) by rw [Mx.run_step hi h, hc]; rfl
  have HRF := hide fun (i : Nat) (ys : List Int) (hi : i < L.length) (h : Mx.run xs (L.take i) = some ys) (hc : Mx.canB ys (L.getD i (0, 0)) = false) => HNO.out (Mx.run_stop hi h hc)
  have HLT : Hid (L.take m = L) := hide (by rw [← HL.out, List.take_length])
  generalize Mx.dmB xs L = G at *
  generalize Mx.dmL xs L = R at *
  obtain ⟨b0, o0, rfl, hb0, hcell⟩ := HA.out.resolve_left (fun e => by have := HX.out; rw [e] at this; simp at this; omega)
  have HCL := hide (clone_any (c := c) HX.out (by omega) hcell)
  clear hcell
  go_enter Try.func12, Try.ntmps12
  go_wp2_with fail
  refine (gs_eq HX hc HA HG).mono ?_
  rintro e w1 ⟨rfl, hw1⟩
  obtain rfl : w = w1 := hw1.symm
  go_wp2_with fail
  refine HCL.out.mono ?_
  rintro e w0 ⟨v, rfl, hb, own⟩
  have HB0 := hide hb
  have HO0 := hide own
  obtain ⟨g, cap, rfl, hg0, _⟩ := own_some10 own (by omega)
  clear hb own HCL
  go_wp2_with fail
  go_loopw [4, 5, 8, 21] (fun s4 s5 _ s wr => ∃ (i : Nat) (ys : List Int), s4 = .slice none 0 0 ∧ s5 = .bool false ∧ s = .int .i64 i ∧ i ≤ m ∧ ys.length = n ∧ Hid (wr.ownsRow w.heap.size 3 1 (.slice (some ⟨g, 0, none⟩) n cap) n (ints ys)) ∧ Hid (Below w.heap.size w wr) ∧ Hid (Mx.run xs (L.take i) = some ys)) (fun _ _ _ s _ => m - (intOf s).toNat)
  case atStart => exact ⟨0, xs, rfl, rfl, rfl, Nat.zero_le _, HX.out, HO0, HB0, HR0⟩
  case round =>
    obtain ⟨i, ys, rfl, rfl, rfl, hi, hy, HO, HB, HR⟩ := hrel
    by_cases hlt : i < m
    · obtain ⟨b1, o1, rfl, hb1, r0, r1⟩ := HF.out.at (i := i) (by rw [HL.out]; exact hlt)
      have r0' := (HB.out.cell (p := ⟨b1, o1 + i * 2, none⟩) hb1).trans r0
      have r1' := (HB.out.cell (p := ⟨b1, o1 + i * 2 + 1, none⟩) hb1).trans r1
      have HS1 := hide (HRS.out i ys (by rw [HL.out]; exact hlt) HR.out)
      have HS2 := hide (HRF.out i ys (by rw [HL.out]; exact hlt) HR.out)
      generalize hmm : L.getD i (0, 0) = mm at *
      obtain ⟨F, T⟩ := mm
      simp only at r0' r1'
      clear r0 r1 hmm
      have i0 : (0 : Int) ≤ (i : Int) := by omega
      have i1 : (i : Int) < (m : Int) := by omega
      have bW1 := below_new wr (.cells #[.int .i64 F, .int .i64 T] 40)
      have own1 := HO.out.alloc (.cells #[.int .i64 F, .int .i64 T] 40)
      have cm0 : (wr.alloc (.cells #[.int .i64 F, .int .i64 T] 40)).cell? ⟨wr.heap.size, 0, none⟩ = some (.int .i64 F) := by simp
      have cm1 : (wr.alloc (.cells #[.int .i64 F, .int .i64 T] 40)).cell? ⟨wr.heap.size, 1, none⟩ = some (.int .i64 T) := by simp
      have hz1 : wr.heap.size < (wr.alloc (.cells #[.int .i64 F, .int .i64 T] 40)).heap.size := by simp
      obtain ⟨W1, hW1⟩ : ∃ W, W = wr.alloc (.cells #[.int .i64 F, .int .i64 T] 40) := ⟨_, rfl⟩
      rw [← hW1] at bW1 own1 cm0 cm1 hz1
      have HB1 := hide (HB.out.trans (bW1.mono HB.out.size))
      have HO1 := hide own1
      have HW1 := hide hW1.symm
      obtain ⟨BV, hBV⟩ : ∃ b, b = wr.heap.size := ⟨_, rfl⟩
      rw [← hBV] at cm0 cm1 hz1
      have HBV := hide hBV.symm
      clear bW1 own1 hW1 hBV HO HB
      go_upto_region 7 with fail
      rw [HW1.out, HBV.out]
      clear HW1 HBV
      have HCM := hide (cm_any (c := cap) (F := F) (T := T) hy (by omega) (by omega) (arow_owns hy.symm HO1.out))
      have HIN := hide fun (h : Mx.canB ys (F, T) = true) => Mx.can_in h
      generalize Mx.canB ys (F, T) = K at *
      go_wp2_with fail
      refine HCM.out.mono ?_
      rintro e w2 ⟨rfl, hb2⟩
      have own2 := g_own HO1.out hb2
      have cm0 := (hb2.cell (p := ⟨BV, 0, none⟩) hz1).trans cm0
      have cm1 := (hb2.cell (p := ⟨BV, 1, none⟩) hz1).trans cm1
      have HB2 := hide (HB1.out.trans (hb2.mono HB1.out.size))
      clear HCM hb2
      cases K
      · obtain ⟨rfl, rfl⟩ := HS2.out rfl
        have HNIL := hide (av_nil w2 w.heap.size)
        go_wp2_with fail
        go_ret2
        exact ⟨.slice none 0 0, rfl, HB2.out, HNIL.out⟩
      · obtain ⟨⟨q1, q2⟩, ⟨q3, q4⟩, _, _⟩ := HIN.out rfl
        obtain ⟨f, rfl⟩ := Int.eq_ofNat_of_zero_le q1
        obtain ⟨t, rfl⟩ := Int.eq_ofNat_of_zero_le q3
        have HMG := hide (mg_any (f := f) (t := t) hy (by omega) (by omega) own2)
        have HRN := hide (HS1.out rfl)
        clear own2 HS1 HS2 HIN q1 q2 q3 q4
        go_wp2_with fail
        refine HMG.out.mono ?_
        rintro e w3 ⟨rfl, own3, hg3⟩
        have HO3 := hide own3
        have HB3 := hide (HB2.out.trans (grown_under10 hg3 (fun b e => by cases e; exact hg0) HB2.out.size))
        clear own3 hg3 HMG
        go_wp2_with fail
        go_roundw
        case rel => exact ⟨i + 1, _, rfl, rfl, by go_num, by omega, by rw [Mx.mv_len]; exact hy, HO3, HB3, HRN⟩
        case measure => simp only [intOf]; omega
    · have hie : i = m := by omega
      subst hie
      rw [HLT.out] at HR
      obtain ⟨rfl, rfl⟩ := HYES.out ys HR.out
      have HFIN := hide (AV.new HO.out)
      go_wp2_with fail
      go_ret2
      exact ⟨.slice (some ⟨g, 0, none⟩) n cap, rfl, HB.out, HFIN.out⟩
theorem dm_w {a b : Option Addr} {n c m d : Nat} {xs : List Int} {L : List (Int × Int)} {w : World} (hx : xs.length = n) (hc : n ≤ c) (ha : ARow w a xs) (hl : L.length = m) (hf : FRow w b L) :
    Calls Try.prog 12 #[.slice a n c, .slice b m d] w fun e w' => ∃ v, e = .returned (.tuple #[v, .bool (Mx.dmB xs L)]) ∧ Below w.heap.size w w' ∧ AV w' w.heap.size w'.heap.size v (Mx.dmL xs L).length (Mx.dmL xs L) := by
  cases hg : Mx.goodB xs
  · obtain ⟨e1, e2⟩ := Mx.dm_no (L := L) (Or.inl hg)
    rw [e1, e2]
    exact (dm_no1 (hide hx) hc (hide ha) (hide hg)).mono fun e w' ⟨he, hw⟩ => ⟨_, he, hw ▸ Below.refl _ _, hw ▸ av_nil w _⟩
  · by_cases hm : m ≤ 20
    · exact dm_yes (hide hx) hc (hide ha) (hide hg) (hide hl) hm (hide hf)
    · obtain ⟨e1, e2⟩ := Mx.dm_no (xs := xs) (L := L) (Or.inr (Or.inl (by omega)))
      rw [e1, e2]
      exact (dm_no2 (hide hx) hc (hide ha) (hide hg) (by omega)).mono fun e w' ⟨he, hw⟩ => ⟨_, he, hw ▸ Below.refl _ _, hw ▸ av_nil w _⟩
set_option maxRecDepth 100000 in
set_option maxHeartbeats 400000 in
theorem sdm_no1 {a b : Option Addr} {n c m d : Nat} {xs : List Int} {w : World} (HX : Hid (xs.length = n)) (hc : n ≤ c) (HA : Hid (ARow w a xs)) (HG : Hid (Mx.goodB xs = false)) :
    Calls Try.prog 16 #[.slice a n c, .slice b m d] w fun e w' => e = .returned (.tuple #[.slice none 0 0, .bool false]) ∧ w' = w := by
  go_enter Try.func16, Try.ntmps16
  go_wp2_with fail
  refine (sgs_eq HX hc HA HG).mono ?_
  rintro e w1 ⟨rfl, rfl⟩
  go_wp2_with fail
  go_ret2
  exact ⟨rfl, rfl⟩
set_option maxRecDepth 100000 in
set_option maxHeartbeats 400000 in
theorem sdm_no2 {a b : Option Addr} {n c m d : Nat} {xs : List Int} {w : World} (HX : Hid (xs.length = n)) (hc : n ≤ c) (HA : Hid (ARow w a xs)) (HG : Hid (Mx.goodB xs = true)) (hm : 20 < m) :
    Calls Try.prog 16 #[.slice a n c, .slice b m d] w fun e w' => e = .returned (.tuple #[.slice none 0 0, .bool false]) ∧ w' = w := by
  have m0 : (20 : Int) < (m : Int) := by omega
  go_enter Try.func16, Try.ntmps16
  go_wp2_with fail
  refine (sgs_eq HX hc HA HG).mono ?_
  rintro e w1 ⟨rfl, rfl⟩
  go_wp2_with fail
  go_ret2
  exact ⟨rfl, rfl⟩
set_option maxRecDepth 100000 in
set_option maxHeartbeats 4000000 in
theorem sdm_yes {a b : Option Addr} {n c m d : Nat} {xs : List Int} {L : List (Int × Int)} {w : World} (HX : Hid (xs.length = n)) (hc : n ≤ c) (HA : Hid (ARow w a xs)) (HG : Hid (Mx.goodB xs = true)) (HL : Hid (L.length = m)) (hm : m ≤ 20) (HF : Hid (FRow w b L)) :
    Calls Try.prog 16 #[.slice a n c, .slice b m d] w fun e w' => ∃ v, e = .returned (.tuple #[v, .bool (Mx.dmB xs L)]) ∧ Below w.heap.size w w' ∧ AV w' w.heap.size w'.heap.size v (Mx.dmL xs L).length (Mx.dmL xs L) := by
  have m0 : ¬ (20 : Int) < (m : Int) := by omega
  have hn := Mx.good_len HG.out
  rw [HX.out] at hn
  obtain ⟨n2, n9⟩ := hn
  have HNO := hide fun (h : Mx.run xs L = none) => Mx.dm_no (Or.inr (Or.inr h))
  have HYES := hide fun (ys : List Int) (h : Mx.run xs L = some ys) => Mx.dm_yes HG.out (by rw [HL.out]; exact hm) h
  have HR0 : Hid (Mx.run xs (L.take 0) = some xs) := hide rfl
  have HRS := hide fun (i : Nat) (ys : List Int) (hi : i < L.length) (h : Mx.run xs (L.take i) = some ys) (hc : Mx.canB ys (L.getD i (0, 0)) = true) => show Mx.run xs (L.take (i + 1)) = some (Mx.mv ys (L.getD i (0, 0))) by rw [Mx.run_step hi h, hc]; rfl
  have HRF := hide fun (i : Nat) (ys : List Int) (hi : i < L.length) (h : Mx.run xs (L.take i) = some ys) (hc : Mx.canB ys (L.getD i (0, 0)) = false) => HNO.out (Mx.run_stop hi h hc)
  have HLT : Hid (L.take m = L) := hide (by rw [← HL.out, List.take_length])
  generalize Mx.dmB xs L = G at *
  generalize Mx.dmL xs L = R at *
  obtain ⟨v, w0, hr0, own, hb⟩ := cl_run (c := c) HX.out (by omega) HA.out
  have HB0 := hide hb
  have HO0 := hide own
  obtain ⟨g, cap, rfl, hg0, _⟩ := own_some10 own (by omega)
  clear hb own
  go_enter Try.func16, Try.ntmps16
  go_wp2_with fail
  refine (sgs_eq HX hc HA HG).mono ?_
  rintro e w1 ⟨rfl, hw1⟩
  obtain rfl : w = w1 := hw1.symm
  go_wp2_with (first | (at_builtin; refine Lib.wpList_append_run _ rfl _ _ _ _ rfl _ _ rfl rfl _ _ (hr0 _) ?_))
  clear hr0
  go_loopw [4, 5, 8, 22] (fun s4 s5 _ s wr => ∃ (i : Nat) (ys : List Int), s4 = .slice none 0 0 ∧ s5 = .bool false ∧ s = .int .i64 i ∧ i ≤ m ∧ ys.length = n ∧ Hid (wr.ownsRow w.heap.size 3 1 (.slice (some ⟨g, 0, none⟩) n cap) n (ints ys)) ∧ Hid (Below w.heap.size w wr) ∧ Hid (Mx.run xs (L.take i) = some ys)) (fun _ _ _ s _ => m - (intOf s).toNat)
  case atStart => exact ⟨0, xs, rfl, rfl, rfl, Nat.zero_le _, HX.out, HO0, HB0, HR0⟩
  case round =>
    obtain ⟨i, ys, rfl, rfl, rfl, hi, hy, HO, HB, HR⟩ := hrel
    by_cases hlt : i < m
    · obtain ⟨b1, o1, rfl, hb1, r0, r1⟩ := HF.out.at (i := i) (by rw [HL.out]; exact hlt)
      have r0' := (HB.out.cell (p := ⟨b1, o1 + i * 2, none⟩) hb1).trans r0
      have r1' := (HB.out.cell (p := ⟨b1, o1 + i * 2 + 1, none⟩) hb1).trans r1
      have HS1 := hide (HRS.out i ys (by rw [HL.out]; exact hlt) HR.out)
      have HS2 := hide (HRF.out i ys (by rw [HL.out]; exact hlt) HR.out)
      generalize hmm : L.getD i (0, 0) = mm at *
      obtain ⟨F, T⟩ := mm
      simp only at r0' r1'
      clear r0 r1 hmm
      have i0 : (0 : Int) ≤ (i : Int) := by omega
      have i1 : (i : Int) < (m : Int) := by omega
      have bW1 := below_new wr (.cells #[.int .i64 F, .int .i64 T] 40)
      have own1 := HO.out.alloc (.cells #[.int .i64 F, .int .i64 T] 40)
      have cm0 : (wr.alloc (.cells #[.int .i64 F, .int .i64 T] 40)).cell? ⟨wr.heap.size, 0, none⟩ = some (.int .i64 F) := by simp
      have cm1 : (wr.alloc (.cells #[.int .i64 F, .int .i64 T] 40)).cell? ⟨wr.heap.size, 1, none⟩ = some (.int .i64 T) := by simp
      have hz1 : wr.heap.size < (wr.alloc (.cells #[.int .i64 F, .int .i64 T] 40)).heap.size := by simp
      obtain ⟨W1, hW1⟩ : ∃ W, W = wr.alloc (.cells #[.int .i64 F, .int .i64 T] 40) := ⟨_, rfl⟩
      rw [← hW1] at bW1 own1 cm0 cm1 hz1
      have HB1 := hide (HB.out.trans (bW1.mono HB.out.size))
      have HO1 := hide own1
      have HW1 := hide hW1.symm
      obtain ⟨BV, hBV⟩ : ∃ b, b = wr.heap.size := ⟨_, rfl⟩
      rw [← hBV] at cm0 cm1 hz1
      have HBV := hide hBV.symm
      clear bW1 own1 hW1 hBV HO HB
      go_upto_region 7 with fail
      rw [HW1.out, HBV.out]
      clear HW1 HBV
      have HLD := hide (ld_any (F := F) (T := T) hy HO1.out)
      have HAF : Hid (Mx.canB ys (F, T) = true → aft ys (F, T) = Mx.mv ys (F, T)) := hide fun h => by unfold aft; rw [h]; rfl
      generalize Mx.canB ys (F, T) = K at *
      go_wp2_with fail
      refine HLD.out.mono ?_
      rintro e w2 ⟨rfl, own2, hg2⟩
      have HB2 := hide (HB1.out.trans (grown_under10 hg2 (fun b e => by cases e; exact hg0) HB1.out.size))
      have HO2 := hide own2
      clear HLD own2 hg2
      cases K
      · obtain ⟨rfl, rfl⟩ := HS2.out rfl
        have HNIL := hide (av_nil w2 w.heap.size)
        go_wp2_with fail
        go_ret2
        exact ⟨.slice none 0 0, rfl, HB2.out, HNIL.out⟩
      · have HRN := hide (HS1.out rfl)
        rw [HAF.out rfl] at HO2
        clear HS1 HS2 HAF
        go_wp2_with fail
        go_roundw
        case rel => exact ⟨i + 1, _, rfl, rfl, by go_num, by omega, by rw [Mx.mv_len]; exact hy, HO2, HB2, HRN⟩
        case measure => simp only [intOf]; omega
    · have hie : i = m := by omega
      subst hie
      rw [HLT.out] at HR
      obtain ⟨rfl, rfl⟩ := HYES.out ys HR.out
      have HFIN := hide (AV.new HO.out)
      go_wp2_with fail
      go_ret2
      exact ⟨.slice (some ⟨g, 0, none⟩) n cap, rfl, HB.out, HFIN.out⟩
theorem sdm_w {a b : Option Addr} {n c m d : Nat} {xs : List Int} {L : List (Int × Int)} {w : World} (hx : xs.length = n) (hc : n ≤ c) (ha : ARow w a xs) (hl : L.length = m) (hf : FRow w b L) :
    Calls Try.prog 16 #[.slice a n c, .slice b m d] w fun e w' => ∃ v, e = .returned (.tuple #[v, .bool (Mx.dmB xs L)]) ∧ Below w.heap.size w w' ∧ AV w' w.heap.size w'.heap.size v (Mx.dmL xs L).length (Mx.dmL xs L) := by
  cases hg : Mx.goodB xs
  · obtain ⟨e1, e2⟩ := Mx.dm_no (L := L) (Or.inl hg)
    rw [e1, e2]
    exact (sdm_no1 (hide hx) hc (hide ha) (hide hg)).mono fun e w' ⟨he, hw⟩ => ⟨_, he, hw ▸ Below.refl _ _, hw ▸ av_nil w _⟩
  · by_cases hm : m ≤ 20
    · exact sdm_yes (hide hx) hc (hide ha) (hide hg) (hide hl) hm (hide hf)
    · obtain ⟨e1, e2⟩ := Mx.dm_no (xs := xs) (L := L) (Or.inr (Or.inl (by omega)))
      rw [e1, e2]
      exact (sdm_no2 (hide hx) hc (hide ha) (hide hg) (by omega)).mono fun e w' ⟨he, hw⟩ => ⟨_, he, hw ▸ Below.refl _ _, hw ▸ av_nil w _⟩
end Go.Proofs.Ytbhgdkkclefpnaa
namespace Go.Proofs.Ytbhgdkkclefpnaa
open Go.RowKit

def swp (m : Int × Int) : Int × Int := (m.2, m.1)
def backL (L : List (Int × Int)) : List (Int × Int) := L.reverse.map swp
def okM (m : Int × Int) : Bool := Pf.inB m.1 0 8 && Pf.inB m.2 0 8
def bkB (L : List (Int × Int)) : Bool := L.all okM && decide (L.length ≤ 20)
def bkL (L : List (Int × Int)) : List (Int × Int) := if bkB L then backL L else []
theorem backL_len (L : List (Int × Int)) : (backL L).length = L.length := by simp [backL]
theorem bkL_le (L : List (Int × Int)) : (bkL L).length ≤ 20 := by
  unfold bkL; split
  · rename_i h; simp only [bkB, Bool.and_eq_true, decide_eq_true_eq] at h; rw [backL_len]; exact h.2
  · simp
theorem backL_get {L : List (Int × Int)} {i : Nat} (hi : i < L.length) : (backL L).getD (L.length - 1 - i) (0, 0) = swp (L.getD i (0, 0)) := by
  have h1 : L.length - 1 - i < L.reverse.length := by simp; omega
  have : (backL L).getD (L.length - 1 - i) (0, 0) = swp (L.reverse[L.length - 1 - i]) := by
    rw [List.getD_eq_getElem?_getD, backL, List.getElem?_map, List.getElem?_eq_getElem h1]; rfl
  rw [this, List.getElem_reverse]
  simp only [List.getD_eq_getElem?_getD, List.getElem?_eq_getElem hi, Option.getD_some]
  congr 2
  omega
theorem all_to {L : List (Int × Int)} {n : Nat} (hn : L.length = n) (h : ∀ i, i < n → okM (L.getD i (0, 0)) = true) : L.all okM = true := by
  rw [List.all_eq_true]
  intro m hm
  obtain ⟨i, hi, rfl⟩ := List.getElem_of_mem hm
  have := h i (by omega)
  rwa [List.getD_eq_getElem?_getD, List.getElem?_eq_getElem hi] at this
theorem all_not {L : List (Int × Int)} {i : Nat} (hi : i < L.length) (h : okM (L.getD i (0, 0)) = false) : L.all okM = false := by
  cases e : L.all okM
  · rfl
  · rw [List.all_eq_true] at e
    have := e (L.getD i (0, 0)) (by rw [List.getD_eq_getElem?_getD, List.getElem?_eq_getElem hi]; exact List.getElem_mem hi)
    rw [h] at this; cases this
theorem arow_two (w : World) (x y : Int) (t : TypeId) : ARow (w.alloc (.cells #[.int .i64 x, .int .i64 y] t)) (some ⟨w.heap.size, 0, none⟩) [x, y] := by
  refine Or.inr ⟨w.heap.size, 0, rfl, by simp, fun i hi => ?_⟩
  have : i = 0 ∨ i = 1 := by simp at hi; omega
  rcases this with rfl | rfl <;> simp
theorem okM_all (m : Int × Int) : Pf.allB [m.1, m.2] 0 8 = okM m := by simp [Pf.allB, okM]
/-- What lies in the list that is filled from its end. -/
def BkS (w : World) (B n : Nat) (L : List (Int × Int)) (i : Nat) : Prop := LooseF w B (n * 2) ∧ ∀ j, j < i → w.cell? ⟨B, (n - 1 - j) * 2, none⟩ = some (.int .i64 (L.getD j (0, 0)).2) ∧ w.cell? ⟨B, (n - 1 - j) * 2 + 1, none⟩ = some (.int .i64 (L.getD j (0, 0)).1)
theorem BkS.below {w w' : World} {B n i : Nat} {L : List (Int × Int)} (h : BkS w B n L i) (hB : B < w.heap.size) (hb : Below w.heap.size w w') : BkS w' B n L i :=
  ⟨h.1.below hb, fun j hj => ⟨(hb.cell (p := ⟨B, _, none⟩) hB).trans (h.2 j hj).1, (hb.cell (p := ⟨B, _, none⟩) hB).trans (h.2 j hj).2⟩⟩
theorem BkS.step {w : World} {B n i : Nat} {L : List (Int × Int)} (h : BkS w B n L i) (hi : i < n) : BkS ((w.setCell ⟨B, (n - 1 - i) * 2, none⟩ (.int .i64 (L.getD i (0, 0)).2)).setCell ⟨B, (n - 1 - i) * 2 + 1, none⟩ (.int .i64 (L.getD i (0, 0)).1)) B n L (i + 1) := by
  refine ⟨h.1.set.set, fun j hj => ?_⟩
  have q0 := (h.1 ((n - 1 - i) * 2) (by omega)).1
  have q1 := (h.1.set (i := (n - 1 - i) * 2) (v := .int .i64 (L.getD i (0, 0)).2) ((n - 1 - i) * 2 + 1) (by omega)).1
  have ne : ∀ {W : World} {a b : Nat} {v : Value}, a ≠ b → (W.setCell ⟨B, a, none⟩ v).cell? ⟨B, b, none⟩ = W.cell? ⟨B, b, none⟩ := fun hne => World.cell?_setCell_other _ _ _ _ (fun e' => hne (by injection e'))
  by_cases e : j = i
  · subst e
    exact ⟨(ne (by omega)).trans (setF1 q0), setF1 q1⟩
  · obtain ⟨h1, h2⟩ := h.2 j (by omega)
    exact ⟨(ne (by omega)).trans ((ne (by omega)).trans h1), (ne (by omega)).trans ((ne (by omega)).trans h2)⟩
theorem BkS.full {w : World} {B n : Nat} {L : List (Int × Int)} (h : BkS w B n L n) (hl : L.length = n) : FAt w B 0 (backL L) := fun i hi => by
  rw [backL_len, hl] at hi
  have hg := backL_get (L := L) (i := n - 1 - i) (by omega)
  rw [hl, show n - 1 - (n - 1 - i) = i by omega] at hg
  obtain ⟨h1, h2⟩ := h.2 (n - 1 - i) (by omega)
  rw [show n - 1 - (n - 1 - i) = i by omega] at h1 h2
  rw [hg, Nat.zero_add]
  exact ⟨h1, h2⟩
theorem mo_nil (w : World) (lo : Nat) : MO w lo w.heap.size (.slice none 0 0) 0 [] := ⟨Nat.le_refl _, rfl, Or.inl ⟨rfl, none, 0, rfl⟩⟩
theorem bko_any (F T : Int) (w : World) :
    Calls Try.prog 40 #[.agg #[.int .i64 F, .int .i64 T]] w fun e w' => e = .returned (.agg #[.int .i64 T, .int .i64 F]) ∧ Below w.heap.size w w' := by
  go_enter Try.func40, Try.ntmps40
  have hB : Below w.heap.size w ((w.alloc (.cells #[.int .i64 F, .int .i64 T] 40)).alloc (.cells #[.int .i64 T, .int .i64 F] 40)) := ((Below.refl _ w).alloc (Nat.le_refl _) _).alloc (by simp) _
  go_wp2_with fail
  exact bodyPost_ret (v := .agg #[.int .i64 T, .int .i64 F]) (by simp [results, Try.results40, go_sem]) rfl ⟨rfl, hB⟩
set_option maxRecDepth 100000 in
set_option maxHeartbeats 400000 in
theorem bk_long {a : Option Addr} {n c : Nat} {w : World} (hn : 20 < n) :
    Calls Try.prog 13 #[.slice a n c] w fun e w' => e = .returned (.tuple #[.slice none 0 0, .bool false]) ∧ w' = w := by
  have n0 : (20 : Int) < (n : Int) := by omega
  go_enter Try.func13, Try.ntmps13
  go_wp2_with fail
  go_ret2
  exact ⟨rfl, rfl⟩
set_option maxRecDepth 100000 in
set_option maxHeartbeats 4000000 in
theorem bk_yes {a : Option Addr} {n c : Nat} {L : List (Int × Int)} {w : World} (hl : L.length = n) (hn : n ≤ 20) (ha : FRow w a L) :
    Calls Try.prog 13 #[.slice a n c] w fun e w' => ∃ v, e = .returned (.tuple #[v, .bool (bkB L)]) ∧ Below w.heap.size w w' ∧ MO w' w.heap.size w'.heap.size v (bkL L).length (bkL L) := by
  have hmk := makeF_run n (by omega)
  have HL := hide hl
  have HA := hide ha
  have n0 : ¬ (20 : Int) < (n : Int) := by omega
  have HNO : Hid (L.all okM = false → bkB L = false ∧ bkL L = []) := hide fun h => by
    have : bkB L = false := by unfold bkB; rw [h]; rfl
    exact ⟨this, by unfold bkL; rw [this]; rfl⟩
  have HYES : Hid (L.all okM = true → bkB L = true ∧ bkL L = backL L) := hide fun h => by
    have : bkB L = true := by unfold bkB; rw [h, hl]; simp [hn]
    exact ⟨this, by unfold bkL; rw [this]; rfl⟩
  generalize bkB L = G at *
  generalize bkL L = R at *
  clear hl ha
  go_enter Try.func13, Try.ntmps13
  go_wp2_with fail
  clear hmk
  go_loopw [2, 3, 5, 6, 15] (fun s2 s3 _ _ s wr => ∃ (i : Nat), s2 = .slice none 0 0 ∧ s3 = .bool false ∧ s = .int .i64 i ∧ i ≤ n ∧ Hid (BkS wr w.heap.size n L i) ∧ Hid (Below w.heap.size w wr) ∧ w.heap.size < wr.heap.size ∧ Hid (∀ j, j < i → okM (L.getD j (0, 0)) = true)) (fun _ _ _ _ s _ => n - (intOf s).toNat)
  case atStart => exact ⟨0, rfl, rfl, rfl, Nat.zero_le _, hide ⟨fun j hj => ⟨by rw [madeF_cell w n j _ hj]; rfl, madeF_frozen _ _ _ _⟩, fun j hj => absurd hj (Nat.not_lt_zero _)⟩, hide (below_new w _), by simp, hide fun j hj => absurd hj (Nat.not_lt_zero _)⟩
  case round =>
    obtain ⟨i, rfl, rfl, rfl, hi, HS, HB, hz, HOK⟩ := hrel
    by_cases hlt : i < n
    · obtain ⟨b, o, rfl, hb, r0, r1⟩ := HA.out.at (i := i) (by rw [HL.out]; exact hlt)
      have r0' := (HB.out.cell (p := ⟨b, o + i * 2, none⟩) hb).trans r0
      have r1' := (HB.out.cell (p := ⟨b, o + i * 2 + 1, none⟩) hb).trans r1
      have HNE := hide fun (h : okM (L.getD i (0, 0)) = false) => HNO.out (all_not (show i < L.length by rw [HL.out]; exact hlt) h)
      have HON := hide fun (h : okM (L.getD i (0, 0)) = true) => show ∀ j, j < i + 1 → okM (L.getD j (0, 0)) = true from fun j hj => by
        by_cases e : j = i
        · subst e; exact h
        · exact HOK.out j (by omega)
      have HAL := hide (okM_all (L.getD i (0, 0)))
      have HST := hide fun (W : World) (h : BkS W w.heap.size n L i) => h.step hlt
      generalize hx : (L.getD i (0, 0)).1 = x at *
      generalize hy : (L.getD i (0, 0)).2 = y at *
      clear r0 r1 hx hy
      have i0 : (0 : Int) ≤ (i : Int) := by omega
      have i1 : (i : Int) < (n : Int) := by omega
      obtain ⟨m1, hm1⟩ : ∃ m1 : Nat, n = m1 + 1 := ⟨n - 1, by omega⟩
      have e1 : (n : Int) - 1 = (m1 : Int) := by omega
      have i2 : (0 : Int) ≤ (m1 : Int) - (i : Int) := by omega
      have i3 : (m1 : Int) - (i : Int) < (n : Int) := by omega
      have bW1 := below_new wr (.cells #[.int .i64 x, .int .i64 y] 40)
      have bW2 := below_new (wr.alloc (.cells #[.int .i64 x, .int .i64 y] 40)) (.cells #[.int .i64 x, .int .i64 y] 3)
      have hAR := arow_two (wr.alloc (.cells #[.int .i64 x, .int .i64 y] 40)) x y 3
      rw [World.size_alloc] at hAR
      have HAR := hide hAR
      clear hAR
      have HLN : Hid (([x, y] : List Int).length = 2) := hide rfl
      have HS1 := hide ((HS.out.below hz bW1).below (by simp; omega) bW2)
      have HB1 := hide (HB.out.trans ((bW1.trans (bW2.mono bW1.size)).mono HB.out.size))
      have hz1 : w.heap.size < ((wr.alloc (.cells #[.int .i64 x, .int .i64 y] 40)).alloc (.cells #[.int .i64 x, .int .i64 y] 3)).heap.size := by simp; omega
      cases hok : okM (L.getD i (0, 0))
      · have HK := hide (HAL.out.trans hok)
        obtain ⟨rfl, rfl⟩ := HNE.out hok
        have HNIL := hide (mo_nil ((wr.alloc (.cells #[.int .i64 x, .int .i64 y] 40)).alloc (.cells #[.int .i64 x, .int .i64 y] 3)) w.heap.size)
        clear hok bW1 bW2
        go_wp2_with fail
        refine (areb_eqn HAR HLN (by omega) HK).mono ?_
        rintro e w2 ⟨rfl, rfl⟩
        go_wp2_with fail
        go_ret2
        exact ⟨.slice none 0 0, rfl, HB1.out, HNIL.out⟩
      · have HK := hide (HAL.out.trans hok)
        have HON1 := hide (HON.out hok)
        have cm0 : ((wr.alloc (.cells #[.int .i64 x, .int .i64 y] 40)).alloc (.cells #[.int .i64 x, .int .i64 y] 3)).cell? ⟨wr.heap.size, 0, none⟩ = some (.int .i64 x) := by simp
        have cm1 : ((wr.alloc (.cells #[.int .i64 x, .int .i64 y] 40)).alloc (.cells #[.int .i64 x, .int .i64 y] 3)).cell? ⟨wr.heap.size, 1, none⟩ = some (.int .i64 y) := by simp
        have HM1 := hide hm1
        clear hok HNE HON bW1 bW2 hm1 HS
        go_wp2_with fail
        refine (areb_eqn HAR HLN (by omega) HK).mono ?_
        rintro e w2 ⟨rfl, hw2⟩
        subst hw2
        clear HAR
        generalize (wr.alloc (.cells #[.int .i64 x, .int .i64 y] 40)).alloc (.cells #[.int .i64 x, .int .i64 y] 3) = W2 at *
        generalize wr.heap.size = BV at *
        go_wp2_with fail
        refine (bko_any x y _).mono ?_
        rintro e W3 ⟨rfl, hb3⟩
        have hm1 := HM1.out
        have hz3 : w.heap.size < W3.heap.size := Nat.lt_of_lt_of_le hz1 hb3.size
        have HS3 := HS1.out.below hz1 hb3
        have f0 := HS3.1 ((m1 - i) * 2) (by omega)
        have f1 := HS3.1 ((m1 - i) * 2 + 1) (by omega)
        obtain ⟨v0, c0⟩ := Option.isSome_iff_exists.1 f0.1
        obtain ⟨v1, c1⟩ := Option.isSome_iff_exists.1 f1.1
        have g0 := f0.2
        have g1 := f1.2
        have HST1 := hide (HST.out _ HS3)
        rw [show n - 1 - i = m1 - i by omega] at HST1
        have HBS := hide fun (v v' : Value) => ((HB1.out.trans (hb3.mono HB1.out.size)).setCell (p := ⟨w.heap.size, (m1 - i) * 2, none⟩) (Nat.le_refl _) v).setCell (p := ⟨w.heap.size, (m1 - i) * 2 + 1, none⟩) (Nat.le_refl _) v'
        clear f0 f1 HS1 HS3 hb3 hm1 HM1
        go_wp2_with fail
        go_roundw
        case rel => exact ⟨i + 1, rfl, rfl, by go_num, by omega, HST1, hide (HBS.out _ _), by simpa using hz3, HON1⟩
        case measure => simp only [intOf]; omega
    · have hie : i = n := by omega
      subst hie
      obtain ⟨rfl, rfl⟩ := HYES.out (all_to HL.out HOK.out)
      have HFU := hide (HS.out.full HL.out)
      have HLO := hide HS.out.1
      go_wp2_with fail
      go_ret2
      refine ⟨.slice (some ⟨w.heap.size, 0, none⟩) i i, rfl, HB.out, Nat.le_refl _, rfl, Or.inr ⟨w.heap.size, i, by rw [backL_len, HL.out], Nat.le_refl _, hz, HFU.out, by rw [backL_len, HL.out]; exact HLO.out⟩⟩
theorem bk_w {a : Option Addr} {n c : Nat} {L : List (Int × Int)} {w : World} (hl : L.length = n) (ha : FRow w a L) :
    Calls Try.prog 13 #[.slice a n c] w fun e w' => ∃ v, e = .returned (.tuple #[v, .bool (bkB L)]) ∧ Below w.heap.size w w' ∧ MO w' w.heap.size w'.heap.size v (bkL L).length (bkL L) := by
  by_cases hn : n ≤ 20
  · exact bk_yes hl hn ha
  · have hG : bkB L = false := by unfold bkB; rw [hl]; simp; omega
    have hR : bkL L = [] := by unfold bkL; rw [hG]; rfl
    rw [hG, hR]
    exact (bk_long (by omega)).mono fun e w' ⟨he, hw⟩ => ⟨_, he, hw ▸ Below.refl _ _, hw ▸ mo_nil w _⟩
end Go.Proofs.Ytbhgdkkclefpnaa
namespace Go.Proofs.Ytbhgdkkclefpnaa
open Go.RowKit

def mce (L : List (Int × Int)) : List Value := L.flatMap fun f => [.int .i64 f.1, .int .i64 f.2]
theorem mce_snoc (L : List (Int × Int)) (f : Int × Int) : mce (L ++ [f]) = mce L ++ [.int .i64 f.1, .int .i64 f.2] := by simp [mce]
theorem mce_get : ∀ (L : List (Int × Int)) (i : Nat), i < L.length → (mce L)[i * 2]? = some (.int .i64 (L.getD i (0, 0)).1) ∧ (mce L)[i * 2 + 1]? = some (.int .i64 (L.getD i (0, 0)).2)
  | [], i, h => by simp at h
  | f :: r, 0, _ => by simp [mce]
  | f :: r, i + 1, h => by
    have ih := mce_get r i (by simpa using h)
    have e : mce (f :: r) = [.int .i64 f.1, .int .i64 f.2] ++ mce r := by simp [mce]
    rw [e, List.getD_cons_succ]
    constructor
    · rw [List.getElem?_append_right (by simp; omega)]
      rw [show (i + 1) * 2 - [Value.int IntKind.i64 f.1, Value.int IntKind.i64 f.2].length = i * 2 by simp; omega]
      exact ih.1
    · rw [List.getElem?_append_right (by simp; omega)]
      rw [show (i + 1) * 2 + 1 - [Value.int IntKind.i64 f.1, Value.int IntKind.i64 f.2].length = i * 2 + 1 by simp; omega]
      exact ih.2
theorem push_mv {w : World} {base n : Nat} {v : Value} {xs : List Value} {x y : Int} (hown : w.ownsRow base 40 2 v n xs) (hn : n ≤ 1048576) (hb : base ≤ w.heap.size) :
    ∃ v' w', (∀ ty, (Builtin.append_ #[26, 26] ty #[v, .slice (some ⟨w.heap.size, 0, none⟩) 1 1]).run Try.prog (w.alloc (.cells #[.int .i64 x, .int .i64 y] 40)) = .ok v' w') ∧ w'.ownsRow base 40 2 v' (n + 1) (xs ++ [.int .i64 x, .int .i64 y]) ∧ w.grownBy w' v.ownBlock := by
  have h : (Try.prog.info? 40).map (fun i => (i.zero, i.size, i.bytes)) = some (some (.agg #[.int .i64 0, .int .i64 0]), 2, 16) := by kernel_rfl
  obtain ⟨i0, hi, hzz⟩ := Option.map_eq_some_iff.1 h
  simp only [Prod.mk.injEq] at hzz
  obtain ⟨hz0, hz1, hz2⟩ := hzz
  obtain ⟨g, cap, w', h1, h2, h3, _, _⟩ := run_append_lies (P := Try.prog) (w := w.alloc (.cells #[.int .i64 x, .int .i64 y] 40)) 26 0 base 40 i0 _ 2 16 Try.underlying26 hi hz0 hz1 hz2 rfl (by decide) v n xs (hown.alloc _) ⟨w.heap.size, 0, none⟩ 1 1 [.int .i64 x, .int .i64 y] rfl (fun j u hj => by
      have hj2 : j = 0 ∨ j = 1 := by
        have := (List.getElem?_eq_some_iff.1 hj).1
        simp at this; omega
      rw [add_plain']
      rcases hj2 with rfl | rfl
      · simp at hj; subst hj; simp
      · simp at hj; subst hj; simp) (fun u hu => by simp at hu; rcases hu with rfl | rfl <;> rfl) (by omega) (by unfold maxLen; omega) (by omega) (by simp; omega) _ rfl
  refine ⟨_, w', fun _ => h1, h2, ?_⟩
  have hg := World.grownBy_alloc w (.cells #[.int .i64 x, .int .i64 y] 40) v.ownBlock
  exact ⟨h3.os.trans hg.os, h3.tape.trans hg.tape, h3.output.trans hg.output, Nat.le_trans hg.size h3.size, fun b hb hne => (h3.block b (Nat.lt_of_lt_of_le hb hg.size) hne).trans (hg.block b hb hne)⟩
theorem mo_own {w : World} {base n : Nat} {v : Value} {L : List (Int × Int)} (hx : L.length = n) (h : w.ownsRow base 40 2 v n (mce L)) : MO w base w.heap.size v n L := by
  refine ⟨Nat.le_refl _, hx, ?_⟩
  rcases h.2 with ⟨rfl, hn⟩ | ⟨g, cap, cur, rfl, hb, hg, _⟩
  · subst hn; exact Or.inl ⟨rfl, none, 0, rfl⟩
  · refine Or.inr ⟨g, cap, rfl, hb, (Array.getElem?_eq_some_iff.1 hg).1, fun i hi => ?_, fun j hj => ⟨?_, h.frozenAt j⟩⟩
    · obtain ⟨e1, e2⟩ := mce_get L i hi
      rw [Nat.zero_add, h.cellAt (i * 2) (by omega), h.cellAt (i * 2 + 1) (by omega)]
      exact ⟨e1, e2⟩
    · have hl : (mce L).length = n * 2 := h.1
      rw [h.cellAt j (by omega), List.getElem?_eq_getElem (by omega)]; rfl
theorem own_formM {w : World} {base n : Nat} {v : Value} {xs : List Value} (h : w.ownsRow base 40 2 v n xs) : ∃ a cap, v = .slice a n cap := by
  rcases h.2 with ⟨rfl, hn⟩ | ⟨g, cap, cur, rfl, _⟩
  · exact ⟨none, 0, by rw [hn]⟩
  · exact ⟨_, _, rfl⟩
/-- The moves from k on, the last one first. -/
def backTo (L : List (Int × Int)) (k : Nat) : List (Int × Int) := (L.drop k).reverse.map swp
theorem backTo_len (L : List (Int × Int)) (k : Nat) : (backTo L k).length = L.length - k := by simp [backTo]
theorem backTo_step {L : List (Int × Int)} {j : Nat} (hj : j < L.length) : backTo L j = backTo L (j + 1) ++ [swp (L.getD j (0, 0))] := by
  unfold backTo
  rw [List.drop_eq_getElem_cons hj, List.reverse_cons, List.map_append, List.getD_eq_getElem?_getD, List.getElem?_eq_getElem hj]
  rfl
set_option maxRecDepth 100000 in
set_option maxHeartbeats 4000000 in
theorem sbk_w {a : Option Addr} {n c : Nat} {L : List (Int × Int)} {w : World} (hl : L.length = n) (hn : n ≤ 1048576) (ha : FRow w a L) :
    Calls Try.prog 21 #[.slice a n c] w fun e w' => ∃ v, e = .returned (.tuple #[v, .bool (bkB L)]) ∧ Below w.heap.size w w' ∧ MO w' w.heap.size w'.heap.size v (bkL L).length (bkL L) := by
  have HL := hide hl
  have HA := hide ha
  have HNO : Hid ((L.all okM = false ∨ 20 < n) → bkB L = false ∧ bkL L = []) := hide fun h => by
    have : bkB L = false := by
      unfold bkB; rw [hl]
      rcases h with h | h
      · rw [h]; rfl
      · simp; omega
    exact ⟨this, by unfold bkL; rw [this]; rfl⟩
  have HYES : Hid (L.all okM = true → n ≤ 20 → bkB L = true ∧ bkL L = backL L) := hide fun h hn => by
    have : bkB L = true := by unfold bkB; rw [h, hl]; simp [hn]
    exact ⟨this, by unfold bkL; rw [this]; rfl⟩
  generalize bkB L = G at *
  generalize bkL L = R at *
  clear hl ha
  go_enter Try.func21, Try.ntmps21
  go_wp2_with fail
  go_loopw [2, 3, 4, 5, 6] (fun s2 s3 v s _ wr => ∃ (k : Nat) (q : Int), s2 = .slice none 0 0 ∧ s3 = .bool false ∧ s = .int .i64 q ∧ q = (k : Int) - 1 ∧ k ≤ n ∧ Hid (wr.ownsRow w.heap.size 40 2 v (n - k) (mce (backTo L k))) ∧ Hid (Below w.heap.size w wr) ∧ Hid (∀ j, k ≤ j → j < n → okM (L.getD j (0, 0)) = true)) (fun _ _ _ s _ _ => (intOf s + 1).toNat)
  case atStart => exact ⟨n, _, rfl, rfl, rfl, rfl, Nat.le_refl _, hide (by
      rw [Nat.sub_self, show backTo L n = [] by unfold backTo; rw [← HL.out, List.drop_length]; rfl]; exact World.ownsRow_nil _ _ _ _), hide (Below.refl _ _), hide fun j h1 h2 => absurd h1 (by omega)⟩
  case round =>
    obtain ⟨k, q, rfl, rfl, rfl, hq, hk, HO, HB, HOK⟩ := hrel
    obtain ⟨av, cv, hu⟩ := own_formM HO.out
    by_cases hq0 : 0 ≤ q
    · obtain ⟨j, rfl⟩ := Int.eq_ofNat_of_zero_le hq0
      obtain rfl : k = j + 1 := by omega
      clear hq
      have hlt : j < n := by omega
      obtain ⟨b, o, rfl, hb, r0, r1⟩ := HA.out.at (i := j) (by rw [HL.out]; exact hlt)
      have r0' := (HB.out.cell (p := ⟨b, o + j * 2, none⟩) hb).trans r0
      have r1' := (HB.out.cell (p := ⟨b, o + j * 2 + 1, none⟩) hb).trans r1
      have HNE := hide fun (h : okM (L.getD j (0, 0)) = false) => HNO.out (Or.inl (all_not (show j < L.length by rw [HL.out]; exact hlt) h))
      have HON := hide fun (h : okM (L.getD j (0, 0)) = true) => show ∀ i, j ≤ i → i < n → okM (L.getD i (0, 0)) = true from fun i h1 h2 => by
        by_cases e : i = j
        · subst e; exact h
        · exact HOK.out i (by omega) h2
      have HSP := hide (backTo_step (show j < L.length by rw [HL.out]; exact hlt))
      have HKD : Hid (okM (L.getD j (0, 0)) = (Pf.inB (L.getD j (0, 0)).1 0 8 && Pf.inB (L.getD j (0, 0)).2 0 8)) := hide rfl
      have HSW : Hid (swp (L.getD j (0, 0)) = ((L.getD j (0, 0)).2, (L.getD j (0, 0)).1)) := hide rfl
      generalize (L.getD j (0, 0)).1 = x at *
      generalize (L.getD j (0, 0)).2 = y at *
      clear r0 r1
      have i0 : (0 : Int) ≤ (j : Int) := by omega
      have i1 : (j : Int) < (n : Int) := by omega
      have bW1 := below_new wr (.cells #[.int .i64 x, .int .i64 y] 40)
      have HB1 := hide (HB.out.trans (bW1.mono HB.out.size))
      have own1 := HO.out.alloc (.cells #[.int .i64 x, .int .i64 y] 40)
      have hz1 : (wr.alloc (.cells #[.int .i64 x, .int .i64 y] 40)).heap.size = wr.heap.size + 1 := World.size_alloc _ _
      have cm0 : (wr.alloc (.cells #[.int .i64 x, .int .i64 y] 40)).cell? ⟨wr.heap.size, 0, none⟩ = some (.int .i64 x) := by simp
      have cm1 : (wr.alloc (.cells #[.int .i64 x, .int .i64 y] 40)).cell? ⟨wr.heap.size, 1, none⟩ = some (.int .i64 y) := by simp
      have HNIL := hide fun (W : World) => mo_nil W w.heap.size
      obtain ⟨W1, hW1⟩ : ∃ W, W = wr.alloc (.cells #[.int .i64 x, .int .i64 y] 40) := ⟨_, rfl⟩
      rw [← hW1] at HB1 own1 cm0 cm1 hz1
      have HW1 := hide hW1.symm
      have HO1 := hide own1
      obtain ⟨BV, hBV⟩ : ∃ b, b = wr.heap.size := ⟨_, rfl⟩
      rw [← hBV] at cm0 cm1
      have HBV := hide hBV.symm
      clear bW1 own1 hW1 hBV HO hz1
      subst hu
      go_upto_region 6 with fail
      rw [HW1.out, HBV.out]
      clear HW1 HBV
      cases hx : Pf.inB x 0 8
      · obtain ⟨rfl, rfl⟩ := HNE.out (by rw [HKD.out, hx]; rfl)
        go_wp2_with fail
        refine (in_eq hx).mono ?_
        rintro e w2 ⟨rfl, hw2⟩
        obtain rfl : W1 = w2 := hw2.symm
        go_wp2_with fail
        go_ret2
        exact ⟨.slice none 0 0, rfl, HB1.out, HNIL.out _⟩
      · cases hy : Pf.inB y 0 8
        · obtain ⟨rfl, rfl⟩ := HNE.out (by rw [HKD.out, hx, hy]; rfl)
          go_wp2_with fail
          refine (in_eq hx).mono ?_
          rintro e w2 ⟨rfl, hw2⟩
          obtain rfl : W1 = w2 := hw2.symm
          go_wp2_with fail
          refine (in_eq hy).mono ?_
          rintro e w2 ⟨rfl, hw2⟩
          obtain rfl : W1 = w2 := hw2.symm
          go_wp2_with fail
          go_ret2
          exact ⟨.slice none 0 0, rfl, HB1.out, HNIL.out _⟩
        · have HON1 := hide (HON.out (by rw [HKD.out, hx, hy]; rfl))
          obtain ⟨v3, w3, hr3, own3, hg3⟩ := push_mv (x := y) (y := x) HO1.out (by omega) HB1.out.size
          rw [← mce_snoc _ (y, x), ← HSW.out, ← HSP.out, show n - (j + 1) + 1 = n - j by omega] at own3
          have HO3 := hide own3
          have HB3 := hide (HB1.out.trans (grown_under' hg3 HO1.out (Nat.le_refl _) HB1.out.size))
          clear own3 hg3
          go_wp2_with fail
          refine (in_eq hx).mono ?_
          rintro e w2 ⟨rfl, hw2⟩
          obtain rfl : W1 = w2 := hw2.symm
          go_wp2_with fail
          refine (in_eq hy).mono ?_
          rintro e w2 ⟨rfl, hw2⟩
          obtain rfl : W1 = w2 := hw2.symm
          go_wp2_with (first | (at_builtin; refine Lib.wpList_append_run _ rfl _ _ _ _ rfl _ _ rfl rfl _ _ (hr3 _) ?_))
          go_roundw
          case rel => exact ⟨j, _, rfl, rfl, rfl, rfl, by omega, HO3, HB3, HON1⟩
          case measure => simp only [intOf]; omega
    · obtain rfl : k = 0 := by omega
      obtain rfl : q = -1 := by omega
      clear hq
      have hall := all_to HL.out (fun i hi => HOK.out i (Nat.zero_le _) hi)
      have e0 : backTo L 0 = backL L := rfl
      rw [Nat.sub_zero, e0] at HO
      subst hu
      by_cases hn20 : n ≤ 20
      · have n0 : ¬ (20 : Int) < (n : Int) := by omega
        obtain ⟨rfl, rfl⟩ := HYES.out hall hn20
        have HMO := hide (mo_own (by rw [backL_len, HL.out]) HO.out)
        go_wp2_with fail
        go_ret2
        exact ⟨_, rfl, HB.out, by rw [backL_len, HL.out]; exact HMO.out⟩
      · have n0 : (20 : Int) < (n : Int) := by omega
        obtain ⟨rfl, rfl⟩ := HNO.out (Or.inr (by omega))
        have HNIL := hide (mo_nil wr w.heap.size)
        go_wp2_with fail
        go_ret2
        exact ⟨.slice none 0 0, rfl, HB.out, HNIL.out⟩
end Go.Proofs.Ytbhgdkkclefpnaa
namespace Go.Proofs.Ytbhgdkkclefpnaa.Mx

open Classical in
/-- What holds while moves are planned: gk of them are still to come. -/
def PI (n gk : Nat) (xs ws cur : List Int) (p : List (Int × Int)) : Prop :=
  cur.length = n ∧ Mv.Two n (fn cur) (fn ws) ∧ Mv.need n (fn cur) (fn ws) = gk ∧ p.length + gk ≤ 16 ∧ plan 20 xs ws = p ++ plan (20 - p.length) cur ws
open Classical in
theorem pi_start {n : Nat} {xs ws : List Int} (h : sameB xs ws = true) (hx : xs.length = n) : ∃ gk, PI n gk xs ws xs [] := by
  obtain ⟨_, h2⟩ := same_two h hx
  have hn := good_len (same_good h).1
  have := Mv.need_bd h2
  exact ⟨Mv.need n (fn xs) (fn ws), hx, h2, rfl, by simp; omega, rfl⟩
theorem pi_step {n gk : Nat} {xs ws cur : List Int} {p : List (Int × Int)} {m : Int × Int} (h : PI n gk xs ws cur p) (hw : ws.length = n) (hm : nextM cur ws = some m) : ∃ f t, Nx n cur ws m f t ∧ 0 < gk ∧ PI n (gk - 1) xs ws (mv cur m) (p ++ [m]) := by
  obtain ⟨h1, h2, h3, h4, h5⟩ := h
  obtain ⟨⟨f, t, hn⟩, hd⟩ := next_yes h1 hw h2 hm
  refine ⟨f, t, hn, by omega, by rw [mv_len, h1], hn.two, by omega, by simp; omega, ?_⟩
  have e : 20 - p.length = (20 - (p ++ [m]).length) + 1 := by simp; omega
  rw [h5, e]
  simp only [plan, hm, List.append_assoc, List.cons_append, List.nil_append]
theorem pi_end {n gk : Nat} {xs ws cur : List Int} {p : List (Int × Int)} (h : PI n gk xs ws cur p) (hm : nextM cur ws = none) : plan 20 xs ws = p := by
  obtain ⟨_, _, _, h4, h5⟩ := h
  have e : 20 - p.length = (20 - p.length - 1) + 1 := by omega
  rw [h5, e]
  simp [plan, hm]
end Go.Proofs.Ytbhgdkkclefpnaa.Mx
namespace Go.Proofs.Ytbhgdkkclefpnaa
open Go.RowKit
theorem MO.low {w : World} {lo lo' hi n : Nat} {v : Value} {L : List (Int × Int)} (h : MO w lo hi v n L) (hl : lo' ≤ lo) : MO w lo' hi v n L := by
  obtain ⟨h1, h2, h3⟩ := h
  refine ⟨h1, h2, ?_⟩
  rcases h3 with h3 | ⟨g, cap, e, a1, a2, a3⟩
  · exact Or.inl h3
  · exact Or.inr ⟨g, cap, e, by omega, a2, a3⟩
/-- Rows of which one lies below k, the other from k on. -/
theorem kept_hi {w w' : World} {base e s n k g : Nat} {v : Value} {xs : List Value} (h : w.ownsRow base e s v n xs) (hk : k ≤ base) (hg : w.grownBy w' (some g)) (hgk : g < k) : w'.ownsRow base e s v n xs :=
  h.kept hg (Or.inr fun e => by have := (h.lt g e).1; omega)
theorem kept_lo {w w' : World} {base base' e s n e' s' n' k g cap : Nat} {v : Value} {xs ys : List Value} (h : w.ownsRow base e s (.slice (some ⟨g, 0, none⟩) n cap) n xs) (h' : w.ownsRow base' e' s' v n' ys) (hk : k ≤ base') (hg : w.grownBy w' v.ownBlock) (hgk : g < k) : w'.ownsRow base e s (.slice (some ⟨g, 0, none⟩) n cap) n xs :=
  h.kept hg (Or.inr fun e => by have := (h'.lt g e.symm).1; omega)
theorem pbox_hi {w w' : World} {B : Nat} {v0 v1 : Value} {q : Option Nat} (h : PBox w B v0 v1) (hg : w.grownBy w' q) (hq : ∀ b, q = some b → b ≠ B) : PBox w' B v0 v1 := by
  have hb : w'.heap[B]? = w.heap[B]? := hg.block B h.2.2 (fun e => hq B e.symm rfl)
  exact ⟨(World.cell?_of_block (w := w) (a := ⟨B, 0, none⟩) hb).trans h.1, (World.cell?_of_block (w := w) (a := ⟨B, 1, none⟩) hb).trans h.2.1, Nat.lt_of_lt_of_le h.2.2 hg.size⟩
set_option maxRecDepth 100000 in
set_option maxHeartbeats 400000 in
theorem pm_no {a b : Option Addr} {n m c d : Nat} {xs ws : List Int} {w : World} (HX : Hid (xs.length = n)) (HY : Hid (ws.length = m)) (hc : n ≤ c) (hd : m ≤ d) (HA : Hid (ARow w a xs)) (HB : Hid (ARow w b ws)) (HG : Hid (Mx.sameB xs ws = false)) :
    Calls Try.prog 5 #[.slice a n c, .slice b m d] w fun e w' => e = .returned (.tuple #[.slice none 0 0, .bool false]) ∧ Below w.heap.size w w' := by
  go_enter Try.func5, Try.ntmps5
  go_wp2_with fail
  refine (asg_eq HX HY hc hd HA HB HG).mono ?_
  rintro e w1 ⟨rfl, hb1⟩
  have HB1 := hide hb1
  clear hb1
  go_wp2_with fail
  go_ret2
  exact ⟨rfl, HB1.out⟩
set_option maxRecDepth 20000 in
set_option maxHeartbeats 4000000 in
theorem pm_yes {a b : Option Addr} {n c d : Nat} {xs ws : List Int} {w : World} (HX : Hid (xs.length = n)) (HY : Hid (ws.length = n)) (hc : n ≤ c) (hd : n ≤ d) (HA : Hid (ARow w a xs)) (HBR : Hid (ARow w b ws)) (HG : Hid (Mx.sameB xs ws = true)) :
    Calls Try.prog 5 #[.slice a n c, .slice b n d] w fun e w' => ∃ v, e = .returned (.tuple #[v, .bool true]) ∧ Below w.heap.size w w' ∧ w'.ownsRow w.heap.size 40 2 v (Mx.plan 20 xs ws).length (mce (Mx.plan 20 xs ws)) := by
  have hn := Mx.good_len (Mx.same_good HG.out).1
  rw [HX.out] at hn
  obtain ⟨n2, n9⟩ := hn
  obtain ⟨g0, hp0⟩ := Mx.pi_start HG.out HX.out
  have HP0 := hide hp0
  have HST := hide fun (gk : Nat) (cur : List Int) (p : List (Int × Int)) (m : Int × Int) (h : Mx.PI n gk xs ws cur p) (hm : Mx.nextM cur ws = some m) => Mx.pi_step h HY.out hm
  have HEN := hide fun (gk : Nat) (cur : List Int) (p : List (Int × Int)) (h : Mx.PI n gk xs ws cur p) (hm : Mx.nextM cur ws = none) => Mx.pi_end h hm
  have HLN := hide fun (gk : Nat) (cur : List Int) (p : List (Int × Int)) (h : Mx.PI n gk xs ws cur p) => show cur.length = n ∧ p.length ≤ 16 from ⟨h.1, by have := h.2.2.2.1; omega⟩
  generalize Mx.plan 20 xs ws = PL at *
  clear hp0
  go_enter Try.func5, Try.ntmps5
  go_wp2_with fail
  refine (asg_eq HX HY hc hd HA HBR HG).mono ?_
  rintro e w1 ⟨rfl, hb1⟩
  have HB1 := hide hb1
  obtain ⟨b0, o0, rfl, hb0, hcell⟩ := (HA.out.below hb1).resolve_left (fun e => by have := HX.out; rw [e] at this; simp at this; omega)
  have HCL := hide (clone_any (c := c) HX.out (by omega) hcell)
  clear hb1 hcell
  go_wp2_with fail
  refine HCL.out.mono ?_
  rintro e w2 ⟨v, rfl, hb2, own2⟩
  obtain ⟨g, cap, rfl, hg0, hg1⟩ := own_some10 own2 (by omega)
  have HB2 := hide (HB1.out.trans (hb2.mono HB1.out.size))
  have hgw : w.heap.size ≤ g := by have := HB1.out.size; omega
  have bV := below_new w2 (.cells #[.slice (some ⟨g, 0, none⟩) n cap, .slice b n d] 53)
  have hbx := PBox.new w2 (.slice (some ⟨g, 0, none⟩) n cap) (.slice b n d) 53
  have HO3 := hide (g_own (owns_low own2 HB1.out.size) bV)
  have HB3 := hide (HB2.out.trans (bV.mono HB2.out.size))
  obtain ⟨W3, hW3⟩ : ∃ W, W = w2.alloc (.cells #[.slice (some ⟨g, 0, none⟩) n cap, .slice b n d] 53) := ⟨_, rfl⟩
  rw [← hW3] at hbx HO3 HB3
  have HW3 := hide hW3.symm
  obtain ⟨BC, hBC⟩ : ∃ B, B = w2.heap.size := ⟨_, rfl⟩
  rw [← hBC] at hbx
  have HBC := hide hBC.symm
  have hgC : g ≠ BC := by omega
  have hgBC : g < BC := by omega
  have hwC : w.heap.size ≤ BC := by have := HB2.out.size; omega
  have HPB := hide hbx
  have hz3 := HB3.out.size
  clear own2 hb2 bV hbx hW3 hBC HCL
  go_upto_region 4 with fail
  rw [HW3.out, HBC.out]
  clear HW3 HBC
  go_wp2_with fail
  go_loopg [4, 5, 7, 8, 9] g0 (fun gk s4 s5 v _ _ wr => ∃ (cur : List Int) (p : List (Int × Int)), s4 = .slice none 0 0 ∧ s5 = .bool false ∧ Hid (Mx.PI n gk xs ws cur p) ∧ Hid (wr.ownsRow w.heap.size 3 1 (.slice (some ⟨g, 0, none⟩) n cap) n (ints cur)) ∧ Hid (wr.ownsRow W3.heap.size 40 2 v p.length (mce p)) ∧ Hid (PBox wr BC (.slice (some ⟨g, 0, none⟩) n cap) (.slice b n d)) ∧ Hid (Below w.heap.size w wr) ∧ W3.heap.size ≤ wr.heap.size)
  case atStart => exact ⟨xs, [], rfl, rfl, HP0, HO3, hide (World.ownsRow_nil _ _ _ _), HPB, HB3, Nat.le_refl _⟩
  case round =>
    obtain ⟨cur, p, rfl, rfl, HP, HO, HOP, HPX, HB, hzr⟩ := hrel
    obtain ⟨hcl, hpl⟩ := HLN.out _ _ _ HP.out
    have x0 := HPX.out.1
    have x1 := HPX.out.2.1
    have x2 := HPX.out.2.2
    have HNM := hide (nm_any (w := wr) (c := cap) (d := d) hcl HY.out (by omega) (arow_owns hcl.symm HO.out) (HBR.out.below HB.out))
    obtain ⟨av, cv, hu⟩ := own_formM HOP.out
    subst hu
    have HSTx := hide (HST.out gk cur p)
    have HENx := hide fun (hm : Mx.nextM cur ws = none) => HEN.out gk cur p HP.out hm
    generalize Mx.nextM cur ws = NX at *
    go_wp2_with fail
    refine HNM.out.mono ?_
    rintro e w4 ⟨F, T, s, rfl, hs, hb4⟩
    have HSS := hide hs
    have bW := below_new w4 (.cells #[.int .i64 F, .int .i64 T] 40)
    have hb5 := hb4.trans (bW.mono hb4.size)
    have v0 : (w4.alloc (.cells #[.int .i64 F, .int .i64 T] 40)).cell? ⟨w4.heap.size, 0, none⟩ = some (.int .i64 F) := by simp
    have v1 : (w4.alloc (.cells #[.int .i64 F, .int .i64 T] 40)).cell? ⟨w4.heap.size, 1, none⟩ = some (.int .i64 T) := by simp
    have hz5 : (w4.alloc (.cells #[.int .i64 F, .int .i64 T] 40)).heap.size = w4.heap.size + 1 := World.size_alloc _ _
    obtain ⟨W5, hW5⟩ : ∃ W, W = w4.alloc (.cells #[.int .i64 F, .int .i64 T] 40) := ⟨_, rfl⟩
    rw [← hW5] at hb5 v0 v1 hz5
    have HW5 := hide hW5.symm
    obtain ⟨BM, hBM⟩ : ∃ B, B = w4.heap.size := ⟨_, rfl⟩
    rw [← hBM] at v0 v1
    have HBM := hide hBM.symm
    have HO5 := hide (g_own HO.out hb5)
    have HOP5 := hide (g_own HOP.out hb5)
    have HPX5 := hide (HPX.out.below hb5)
    have HB5 := hide (HB.out.trans (hb5.mono HB.out.size))
    have hz6 : wr.heap.size ≤ BM := by rw [hBM]; exact hb4.size
    have hz7 : BM < W5.heap.size := by omega
    clear hs hb4 bW hb5 hW5 hBM HNM x0 x1 hz5
    go_upto_region 6 with fail
    rw [HW5.out, HBM.out]
    clear HW5 HBM
    have x0 := HPX5.out.1
    have x1 := HPX5.out.2.1
    cases s
    · obtain rfl : NX = none := HSS.out
      have hpe := HENx.out rfl
      subst hpe
      have hlo : w.heap.size ≤ W3.heap.size := hz3
      have HFI2 := hide (owns_low HOP5.out hlo)
      go_wp2_with fail
      go_ret2
      exact ⟨_, rfl, HB5.out, HFI2.out⟩
    · obtain rfl : NX = some (F, T) := HSS.out
      obtain ⟨f, t, hnx, hgk, hpi⟩ := HSTx.out _ HP.out rfl
      have hme := hnx.e
      simp only [Prod.mk.injEq] at hme
      obtain ⟨rfl, rfl⟩ := hme
      have HPN := hide hpi
      have HMG := hide (mg_any (f := f) (t := t) hcl hnx.hf hnx.ht HO5.out)
      clear hnx hpi HSTx HENx HST HEN
      go_wp2_with fail
      refine HMG.out.mono ?_
      rintro e w6 ⟨rfl, own6, hg6⟩
      have HO6 := hide own6
      have hgBM : g < BM := by have := (HO.out.lt g rfl).2; omega
      have v0 := (World.cell?_of_block (w := W5) (a := ⟨BM, 0, none⟩) (hg6.block BM hz7 (by intro e; cases e; omega))).trans v0
      have v1 := (World.cell?_of_block (w := W5) (a := ⟨BM, 1, none⟩) (hg6.block BM hz7 (by intro e; cases e; omega))).trans v1
      have hgW : g < W3.heap.size := by have := HPB.out.2.2; omega
      have hCW := HPB.out.2.2
      have HOP6 := hide (kept_hi HOP5.out (Nat.le_refl _) hg6 hgW)
      have HPX6 := hide (pbox_hi HPX5.out hg6 (fun b e => by cases e; exact hgC))
      have HB6 := hide (HB5.out.trans (grown_under10 hg6 (fun b e => by cases e; exact hgw) HB5.out.size))
      have hz8 := hg6.size
      obtain ⟨v9, w9, hr9, own9, hg9⟩ := push_mv (x := (f : Int)) (y := (t : Int)) HOP6.out (by omega) (by omega)
      rw [← mce_snoc p ((f : Int), (t : Int))] at own9
      have HOP9 := hide own9
      have HO9 := hide (kept_lo HO6.out HOP6.out (Nat.le_refl _) hg9 hgW)
      have HPX9 := hide (pbox_hi HPX6.out hg9 (fun b e => by have := (HOP6.out.lt b e).1; omega))
      have HB9 := hide (HB6.out.trans (grown_under10 hg9 (fun b e => by have := (HOP6.out.lt b e).1; omega) HB6.out.size))
      have hz9 := hg9.size
      clear own6 hg6 own9 hg9 HMG HOP6 HO6 HPX6 HB6
      go_wp2_with (first | (at_builtin; refine Lib.wpList_append_run _ rfl _ _ _ _ rfl _ _ rfl rfl _ _ (hr9 _) ?_))
      go_roundg (gk - 1)
      case measure => omega
      case rel => exact ⟨_, p ++ [((f : Int), (t : Int))], rfl, rfl, HPN, HO9, by rw [List.length_append]; exact HOP9, HPX9, HB9, by omega⟩
theorem pm_o {a b : Option Addr} {n m c d : Nat} {xs ws : List Int} {w : World} (hx : xs.length = n) (hy : ws.length = m) (hc : n ≤ c) (hd : m ≤ d) (ha : ARow w a xs) (hb : ARow w b ws) :
    Calls Try.prog 5 #[.slice a n c, .slice b m d] w fun e w' => ∃ v, e = .returned (.tuple #[v, .bool (Mx.sameB xs ws)]) ∧ Below w.heap.size w w' ∧ w'.ownsRow w.heap.size 40 2 v (Mx.pmL xs ws).length (mce (Mx.pmL xs ws)) := by
  cases hg : Mx.sameB xs ws
  · have e1 : Mx.pmL xs ws = [] := by unfold Mx.pmL; rw [hg]; rfl
    rw [e1]
    exact (pm_no (hide hx) (hide hy) hc hd (hide ha) (hide hb) (hide hg)).mono fun _ _ ⟨he, hw⟩ => ⟨_, he, hw, World.ownsRow_nil _ _ _ _⟩
  · have e1 : Mx.pmL xs ws = Mx.plan 20 xs ws := by unfold Mx.pmL; rw [hg]; rfl
    rw [e1]
    obtain ⟨e2, _⟩ := Mx.same_two hg hx
    obtain rfl : n = m := by omega
    exact pm_yes (hide hx) (hide hy) hc hd (hide ha) (hide hb) (hide hg)
theorem pm_w {a b : Option Addr} {n m c d : Nat} {xs ws : List Int} {w : World} (hx : xs.length = n) (hy : ws.length = m) (hc : n ≤ c) (hd : m ≤ d) (ha : ARow w a xs) (hb : ARow w b ws) :
    Calls Try.prog 5 #[.slice a n c, .slice b m d] w fun e w' => ∃ v, e = .returned (.tuple #[v, .bool (Mx.sameB xs ws)]) ∧ Below w.heap.size w w' ∧ MO w' w.heap.size w'.heap.size v (Mx.pmL xs ws).length (Mx.pmL xs ws) :=
  (pm_o hx hy hc hd ha hb).mono fun _ _ ⟨v, he, hw, ho⟩ => ⟨v, he, hw, mo_own rfl ho⟩
end Go.Proofs.Ytbhgdkkclefpnaa
namespace Go.Proofs.Ytbhgdkkclefpnaa
open Go.RowKit

theorem home_gt {xs ws : List Int} {n k : Nat} (h2 : Mv.Two n (Mx.fn xs) (Mx.fn ws)) (hk : k < n) : Mx.homeAt xs ws k = (decide (0 < ws.getD k 0) && (xs.getD k 0 == 0)) := by
  have := h2.sb.ge k hk
  have h' : 0 ≤ ws.getD k 0 := this
  unfold Mx.homeAt
  by_cases h : ws.getD k 0 = 0
  · rw [h]; simp
  · rw [show (ws.getD k 0 != 0) = true from bne_iff_ne.2 h, show decide (0 < ws.getD k 0) = true by simp only [decide_eq_true_eq]; omega]
theorem aside_gt {xs ws : List Int} {n k : Nat} (h2 : Mv.Two n (Mx.fn xs) (Mx.fn ws)) (hk : k < n) (hh : Mx.homeAt xs ws k = false) : Mx.asideAt xs ws k = (decide (0 < xs.getD k 0) && (ws.getD k 0 != xs.getD k 0)) := by
  have hx' : 0 ≤ xs.getD k 0 := h2.sa.ge k hk
  unfold Mx.homeAt at hh
  unfold Mx.asideAt
  by_cases h : xs.getD k 0 = 0
  · rw [h] at hh ⊢
    have hw : ws.getD k 0 = 0 := by
      rw [Bool.and_eq_false_iff] at hh
      rcases hh with hh | hh
      · exact bne_eq_false_iff_eq.1 hh
      · simp at hh
    rw [hw]; simp
  · rw [show decide (0 < xs.getD k 0) = true by simp only [decide_eq_true_eq]; omega, Bool.true_and]
    by_cases e : xs.getD k 0 = ws.getD k 0
    · rw [e]
    · rw [bne_iff_ne.2 e, bne_iff_ne.2 (Ne.symm e)]
def NsP (w : World) (o : Option (Int × Int)) (e : Ending) (w' : World) : Prop := ∃ F T, e = .returned (.agg #[.int .i64 F, .int .i64 T]) ∧ ((o = some (F, T) ∧ 0 ≤ F) ∨ (o = none ∧ F = -1)) ∧ Below w.heap.size w w'
set_option maxRecDepth 100000 in
set_option maxHeartbeats 4000000 in
theorem ln_any {a b : Option Addr} {n c d : Nat} {xs ws : List Int} {w : World} (hx : xs.length = n) (hy : ws.length = n) (hn : n ≤ 1000) (h2 : Mv.Two n (Mx.fn xs) (Mx.fn ws)) (ha : ARow w a xs) (hbw : ARow w b ws) :
    Calls Try.prog 28 #[.slice a n c, .slice b n d] w (NsP w (Mx.nextM xs ws)) := by
  have hb := below_new w (.cells #[.int .i64 0, .int .i64 0] 40)
  have r0 : (w.alloc (.cells #[.int .i64 0, .int .i64 0] 40)).cell? ⟨w.heap.size, 0, none⟩ = some (.int .i64 0) := by simp
  have r1 : (w.alloc (.cells #[.int .i64 0, .int .i64 0] 40)).cell? ⟨w.heap.size, 1, none⟩ = some (.int .i64 0) := by simp
  have r2 : (w.alloc (.cells #[.int .i64 0, .int .i64 0] 40)).frozen? ⟨w.heap.size, 0, none⟩ = false := by simp [go_sem]
  have r3 : (w.alloc (.cells #[.int .i64 0, .int .i64 0] 40)).frozen? ⟨w.heap.size, 1, none⟩ = false := by simp [go_sem]
  obtain ⟨W2, hW2⟩ : ∃ W, W = w.alloc (.cells #[.int .i64 0, .int .i64 0] 40) := ⟨_, rfl⟩
  rw [← hW2] at hb r0 r1 r2 r3
  have HA := hide (ha.below hb)
  have HBB := hide (hbw.below hb)
  have HB := hide hb
  have HW2 := hide hW2.symm
  obtain ⟨B, hB⟩ : ∃ B, B = w.heap.size := ⟨_, rfl⟩
  rw [← hB] at r0 r1 r2 r3
  have HBe := hide hB.symm
  have HBS := hide fun (x y : Value) => ((hb.setCell (p := ⟨B, 0, none⟩) (by show w.heap.size ≤ B; omega) x).setCell (p := ⟨B, 1, none⟩) (by show w.heap.size ≤ B; omega) y)
  have HX := hide hx
  have HY := hide hy
  have HT := hide h2
  have HNXT := hide fun (m : Int × Int) (h : Mx.nextM xs ws = some m) => show 0 ≤ m.1 by
    obtain ⟨⟨f, t, hq⟩, _⟩ := Mx.next_yes hx hy h2 h
    rw [hq.e]; simp
  have HNH := hide fun (m : Int × Int) (h : homeM xs ws = some m) => next_h h
  have HNA := hide fun (h : homeM xs ws = none) => next_a h
  generalize Mx.nextM xs ws = ON at *
  clear hb hW2 hB ha hbw hx hy h2
  go_enter Try.func28, Try.ntmps28
  go_upto_region 1 with fail
  rw [HW2.out, HBe.out]
  clear HW2 HBe
  go_wp2_with fail
  go_loop [5, 6, 11] (fun _ _ s => ∃ k : Nat, s = .int .i64 k ∧ k ≤ n ∧ Hid (∀ j, j < k → Mx.homeAt xs ws j = false)) (fun _ _ s => n - (intOf s).toNat)
  case atStart => exact ⟨0, rfl, Nat.zero_le _, hide fun j hj => absurd hj (Nat.not_lt_zero _)⟩
  case round =>
    obtain ⟨k, rfl, hk, HK⟩ := hrel
    by_cases hlt : k < n
    · obtain ⟨b1, o1, rfl, q1⟩ := HBB.out.at (i := k) (by rw [HY.out]; exact hlt)
      obtain ⟨b2, o2, rfl, q2⟩ := HA.out.at (i := k) (by rw [HX.out]; exact hlt)
      have i0 : (0 : Int) ≤ (k : Int) := by omega
      have i1 : (k : Int) < (n : Int) := by omega
      have HNX := hide fun (h : Mx.homeAt xs ws k = false) => show ∀ j, j < k + 1 → Mx.homeAt xs ws j = false from fun j hj => by
        by_cases e : j = k
        · subst e; exact h
        · exact HK.out j (by omega)
      have HYS := hide fun (h : Mx.homeAt xs ws k = true) => HNH.out _ (home_is HY.out hlt h HK.out)
      have HDF := hide (home_gt HT.out hlt)
      have HIX := hide (sp_any (w := W2) (c := c) (x := ws.getD k 0) HX.out (by omega) HA.out)
      generalize Ma.idx xs (ws.getD k 0) = J at *
      generalize ws.getD k 0 = g at *
      generalize xs.getD k 0 = x at *
      by_cases hg : 0 < g
      · have hg' : decide (0 < g) = true := by simp [hg]
        cases hx0 : (x == 0)
        · have H1 := hide (HNX.out (by rw [HDF.out, hx0]; simp))
          clear hg'
          go_wp2_with fail
          go_round
          case rel => exact ⟨k + 1, by go_num, by omega, H1⟩
          case measure => simp only [intOf]; omega
        · have H1 := hide (HYS.out (by rw [HDF.out, hg', hx0]; rfl))
          have H2 := hide (HNXT.out _ H1.out)
          have HFIN := hide (HBS.out (.int .i64 J) (.int .i64 (k : Int)))
          clear hg'
          go_wp2_with fail
          refine HIX.out.mono ?_
          rintro e w3 ⟨rfl, hw3⟩
          obtain rfl : W2 = w3 := hw3.symm
          go_wp2_with fail
          exact bodyPost_ret (v := .agg #[.int .i64 J, .int .i64 (k : Int)]) (by simp [results, Try.results28, go_sem, *]) rfl ⟨J, (k : Int), rfl, Or.inl ⟨H1.out, H2.out⟩, HFIN.out⟩
      · have hg' : decide (0 < g) = false := by simp; omega
        have H1 := hide (HNX.out (by rw [HDF.out, hg']; rfl))
        clear hg'
        go_wp2_with fail
        go_round
        case rel => exact ⟨k + 1, by go_num, by omega, H1⟩
        case measure => simp only [intOf]; omega
    · have hke : k = n := by omega
      subst hke
      have HNO := hide (HNA.out (home_no HY.out HK.out))
      clear HNH HNA
      go_wp2_with fail
      go_loop [7, 8, 33] (fun _ _ s => ∃ i : Nat, s = .int .i64 i ∧ i ≤ k ∧ Hid (∀ j, j < i → Mx.asideAt xs ws j = false)) (fun _ _ s => k - (intOf s).toNat)
      case atStart => exact ⟨0, rfl, Nat.zero_le _, hide fun j hj => absurd hj (Nat.not_lt_zero _)⟩
      case round =>
        obtain ⟨i, rfl, hi, HI⟩ := hrel
        by_cases hli : i < k
        · obtain ⟨b1, o1, rfl, q1⟩ := HBB.out.at (i := i) (by rw [HY.out]; exact hli)
          obtain ⟨b2, o2, rfl, q2⟩ := HA.out.at (i := i) (by rw [HX.out]; exact hli)
          have i0 : (0 : Int) ≤ (i : Int) := by omega
          have i1 : (i : Int) < (k : Int) := by omega
          have HNX := hide fun (h : Mx.asideAt xs ws i = false) => show ∀ j, j < i + 1 → Mx.asideAt xs ws j = false from fun j hj => by
            by_cases e : j = i
            · subst e; exact h
            · exact HI.out j (by omega)
          have HYS := hide fun (h : Mx.asideAt xs ws i = true) => HNO.out.trans (aside_is HX.out hli h HI.out)
          have HDF := hide (aside_gt HT.out hli (HK.out i hli))
          have HIX := hide (sp_any (w := W2) (c := c) (x := 0) HX.out (by omega) HA.out)
          generalize Ma.idx xs 0 = J at *
          generalize ws.getD i 0 = g at *
          generalize xs.getD i 0 = x at *
          by_cases hg : 0 < x
          · have hg' : decide (0 < x) = true := by simp [hg]
            cases hx0 : (g != x)
            · have H1 := hide (HNX.out (by rw [HDF.out, hx0]; simp))
              clear hg'
              go_wp2_with fail
              go_round
              case rel => exact ⟨i + 1, by go_num, by omega, H1⟩
              case measure => simp only [intOf]; omega
            · have H1 := hide (HYS.out (by rw [HDF.out, hg', hx0]; rfl))
              have H2 := hide (HNXT.out _ H1.out)
              have HFIN := hide (HBS.out (.int .i64 (i : Int)) (.int .i64 J))
              clear hg'
              go_wp2_with fail
              refine HIX.out.mono ?_
              rintro e w3 ⟨rfl, hw3⟩
              obtain rfl : W2 = w3 := hw3.symm
              go_wp2_with fail
              exact bodyPost_ret (v := .agg #[.int .i64 (i : Int), .int .i64 J]) (by simp [results, Try.results28, go_sem, *]) rfl ⟨(i : Int), J, rfl, Or.inl ⟨H1.out, H2.out⟩, HFIN.out⟩
          · have hg' : decide (0 < x) = false := by simp; omega
            have H1 := hide (HNX.out (by rw [HDF.out, hg']; rfl))
            clear hg'
            go_wp2_with fail
            go_round
            case rel => exact ⟨i + 1, by go_num, by omega, H1⟩
            case measure => simp only [intOf]; omega
        · have hie : i = k := by omega
          subst hie
          have H1 := hide (HNO.out.trans (aside_no HX.out HI.out))
          have HFIN := hide (HBS.out (.int .i64 (-1)) (.int .i64 0))
          go_wp2_with fail
          exact bodyPost_ret (v := .agg #[.int .i64 (-1), .int .i64 0]) (by simp [results, Try.results28, go_sem, *]) rfl ⟨-1, 0, rfl, Or.inr ⟨H1.out, rfl⟩, HFIN.out⟩
end Go.Proofs.Ytbhgdkkclefpnaa
namespace Go.Proofs.Ytbhgdkkclefpnaa
open Go.RowKit

theorem nx_can {n f t : Nat} {cur ws : List Int} {m : Int × Int} (hc : cur.length = n) (h : Mx.Nx n cur ws m f t) : Mx.canB cur m = true := by
  obtain ⟨rfl, hf, ht, hcan, _⟩ := h
  rw [can_at hc hf ht]
  have h1 : 0 < cur.getD f 0 := hcan.af
  have h2 : cur.getD t 0 = 0 := hcan.at0
  rw [h2, show (cur.getD f 0 != 0) = true from bne_iff_ne.2 (by omega)]; rfl
theorem set2_grown {w w' : World} {B : Nat} {x y : Value} (h : w' = (w.setCell ⟨B, 0, none⟩ x).setCell ⟨B, 1, none⟩ y) : w.grownBy w' (some B) := by
  subst h; exact grownF_set (grownF_set (World.grownBy.refl _ _))
theorem set2_cells {w : World} {B : Nat} {x y u v : Value} (h0 : w.cell? ⟨B, 0, none⟩ = some u) (h1 : w.cell? ⟨B, 1, none⟩ = some v) : ((w.setCell ⟨B, 0, none⟩ x).setCell ⟨B, 1, none⟩ y).cell? ⟨B, 0, none⟩ = some x ∧ ((w.setCell ⟨B, 0, none⟩ x).setCell ⟨B, 1, none⟩ y).cell? ⟨B, 1, none⟩ = some y := by
  have ne : ∀ {W : World} {a b : Nat} {v : Value}, a ≠ b → (W.setCell ⟨B, a, none⟩ v).cell? ⟨B, b, none⟩ = W.cell? ⟨B, b, none⟩ := fun hne => World.cell?_setCell_other _ _ _ _ (fun e' => hne (by injection e'))
  refine ⟨(ne (by omega)).trans (setF1 (by rw [h0]; rfl)), setF1 ?_⟩
  rw [ne (by omega), h1]; rfl
theorem kept_ne {w w' : World} {base e s n B : Nat} {v : Value} {xs : List Value} (h : w.ownsRow base e s v n xs) (hg : w.grownBy w' (some B)) (hne : ∀ b, v.ownBlock = some b → b ≠ B) : w'.ownsRow base e s v n xs :=
  h.kept hg (Or.inr fun e => hne B e rfl)
set_option maxRecDepth 100000 in
set_option maxHeartbeats 400000 in
theorem spm_no {a b : Option Addr} {n m c d : Nat} {xs ws : List Int} {w : World} (HX : Hid (xs.length = n)) (HY : Hid (ws.length = m)) (hc : n ≤ c) (hd : m ≤ d) (HA : Hid (ARow w a xs)) (HB : Hid (ARow w b ws)) (HG : Hid (Mx.sameB xs ws = false)) :
    Calls Try.prog 6 #[.slice a n c, .slice b m d] w fun e w' => e = .returned (.tuple #[.slice none 0 0, .bool false]) ∧ Below w.heap.size w w' := by
  go_enter Try.func6, Try.ntmps6
  go_wp2_with fail
  refine (lb_eq HX HY hc hd HA HB HG).mono ?_
  rintro e w1 ⟨rfl, hw1⟩
  obtain rfl : w = w1 := hw1.symm
  go_wp2_with fail
  go_ret2
  exact ⟨rfl, Below.refl _ _⟩
set_option maxRecDepth 20000 in
set_option maxHeartbeats 4000000 in
theorem spm_yes {a b : Option Addr} {n c d : Nat} {xs ws : List Int} {w : World} (HX : Hid (xs.length = n)) (HY : Hid (ws.length = n)) (hc : n ≤ c) (hd : n ≤ d) (HA : Hid (ARow w a xs)) (HBR : Hid (ARow w b ws)) (HG : Hid (Mx.sameB xs ws = true)) :
    Calls Try.prog 6 #[.slice a n c, .slice b n d] w fun e w' => ∃ v, e = .returned (.tuple #[v, .bool true]) ∧ Below w.heap.size w w' ∧ w'.ownsRow w.heap.size 40 2 v (Mx.plan 20 xs ws).length (mce (Mx.plan 20 xs ws)) := by
  have hn := Mx.good_len (Mx.same_good HG.out).1
  rw [HX.out] at hn
  obtain ⟨n2, n9⟩ := hn
  obtain ⟨g0, hp0⟩ := Mx.pi_start HG.out HX.out
  have HP0 := hide hp0
  have HST := hide fun (gk : Nat) (cur : List Int) (p : List (Int × Int)) (m : Int × Int) (h : Mx.PI n gk xs ws cur p) (hm : Mx.nextM cur ws = some m) => Mx.pi_step h HY.out hm
  have HEN := hide fun (gk : Nat) (cur : List Int) (p : List (Int × Int)) (h : Mx.PI n gk xs ws cur p) (hm : Mx.nextM cur ws = none) => Mx.pi_end h hm
  have HLN := hide fun (gk : Nat) (cur : List Int) (p : List (Int × Int)) (h : Mx.PI n gk xs ws cur p) => show cur.length = n ∧ p.length ≤ 16 ∧ Mv.Two n (Mx.fn cur) (Mx.fn ws) from ⟨h.1, by have := h.2.2.2.1; omega, h.2.1⟩
  have HL0 := hide (HLN.out _ _ _ hp0)
  generalize Mx.plan 20 xs ws = PL at *
  obtain ⟨v, w2, hr2, own2, hb2⟩ := cl_run (c := c) HX.out (by omega) HA.out
  obtain ⟨g, cap, rfl, hg0, hg1⟩ := own_some10 own2 (by omega)
  have HO2 := hide own2
  have HB2 := hide hb2
  have HLX := hide (ln_any (w := w2) (c := cap) (d := d) HX.out HY.out (by omega) HL0.out.2.2 (arow_owns HX.out.symm own2) (HBR.out.below hb2))
  clear hp0 own2 hb2 HL0
  go_enter Try.func6, Try.ntmps6
  go_wp2_with fail
  refine (lb_eq HX HY hc hd HA HBR HG).mono ?_
  rintro e w1 ⟨rfl, hw1⟩
  obtain rfl : w = w1 := hw1.symm
  go_wp2_with (first | (at_builtin; refine Lib.wpList_append_run _ rfl _ _ _ _ rfl _ _ rfl rfl _ _ (hr2 _) ?_))
  clear hr2
  refine HLX.out.mono ?_
  rintro e w3 ⟨F0, T0, rfl, hs0, hb3⟩
  have HS0 := hide hs0
  have bV := below_new w3 (.cells #[.int .i64 F0, .int .i64 T0] 40)
  have hbx := PBox.new w3 (.int .i64 F0) (.int .i64 T0) 40
  have hb4 := hb3.trans (bV.mono hb3.size)
  have HO4 := hide (g_own HO2.out hb4)
  have HB4 := hide (HB2.out.trans (hb4.mono HB2.out.size))
  obtain ⟨W4, hW4⟩ : ∃ W, W = w3.alloc (.cells #[.int .i64 F0, .int .i64 T0] 40) := ⟨_, rfl⟩
  rw [← hW4] at hbx HO4 HB4
  have HW4 := hide hW4.symm
  obtain ⟨B0, hB0⟩ : ∃ B, B = w3.heap.size := ⟨_, rfl⟩
  rw [← hB0] at hbx
  have HB0 := hide hB0.symm
  have hgB : g < B0 := by have := hb3.size; omega
  have HPB := hide hbx
  have hg4 := (HO4.out.lt g rfl).2
  have hz4 := HB4.out.size
  clear hs0 bV hbx hb4 hb3 hW4 hB0 HLX
  go_wp2_with fail
  rw [HW4.out, HB0.out]
  clear HW4 HB0
  go_loopg [7, 8] g0 (fun gk v s8 wr => ∃ (cur : List Int) (p : List (Int × Int)) (BM : Nat) (F T : Int), s8 = .pointer (some ⟨BM, 0, none⟩) ∧ g < BM ∧ Hid (Mx.PI n gk xs ws cur p) ∧ Hid (wr.ownsRow w.heap.size 3 1 (.slice (some ⟨g, 0, none⟩) n cap) n (ints cur)) ∧ Hid (wr.ownsRow W4.heap.size 40 2 v p.length (mce p)) ∧ Hid (PBox wr BM (.int .i64 F) (.int .i64 T)) ∧ Hid (∀ b, v.ownBlock = some b → b ≠ BM) ∧ Hid ((Mx.nextM cur ws = some (F, T) ∧ 0 ≤ F) ∨ (Mx.nextM cur ws = none ∧ F = -1)) ∧ Hid (Below w.heap.size w wr) ∧ W4.heap.size ≤ wr.heap.size)
  case atStart => exact ⟨xs, [], B0, F0, T0, rfl, hgB, HP0, HO4, hide (World.ownsRow_nil _ _ _ _), HPB, hide (fun b e => by simp [Value.ownBlock] at e), HS0, HB4, Nat.le_refl _⟩
  case round =>
    obtain ⟨cur, p, BM, F, T, rfl, hgBM, HP, HO, HOP, HPX, HNB, HS, HB, hzr⟩ := hrel
    obtain ⟨hcl, hpl, _⟩ := HLN.out _ _ _ HP.out
    have x0 := HPX.out.1
    have x1 := HPX.out.2.1
    have x2 := HPX.out.2.2
    obtain ⟨av, cv, hu⟩ := own_formM HOP.out
    subst hu
    rcases HS.out with ⟨hs, hF⟩ | ⟨hs, hF⟩
    · obtain ⟨f, t, hnx, hgk, hpi⟩ := HST.out _ _ _ _ HP.out hs
      have hcan := nx_can hcl hnx
      have hme := hnx.e
      simp only [Prod.mk.injEq] at hme
      obtain ⟨rfl, rfl⟩ := hme
      have haf : aft cur ((f : Int), (t : Int)) = Mx.mv cur ((f : Int), (t : Int)) := by unfold aft; rw [hcan]; rfl
      have HLD := hide (ld_any (F := (f : Int)) (T := (t : Int)) hcl HO.out)
      rw [haf] at HLD
      have HPN := hide hpi
      obtain ⟨hcl2, hpl2, htwo⟩ := HLN.out _ _ _ hpi
      have HTW := hide htwo
      have HC2 := hide hcl2
      have f0 : (0 : Int) ≤ (f : Int) := by omega
      generalize Mx.mv cur ((f : Int), (t : Int)) = nxt at *
      clear hnx hpi hcan haf htwo hcl2 hs HS
      go_wp2_with fail
      refine HLD.out.mono ?_
      rintro e w5 ⟨rfl, own5, hg5⟩
      have HO5 := hide own5
      have hgW : g < W4.heap.size := hg4
      have HOP5 := hide (kept_hi HOP.out (Nat.le_refl _) hg5 hgW)
      have HPX5 := hide (pbox_hi HPX.out hg5 (fun b e => by cases e; omega))
      have HB5 := hide (HB.out.trans (grown_under10 hg5 (fun b e => by cases e; exact hg0) HB.out.size))
      have hz5 := hg5.size
      have y0 := HPX5.out.1
      have y1 := HPX5.out.2.1
      obtain ⟨v6, w6, hr6, own6, hg6⟩ := push_mv (x := (f : Int)) (y := (t : Int)) HOP5.out (by omega) (by omega)
      rw [← mce_snoc p ((f : Int), (t : Int))] at own6
      have HOP6 := hide own6
      have HO6 := hide (kept_lo HO5.out HOP5.out (Nat.le_refl _) hg6 hgW)
      have HPX6 := hide (pbox_hi HPX5.out hg6 (fun b e => HNB.out b e))
      have HB6 := hide (HB5.out.trans (grown_under10 hg6 (fun b e => by have := (HOP5.out.lt b e).1; omega) HB5.out.size))
      have hz6 := hg6.size
      have u0 := HPX6.out.1
      have u1 := HPX6.out.2.1
      have bV := below_new w6 (.cells #[.int .i64 (f : Int), .int .i64 (t : Int)] 40)
      have hbx := PBox.new w6 (.int .i64 (f : Int)) (.int .i64 (t : Int)) 40
      have fz0 : (w6.alloc (.cells #[.int .i64 (f : Int), .int .i64 (t : Int)] 40)).frozen? ⟨w6.heap.size, 0, none⟩ = false := by simp [go_sem]
      have fz1 : (w6.alloc (.cells #[.int .i64 (f : Int), .int .i64 (t : Int)] 40)).frozen? ⟨w6.heap.size, 1, none⟩ = false := by simp [go_sem]
      have HO7 := hide (g_own HO6.out bV)
      have HOP7 := hide (g_own HOP6.out bV)
      have HB7 := hide (HB6.out.trans (bV.mono HB6.out.size))
      have hz7 := bV.size
      have HNB7 := hide fun (b : Nat) (e : v6.ownBlock = some b) => show b < w6.heap.size from (HOP6.out.lt b e).2
      have hg6' := (HO6.out.lt g rfl).2
      obtain ⟨W7, hW7⟩ : ∃ W, W = w6.alloc (.cells #[.int .i64 (f : Int), .int .i64 (t : Int)] 40) := ⟨_, rfl⟩
      rw [← hW7] at hbx fz0 fz1 HO7 HOP7 HB7 hz7
      have HW7 := hide hW7.symm
      obtain ⟨BN, hBN⟩ : ∃ B, B = w6.heap.size := ⟨_, rfl⟩
      rw [← hBN] at hbx fz0 fz1 HNB7 hg6'
      have HBN := hide hBN.symm
      have hBW : BN < W7.heap.size := hbx.2.2
      have HBX7 := hide hbx
      have HL7 := hide (ln_any (w := W7) (c := cap) (d := d) HC2.out HY.out (by omega) HTW.out (arow_owns HC2.out.symm HO7.out) (HBR.out.below HB7.out))
      clear own5 hg5 own6 hg6 bV hbx hW7 hBN HLD HTW
      go_upto_region 10 with (at_builtin; refine Lib.wpList_append_run _ rfl _ _ _ _ rfl _ _ rfl rfl _ _ (hr6 _) ?_)
      clear hr6
      go_upto_region 7 with fail
      rw [HW7.out, HBN.out]
      clear HW7 HBN
      go_wp2_with fail
      refine HL7.out.mono ?_
      rintro e w8 ⟨F', T', rfl, hs8, hb8⟩
      have HS8 := hide hs8
      have HPX8 := HBX7.out.below hb8
      have e0 := HPX8.1
      have e1 := HPX8.2.1
      have e2 := (hb8.frozen (p := ⟨BN, 0, none⟩) hBW).trans fz0
      have e3 := (hb8.frozen (p := ⟨BN, 1, none⟩) hBW).trans fz1
      have hset := set2_grown (w := w8) (B := BN) (x := .int .i64 F') (y := .int .i64 T') rfl
      have hcells := set2_cells (x := .int .i64 F') (y := .int .i64 T') e0 e1
      have HO9 := hide (kept_ne (g_own HO7.out hb8) hset (fun b e => by cases e; first | exact Nat.ne_of_lt hg6' | exact Nat.ne_of_gt hg6'))
      have HOP9 := hide (kept_ne (g_own HOP7.out hb8) hset (fun b e => by have := HNB7.out b e; omega))
      have HPX9 : Hid (PBox ((w8.setCell ⟨BN, 0, none⟩ (.int .i64 F')).setCell ⟨BN, 1, none⟩ (.int .i64 T')) BN (.int .i64 F') (.int .i64 T')) := hide ⟨hcells.1, hcells.2, Nat.lt_of_lt_of_le HPX8.2.2 hset.size⟩
      have HB8 := HB7.out.trans (hb8.mono HB7.out.size)
      have HB9 := hide (HB8.trans (grown_under10 hset (fun b e => by cases e; have := HB6.out.size; omega) HB8.size))
      have hz9 : W4.heap.size ≤ ((w8.setCell ⟨BN, 0, none⟩ (.int .i64 F')).setCell ⟨BN, 1, none⟩ (.int .i64 T')).heap.size := by have := hset.size; have := hb8.size; omega
      clear hs8 hb8 hset hcells HB8 HL7 HPX8
      go_wp2_with fail
      go_roundg (gk - 1)
      case measure => omega
      case rel => exact ⟨nxt, p ++ [((f : Int), (t : Int))], BN, F', T', rfl, hg6', HPN, HO9, by rw [List.length_append]; exact HOP9, HPX9, hide (fun b e => by have := HNB7.out b e; omega), HS8, HB9, hz9⟩
    · subst hF
      have hpe := HEN.out _ _ _ HP.out hs
      subst hpe
      have HFIN := hide (owns_low HOP.out hz4)
      clear hs HS
      go_wp2_with fail
      go_ret2
      exact ⟨_, rfl, HB.out, HFIN.out⟩
theorem spm_o {a b : Option Addr} {n m c d : Nat} {xs ws : List Int} {w : World} (hx : xs.length = n) (hy : ws.length = m) (hc : n ≤ c) (hd : m ≤ d) (ha : ARow w a xs) (hb : ARow w b ws) :
    Calls Try.prog 6 #[.slice a n c, .slice b m d] w fun e w' => ∃ v, e = .returned (.tuple #[v, .bool (Mx.sameB xs ws)]) ∧ Below w.heap.size w w' ∧ w'.ownsRow w.heap.size 40 2 v (Mx.pmL xs ws).length (mce (Mx.pmL xs ws)) := by
  cases hg : Mx.sameB xs ws
  · have e1 : Mx.pmL xs ws = [] := by unfold Mx.pmL; rw [hg]; rfl
    rw [e1]
    exact (spm_no (hide hx) (hide hy) hc hd (hide ha) (hide hb) (hide hg)).mono fun _ _ ⟨he, hw⟩ => ⟨_, he, hw, World.ownsRow_nil _ _ _ _⟩
  · have e1 : Mx.pmL xs ws = Mx.plan 20 xs ws := by unfold Mx.pmL; rw [hg]; rfl
    rw [e1]
    obtain ⟨e2, _⟩ := Mx.same_two hg hx
    obtain rfl : n = m := by omega
    exact spm_yes (hide hx) (hide hy) hc hd (hide ha) (hide hb) (hide hg)
theorem spm_w {a b : Option Addr} {n m c d : Nat} {xs ws : List Int} {w : World} (hx : xs.length = n) (hy : ws.length = m) (hc : n ≤ c) (hd : m ≤ d) (ha : ARow w a xs) (hb : ARow w b ws) :
    Calls Try.prog 6 #[.slice a n c, .slice b m d] w fun e w' => ∃ v, e = .returned (.tuple #[v, .bool (Mx.sameB xs ws)]) ∧ Below w.heap.size w w' ∧ MO w' w.heap.size w'.heap.size v (Mx.pmL xs ws).length (Mx.pmL xs ws) :=
  (spm_o hx hy hc hd ha hb).mono fun _ _ ⟨v, he, hw, ho⟩ => ⟨v, he, hw, mo_own rfl ho⟩
theorem plan_len : ∀ (f : Nat) (xs ws : List Int), (Mx.plan f xs ws).length ≤ f
  | 0, _, _ => Nat.le_refl _
  | f + 1, xs, ws => by
    unfold Mx.plan
    split
    · simp
    · rename_i m _
      simp only [List.length_cons]; have := plan_len f (Mx.mv xs m) ws; omega
theorem pmL_le (xs ws : List Int) : (Mx.pmL xs ws).length ≤ 20 := by
  unfold Mx.pmL; split
  · exact plan_len _ _ _
  · simp
end Go.Proofs.Ytbhgdkkclefpnaa
namespace Go.Proofs.Ytbhgdkkclefpnaa
open Go.RowKit

theorem AV.low {w : World} {lo lo' hi n : Nat} {v : Value} {xs : List Int} (h : AV w lo hi v n xs) (hl : lo' ≤ lo) : AV w lo' hi v n xs := ⟨owns_low h.1 hl, h.2⟩
theorem PBox.grown10 {w w' : World} {B : Nat} {v0 v1 : Value} {q : Option Nat} (h : PBox w B v0 v1) (hg : w.grownBy w' q) (hq : ∀ b, q = some b → B < b) : PBox w' B v0 v1 := by
  have hb : w'.heap[B]? = w.heap[B]? := hg.block B h.2.2 (fun e => by have := hq B e.symm; omega)
  exact ⟨(World.cell?_of_block (w := w) (a := ⟨B, 0, none⟩) hb).trans h.1, (World.cell?_of_block (w := w) (a := ⟨B, 1, none⟩) hb).trans h.2.1, Nat.lt_of_lt_of_le h.2.2 hg.size⟩
theorem frow_one (w : World) (F T : Int) (t : TypeId) : FRow (w.alloc (.cells #[.int .i64 F, .int .i64 T] t)) (some ⟨w.heap.size, 0, none⟩) [(F, T)] := by
  refine Or.inr ⟨w.heap.size, 0, rfl, by simp, fun i hi => ?_⟩
  have : i = 0 := by simp at hi; omega
  subst this
  simp
set_option maxRecDepth 100000 in
set_option maxHeartbeats 2000000 in
theorem do_w {a : Option Addr} {n c : Nat} {xs : List Int} {F T : Int} {w : World} (hx : xs.length = n) (hc : n ≤ c) (ha : ARow w a xs) :
    Calls Try.prog 18 #[.slice a n c, .agg #[.int .i64 F, .int .i64 T]] w fun e w' => ∃ v, e = .returned (.tuple #[v, .bool (Mx.dmB xs [(F, T)])]) ∧ Below w.heap.size w w' ∧ AV w' w.heap.size w'.heap.size v (Mx.dmL xs [(F, T)]).length (Mx.dmL xs [(F, T)]) := by
  have bW1 := below_new w (.cells #[.int .i64 F, .int .i64 T] 40)
  have bW2 := below_new (w.alloc (.cells #[.int .i64 F, .int .i64 T] 40)) (.cells #[.int .i64 F, .int .i64 T] 40)
  have hb := bW1.trans (bW2.mono bW1.size)
  have hA2 := ha.below hb
  have hFR := frow_one (w.alloc (.cells #[.int .i64 F, .int .i64 T] 40)) F T 40
  rw [World.size_alloc] at hFR
  have HC := hide (dm_w (m := 1) (d := 1) hx hc hA2 rfl hFR)
  have HB := hide hb
  generalize Mx.dmB xs [(F, T)] = G at *
  generalize Mx.dmL xs [(F, T)] = R at *
  clear bW1 bW2 hb hA2 hFR ha hx
  go_enter Try.func18, Try.ntmps18
  go_wp2_with fail
  refine HC.out.mono ?_
  rintro e w2 ⟨v, rfl, hb2, o2⟩
  have HB2 := hide (HB.out.trans (hb2.mono HB.out.size))
  have HO2 := hide (o2.low HB.out.size)
  clear hb2 o2 HC
  go_wp2_with fail
  go_ret2
  exact ⟨_, rfl, HB2.out, HO2.out⟩
set_option maxRecDepth 100000 in
set_option maxHeartbeats 2000000 in
theorem sdo_w {a : Option Addr} {n c : Nat} {xs : List Int} {F T : Int} {w : World} (hx : xs.length = n) (hc : n ≤ c) (ha : ARow w a xs) :
    Calls Try.prog 19 #[.slice a n c, .agg #[.int .i64 F, .int .i64 T]] w fun e w' => ∃ v, e = .returned (.tuple #[v, .bool (Mx.dmB xs [(F, T)])]) ∧ Below w.heap.size w w' ∧ AV w' w.heap.size w'.heap.size v (Mx.dmL xs [(F, T)]).length (Mx.dmL xs [(F, T)]) := by
  have bW1 := below_new w (.cells #[.int .i64 F, .int .i64 T] 40)
  have bW2 := below_new (w.alloc (.cells #[.int .i64 F, .int .i64 T] 40)) (.cells #[.int .i64 F, .int .i64 T] 40)
  have hb := bW1.trans (bW2.mono bW1.size)
  have hA2 := ha.below hb
  have hFR := frow_one (w.alloc (.cells #[.int .i64 F, .int .i64 T] 40)) F T 40
  rw [World.size_alloc] at hFR
  have HC := hide (sdm_w (m := 1) (d := 1) hx hc hA2 rfl hFR)
  have HB := hide hb
  generalize Mx.dmB xs [(F, T)] = G at *
  generalize Mx.dmL xs [(F, T)] = R at *
  clear bW1 bW2 hb hA2 hFR ha hx
  go_enter Try.func19, Try.ntmps19
  go_wp2_with fail
  refine HC.out.mono ?_
  rintro e w2 ⟨v, rfl, hb2, o2⟩
  have HB2 := hide (HB.out.trans (hb2.mono HB.out.size))
  have HO2 := hide (o2.low HB.out.size)
  clear hb2 o2 HC
  go_wp2_with fail
  go_ret2
  exact ⟨_, rfl, HB2.out, HO2.out⟩
end Go.Proofs.Ytbhgdkkclefpnaa
