/-
  RingsOf of the program.
-/
import Derived.Test.YtdigcbjkobjdmaaNd10
namespace Go.Proofs.Ytdigcbjkobjdmaa
open Go.RowKit

/-- How many are elsewhere, and how many rings. -/
def AR (k n : Nat) (xs ws : List Int) (A R : Nat) : Prop := Mv.Is k (Mv.Away (Mx.fn xs) (Mx.fn ws)) A ∧ Mv.Is k (Mv.Lead (Mv.nxt n (Mx.fn xs) (Mx.fn ws))) R
theorem away_b {xs ws : List Int} {n k : Nat} (h2 : Mv.Two n (Mx.fn xs) (Mx.fn ws)) (hk : k < n) : ((xs.getD k 0 != 0) && (xs.getD k 0 != ws.getD k 0)) = true ↔ Mv.Away (Mx.fn xs) (Mx.fn ws) k := by
  have h := h2.sa.ge k hk
  have h' : 0 ≤ xs.getD k 0 := h
  simp only [Bool.and_eq_true, bne_iff_ne, ne_eq]
  exact ⟨fun ⟨h1, h3⟩ => ⟨show 0 < xs.getD k 0 by omega, fun e => h3 e.symm⟩, fun ⟨h1, h3⟩ => ⟨fun e => by have h1' : 0 < xs.getD k 0 := h1; omega, fun e => h3 e.symm⟩⟩
set_option maxHeartbeats 400000 in
theorem ro_no {a b : Option Addr} {n m c d : Nat} {xs ws : List Int} {w : World} (HX : Hid (xs.length = n)) (HY : Hid (ws.length = m)) (hc : n ≤ c) (hd : m ≤ d) (HA : Hid (ARow w a xs)) (HB : Hid (ARow w b ws)) (HG : Hid (Mx.sameB xs ws = false)) :
    Calls Try.prog 30 #[.slice a n c, .slice b m d] w fun e w' => e = .returned (.tuple #[.int .i64 0, .int .i64 0, .bool false]) ∧ Below w.heap.size w w' := by
  go_enter Try.func30, Try.ntmps30
  go_wp2_with fail
  refine (asg_eq HX HY hc hd HA HB HG).mono ?_
  rintro e w1 ⟨rfl, hb1⟩
  have HB1 := hide hb1
  clear hb1
  go_wp2_with fail
  exact bodyPost_ret (v := .tuple #[.int .i64 0, .int .i64 0, .bool false]) (by simp [results, Try.results30, go_sem, *]) rfl ⟨rfl, HB1.out⟩
set_option maxHeartbeats 4000000 in
theorem ro_yes {a b : Option Addr} {n c d : Nat} {xs ws : List Int} {w : World} (HX : Hid (xs.length = n)) (HY : Hid (ws.length = n)) (hn : n ≤ 9) (hc : n ≤ c) (hd : n ≤ d) (HA : Hid (ARow w a xs)) (HB : Hid (ARow w b ws)) (HG : Hid (Mx.sameB xs ws = true)) (HT : Hid (Mv.Two n (Mx.fn xs) (Mx.fn ws))) :
    Calls Try.prog 30 #[.slice a n c, .slice b n d] w fun e w' => ∃ A R : Nat, e = .returned (.tuple #[.int .i64 A, .int .i64 R, .bool true]) ∧ AR n n xs ws A R ∧ Below w.heap.size w w' := by
  go_enter Try.func30, Try.ntmps30
  go_wp2_with fail
  refine (asg_eq HX HY hc hd HA HB HG).mono ?_
  rintro e w1 ⟨rfl, hb1⟩
  have HB1 := hide hb1
  clear hb1
  go_wp2_with fail
  go_loopw [8, 9, 10, 20] (fun s8 s9 _ s wr => ∃ (k e r : Nat), s8 = .int .i64 e ∧ s9 = .int .i64 r ∧ s = .int .i64 k ∧ k ≤ n ∧ Hid (AR k n xs ws e r) ∧ Hid (PBox wr w1.heap.size (.slice a n c) (.slice b n d)) ∧ Hid (Below w.heap.size w wr)) (fun _ _ _ s _ => n - (intOf s).toNat)
  case atStart => exact ⟨0, 0, 0, rfl, rfl, rfl, Nat.zero_le _, hide ⟨Mv.Is.zero _, Mv.Is.zero _⟩, hide (PBox.new _ _ _ _), hide (HB1.out.trans ((below_new _ _).mono HB1.out.size))⟩
  case round =>
    obtain ⟨k, e, r, rfl, rfl, rfl, hk, HR, HPX, HBr⟩ := hrel
    have he := HR.out.1.le
    have hr := HR.out.2.le
    by_cases hlt : k < n
    · have x0 := HPX.out.1
      have x1 := HPX.out.2.1
      have HIE := hide (ie_any (w := wr) (c := c) (d := d) HX.out HY.out hlt (HA.out.below HBr.out) (HB.out.below HBr.out))
      have HAW := hide (away_b HT.out hlt)
      generalize ((xs.getD k 0 != 0) && (xs.getD k 0 != ws.getD k 0)) = bb at *
      go_wp2_with fail
      refine HIE.out.mono ?_
      rintro z w3 ⟨rfl, hb3⟩
      have HP3 := hide (HPX.out.below hb3)
      have HB3 := hide (HBr.out.trans (hb3.mono HBr.out.size))
      have HAR := hide (HA.out.below HB3.out)
      have HBR := hide (HB.out.below HB3.out)
      clear hb3 HIE x0 x1
      cases bb
      · have hna : ¬ Mv.Away (Mx.fn xs) (Mx.fn ws) k := fun h => Bool.noConfusion (HAW.out.2 h)
        have HR2 : Hid (AR (k + 1) n xs ws e r) := hide ⟨HR.out.1.no hna, HR.out.2.no fun h => hna (Mv.lead_away h)⟩
        clear hna
        go_wp2_with fail
        go_roundw
        case rel => exact ⟨k + 1, e, r, rfl, rfl, by go_num, by omega, HR2, HP3, HB3⟩
        case measure => simp only [intOf]; omega
      · have haw := HAW.out.1 rfl
        have HAY := hide haw
        have y0 := HP3.out.1
        have y1 := HP3.out.2.1
        have HBE := hide (br_any (w := w3) (c := c) (d := d) HX.out HY.out hlt (by omega) HT.out haw HAR.out HBR.out)
        clear haw
        go_wp2_with fail
        refine HBE.out.mono ?_
        rintro z w4 ⟨q, rfl, hq, hb4⟩
        have HP4 := hide (HP3.out.below hb4)
        have HB4 := hide (HB3.out.trans (hb4.mono HB3.out.size))
        have HQ := hide hq
        clear hb4 hq HBE y0 y1
        cases q
        · have HR2 : Hid (AR (k + 1) n xs ws (e + 1) r) := hide ⟨HR.out.1.yes HAY.out, HR.out.2.no fun h => Bool.noConfusion (HQ.out.2 h)⟩
          go_wp2_with fail
          go_roundw
          case rel => exact ⟨k + 1, e + 1, r, by go_num, rfl, by go_num, by omega, HR2, HP4, HB4⟩
          case measure => simp only [intOf]; omega
        · have HR2 : Hid (AR (k + 1) n xs ws (e + 1) (r + 1)) := hide ⟨HR.out.1.yes HAY.out, HR.out.2.yes (HQ.out.1 rfl)⟩
          go_wp2_with fail
          go_roundw
          case rel => exact ⟨k + 1, e + 1, r + 1, by go_num, by go_num, by go_num, by omega, HR2, HP4, HB4⟩
          case measure => simp only [intOf]; omega
    · have hke : k = n := by omega
      subst hke
      go_wp2_with fail
      exact bodyPost_ret (v := .tuple #[.int .i64 e, .int .i64 r, .bool true]) (by simp [results, Try.results30, go_sem, *]) rfl ⟨e, r, rfl, HR.out, HBr.out⟩
end Go.Proofs.Ytdigcbjkobjdmaa
