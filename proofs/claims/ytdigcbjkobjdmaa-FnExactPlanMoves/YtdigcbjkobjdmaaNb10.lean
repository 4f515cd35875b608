/-
  What PlanMoves of the model answers.
-/
import Derived.Test.YtdigcbjkobjdmaaNa10
namespace Go.Proofs.Ytdigcbjkobjdmaa
open Go.RowKit

theorem nx_can {n f t : Nat} {cur ws : List Int} {m : Int × Int} (hc : cur.length = n) (h : Mx.Nx n cur ws m f t) : Mx.canB cur m = true := by
  obtain ⟨rfl, hf, ht, hcan, _⟩ := h
  rw [can_at hc hf ht]
  have h1 : 0 < cur.getD f 0 := hcan.af
  have h2 : cur.getD t 0 = 0 := hcan.at0
  rw [h2, show (cur.getD f 0 != 0) = true from bne_iff_ne.2 (by omega)]; rfl
theorem set2_grown {w w' : World} {B : Nat} {x y : Value} (h : w' = (w.setCell ⟨B, 0, none⟩ x).setCell ⟨B, 1, none⟩ y) : w.grownBy w' (some B) := by
  subst h; exact grownF_set (grownF_set (World.grownBy.refl _ _))
theorem set2_cells {w : World} {B : Nat} {x y u v : Value} (h0 : w.cell? ⟨B, 0, none⟩ = some u) (h1 : w.cell? ⟨B, 1, none⟩ = some v) : ((w.setCell ⟨B, 0, none⟩ x).setCell ⟨B, 1, none⟩ y).cell? ⟨B, 0, none⟩ = some x ∧ ((w.setCell ⟨B, 0, none⟩ x).setCell ⟨B, 1, none⟩ y).cell? ⟨B, 1, none⟩ = some y := by
  have ne : ∀ {W : World} {a b : Nat} {v : Value}, a ≠ b → (W.setCell ⟨B, a, none⟩ v).cell? ⟨B, b, none⟩ = W.cell? ⟨B, b, none⟩ := fun hne => World.cell?_setCell_other _ _ _ _ (fun e' => hne (by injection e'))
  refine ⟨(ne (by omega)).trans (setF1 (by rw [h0]; rfl)), setF1 ?_⟩
  rw [ne (by omega), h1]; rfl
theorem kept_ne {w w' : World} {base e s n B : Nat} {v : Value} {xs : List Value} (h : w.ownsRow base e s v n xs) (hg : w.grownBy w' (some B)) (hne : ∀ b, v.ownBlock = some b → b ≠ B) : w'.ownsRow base e s v n xs :=
  h.kept hg (Or.inr fun e => hne B e rfl)
set_option maxHeartbeats 400000 in
theorem spm_no {a b : Option Addr} {n m c d : Nat} {xs ws : List Int} {w : World} (HX : Hid (xs.length = n)) (HY : Hid (ws.length = m)) (hc : n ≤ c) (hd : m ≤ d) (HA : Hid (ARow w a xs)) (HB : Hid (ARow w b ws)) (HG : Hid (Mx.sameB xs ws = false)) :
    Calls Try.prog 24 #[.slice a n c, .slice b m d] w fun e w' => e = .returned (.tuple #[.slice none 0 0, .bool false]) ∧ Below w.heap.size w w' := by
  go_enter Try.func24, Try.ntmps24
  go_wp2_with fail
  refine (lb_eq HX HY hc hd HA HB HG).mono ?_
  rintro e w1 ⟨rfl, hw1⟩
  obtain rfl : w = w1 := hw1.symm
  go_wp2_with fail
  go_ret2
  exact ⟨rfl, Below.refl _ _⟩
set_option maxRecDepth 20000 in
set_option maxHeartbeats 4000000 in
theorem spm_yes {a b : Option Addr} {n c d : Nat} {xs ws : List Int} {w : World} (HX : Hid (xs.length = n)) (HY : Hid (ws.length = n)) (hc : n ≤ c) (hd : n ≤ d) (HA : Hid (ARow w a xs)) (HBR : Hid (ARow w b ws)) (HG : Hid (Mx.sameB xs ws = true)) :
    Calls Try.prog 24 #[.slice a n c, .slice b n d] w fun e w' => ∃ v, e = .returned (.tuple #[v, .bool true]) ∧ Below w.heap.size w w' ∧ MO w' w.heap.size w'.heap.size v (Mx.plan 20 xs ws).length (Mx.plan 20 xs ws) := by
  have hn := Mx.good_len (Mx.same_good HG.out).1
  rw [HX.out] at hn
  obtain ⟨n2, n9⟩ := hn
  obtain ⟨g0, hp0⟩ := Mx.pi_start HG.out HX.out
  have HP0 := hide hp0
  have HST := hide fun (gk : Nat) (cur : List Int) (p : List (Int × Int)) (m : Int × Int) (h : Mx.PI n gk xs ws cur p) (hm : Mx.nextM cur ws = some m) => Mx.pi_step h HY.out hm
  have HEN := hide fun (gk : Nat) (cur : List Int) (p : List (Int × Int)) (h : Mx.PI n gk xs ws cur p) (hm : Mx.nextM cur ws = none) => Mx.pi_end h hm
  have HLN := hide fun (gk : Nat) (cur : List Int) (p : List (Int × Int)) (h : Mx.PI n gk xs ws cur p) => show cur.length = n ∧ p.length ≤ 16 ∧ Mv.Two n (Mx.fn cur) (Mx.fn ws) from ⟨h.1, by have := h.2.2.2.1; omega, h.2.1⟩
  have HL0 := hide (HLN.out _ _ _ hp0)
  generalize Mx.plan 20 xs ws = PL at *
  obtain ⟨v, w2, hr2, own2, hb2⟩ := cl_run (c := c) HX.out (by omega) HA.out
  obtain ⟨g, cap, rfl, hg0, hg1⟩ := own_some10 own2 (by omega)
  have HO2 := hide own2
  have HB2 := hide hb2
  have HLX := hide (ln_any (w := w2) (c := cap) (d := d) HX.out HY.out (by omega) HL0.out.2.2 (arow_owns HX.out.symm own2) (HBR.out.below hb2))
  clear hp0 own2 hb2 HL0
  go_enter Try.func24, Try.ntmps24
  go_wp2_with fail
  refine (lb_eq HX HY hc hd HA HBR HG).mono ?_
  rintro e w1 ⟨rfl, hw1⟩
  obtain rfl : w = w1 := hw1.symm
  go_wp2_with (first | (at_builtin; refine Lib.wpList_append_run _ rfl _ _ _ _ rfl _ _ rfl rfl _ _ (hr2 _) ?_))
  clear hr2
  refine HLX.out.mono ?_
  rintro e w3 ⟨F0, T0, rfl, hs0, hb3⟩
  have HS0 := hide hs0
  have bV := below_new w3 (.cells #[.int .i64 F0, .int .i64 T0] 30)
  have hbx := PBox.new w3 (.int .i64 F0) (.int .i64 T0) 30
  have hb4 := hb3.trans (bV.mono hb3.size)
  have HO4 := hide (g_own HO2.out hb4)
  have HB4 := hide (HB2.out.trans (hb4.mono HB2.out.size))
  obtain ⟨W4, hW4⟩ : ∃ W, W = w3.alloc (.cells #[.int .i64 F0, .int .i64 T0] 30) := ⟨_, rfl⟩
  rw [← hW4] at hbx HO4 HB4
  have HW4 := hide hW4.symm
  obtain ⟨B0, hB0⟩ : ∃ B, B = w3.heap.size := ⟨_, rfl⟩
  rw [← hB0] at hbx
  have HB0 := hide hB0.symm
  have hgB : g < B0 := by have := hb3.size; omega
  have HPB := hide hbx
  have hg4 := (HO4.out.lt g rfl).2
  have hz4 := HB4.out.size
  clear hs0 bV hbx hb4 hb3 hW4 hB0 HLX
  go_wp2_with fail
  rw [HW4.out, HB0.out]
  clear HW4 HB0
  go_loopg [7, 8] g0 (fun gk v s8 wr => ∃ (cur : List Int) (p : List (Int × Int)) (BM : Nat) (F T : Int), s8 = .pointer (some ⟨BM, 0, none⟩) ∧ g < BM ∧ Hid (Mx.PI n gk xs ws cur p) ∧ Hid (wr.ownsRow w.heap.size 3 1 (.slice (some ⟨g, 0, none⟩) n cap) n (ints cur)) ∧ Hid (wr.ownsRow W4.heap.size 30 2 v p.length (mce p)) ∧ Hid (PBox wr BM (.int .i64 F) (.int .i64 T)) ∧ Hid (∀ b, v.ownBlock = some b → b ≠ BM) ∧ Hid ((Mx.nextM cur ws = some (F, T) ∧ 0 ≤ F) ∨ (Mx.nextM cur ws = none ∧ F = -1)) ∧ Hid (Below w.heap.size w wr) ∧ W4.heap.size ≤ wr.heap.size)
  case atStart => exact ⟨xs, [], B0, F0, T0, rfl, hgB, HP0, HO4, hide (World.ownsRow_nil _ _ _ _), HPB, hide (fun b e => by simp [Value.ownBlock] at e), HS0, HB4, Nat.le_refl _⟩
  case round =>
    obtain ⟨cur, p, BM, F, T, rfl, hgBM, HP, HO, HOP, HPX, HNB, HS, HB, hzr⟩ := hrel
    obtain ⟨hcl, hpl, _⟩ := HLN.out _ _ _ HP.out
    have x0 := HPX.out.1
    have x1 := HPX.out.2.1
    have x2 := HPX.out.2.2
    obtain ⟨av, cv, hu⟩ := own_formM HOP.out
    subst hu
    rcases HS.out with ⟨hs, hF⟩ | ⟨hs, hF⟩
    · obtain ⟨f, t, hnx, hgk, hpi⟩ := HST.out _ _ _ _ HP.out hs
      have hcan := nx_can hcl hnx
      have hme := hnx.e
      simp only [Prod.mk.injEq] at hme
      obtain ⟨rfl, rfl⟩ := hme
      have haf : aft cur ((f : Int), (t : Int)) = Mx.mv cur ((f : Int), (t : Int)) := by unfold aft; rw [hcan]; rfl
      have HLD := hide (ld_any (F := (f : Int)) (T := (t : Int)) hcl HO.out)
      rw [haf] at HLD
      have HPN := hide hpi
      obtain ⟨hcl2, hpl2, htwo⟩ := HLN.out _ _ _ hpi
      have HTW := hide htwo
      have HC2 := hide hcl2
      have f0 : (0 : Int) ≤ (f : Int) := by omega
      generalize Mx.mv cur ((f : Int), (t : Int)) = nxt at *
      clear hnx hpi hcan haf htwo hcl2 hs HS
      go_wp2_with fail
      refine HLD.out.mono ?_
      rintro e w5 ⟨rfl, own5, hg5⟩
      have HO5 := hide own5
      have hgW : g < W4.heap.size := hg4
      have HOP5 := hide (kept_hi HOP.out (Nat.le_refl _) hg5 hgW)
      have HPX5 := hide (pbox_hi HPX.out hg5 (fun b e => by cases e; omega))
      have HB5 := hide (HB.out.trans (grown_under10 hg5 (fun b e => by cases e; exact hg0) HB.out.size))
      have hz5 := hg5.size
      have y0 := HPX5.out.1
      have y1 := HPX5.out.2.1
      obtain ⟨v6, w6, hr6, own6, hg6⟩ := push_mv (x := (f : Int)) (y := (t : Int)) HOP5.out (by omega) (by omega)
      rw [← mce_snoc p ((f : Int), (t : Int))] at own6
      have HOP6 := hide own6
      have HO6 := hide (kept_lo HO5.out HOP5.out (Nat.le_refl _) hg6 hgW)
      have HPX6 := hide (pbox_hi HPX5.out hg6 (fun b e => HNB.out b e))
      have HB6 := hide (HB5.out.trans (grown_under10 hg6 (fun b e => by have := (HOP5.out.lt b e).1; omega) HB5.out.size))
      have hz6 := hg6.size
      have u0 := HPX6.out.1
      have u1 := HPX6.out.2.1
      have bV := below_new w6 (.cells #[.int .i64 (f : Int), .int .i64 (t : Int)] 30)
      have hbx := PBox.new w6 (.int .i64 (f : Int)) (.int .i64 (t : Int)) 30
      have fz0 : (w6.alloc (.cells #[.int .i64 (f : Int), .int .i64 (t : Int)] 30)).frozen? ⟨w6.heap.size, 0, none⟩ = false := by simp [go_sem]
      have fz1 : (w6.alloc (.cells #[.int .i64 (f : Int), .int .i64 (t : Int)] 30)).frozen? ⟨w6.heap.size, 1, none⟩ = false := by simp [go_sem]
      have HO7 := hide (g_own HO6.out bV)
      have HOP7 := hide (g_own HOP6.out bV)
      have HB7 := hide (HB6.out.trans (bV.mono HB6.out.size))
      have hz7 := bV.size
      have HNB7 := hide fun (b : Nat) (e : v6.ownBlock = some b) => show b < w6.heap.size from (HOP6.out.lt b e).2
      have hg6' := (HO6.out.lt g rfl).2
      obtain ⟨W7, hW7⟩ : ∃ W, W = w6.alloc (.cells #[.int .i64 (f : Int), .int .i64 (t : Int)] 30) := ⟨_, rfl⟩
      rw [← hW7] at hbx fz0 fz1 HO7 HOP7 HB7 hz7
      have HW7 := hide hW7.symm
      obtain ⟨BN, hBN⟩ : ∃ B, B = w6.heap.size := ⟨_, rfl⟩
      rw [← hBN] at hbx fz0 fz1 HNB7 hg6'
      have HBN := hide hBN.symm
      have hBW : BN < W7.heap.size := hbx.2.2
      have HBX7 := hide hbx
      have HL7 := hide (ln_any (w := W7) (c := cap) (d := d) HC2.out HY.out (by omega) HTW.out (arow_owns HC2.out.symm HO7.out) (HBR.out.below HB7.out))
      clear own5 hg5 own6 hg6 bV hbx hW7 hBN HLD HTW
      go_upto_region 10 with (at_builtin; refine Lib.wpList_append_run _ rfl _ _ _ _ rfl _ _ rfl rfl _ _ (hr6 _) ?_)
      clear hr6
      go_upto_region 7 with fail
      rw [HW7.out, HBN.out]
      clear HW7 HBN
      go_wp2_with fail
      refine HL7.out.mono ?_
      rintro e w8 ⟨F', T', rfl, hs8, hb8⟩
      have HS8 := hide hs8
      have HPX8 := HBX7.out.below hb8
      have e0 := HPX8.1
      have e1 := HPX8.2.1
      have e2 := (hb8.frozen (p := ⟨BN, 0, none⟩) hBW).trans fz0
      have e3 := (hb8.frozen (p := ⟨BN, 1, none⟩) hBW).trans fz1
      have hset := set2_grown (w := w8) (B := BN) (x := .int .i64 F') (y := .int .i64 T') rfl
      have hcells := set2_cells (x := .int .i64 F') (y := .int .i64 T') e0 e1
      have HO9 := hide (kept_ne (g_own HO7.out hb8) hset (fun b e => by cases e; first | exact Nat.ne_of_lt hg6' | exact Nat.ne_of_gt hg6'))
      have HOP9 := hide (kept_ne (g_own HOP7.out hb8) hset (fun b e => by have := HNB7.out b e; omega))
      have HPX9 : Hid (PBox ((w8.setCell ⟨BN, 0, none⟩ (.int .i64 F')).setCell ⟨BN, 1, none⟩ (.int .i64 T')) BN (.int .i64 F') (.int .i64 T')) := hide ⟨hcells.1, hcells.2, Nat.lt_of_lt_of_le HPX8.2.2 hset.size⟩
      have HB8 := HB7.out.trans (hb8.mono HB7.out.size)
      have HB9 := hide (HB8.trans (grown_under10 hset (fun b e => by cases e; have := HB6.out.size; omega) HB8.size))
      have hz9 : W4.heap.size ≤ ((w8.setCell ⟨BN, 0, none⟩ (.int .i64 F')).setCell ⟨BN, 1, none⟩ (.int .i64 T')).heap.size := by have := hset.size; have := hb8.size; omega
      clear hs8 hb8 hset hcells HB8 HL7 HPX8
      go_wp2_with fail
      go_roundg (gk - 1)
      case measure => omega
      case rel => exact ⟨nxt, p ++ [((f : Int), (t : Int))], BN, F', T', rfl, hg6', HPN, HO9, by rw [List.length_append]; exact HOP9, HPX9, hide (fun b e => by have := HNB7.out b e; omega), HS8, HB9, hz9⟩
    · subst hF
      have hpe := HEN.out _ _ _ HP.out hs
      subst hpe
      have HFIN := hide ((mo_own rfl HOP.out).low hz4)
      clear hs HS
      go_wp2_with fail
      go_ret2
      exact ⟨_, rfl, HB.out, HFIN.out⟩
theorem spm_w {a b : Option Addr} {n m c d : Nat} {xs ws : List Int} {w : World} (hx : xs.length = n) (hy : ws.length = m) (hc : n ≤ c) (hd : m ≤ d) (ha : ARow w a xs) (hb : ARow w b ws) :
    Calls Try.prog 24 #[.slice a n c, .slice b m d] w fun e w' => ∃ v, e = .returned (.tuple #[v, .bool (Mx.sameB xs ws)]) ∧ Below w.heap.size w w' ∧ MO w' w.heap.size w'.heap.size v (Mx.pmL xs ws).length (Mx.pmL xs ws) := by
  cases hg : Mx.sameB xs ws
  · have e1 : Mx.pmL xs ws = [] := by unfold Mx.pmL; rw [hg]; rfl
    rw [e1]
    exact (spm_no (hide hx) (hide hy) hc hd (hide ha) (hide hb) (hide hg)).mono fun e w' ⟨he, hw⟩ => ⟨_, he, hw, mo_nil w' _⟩
  · have e1 : Mx.pmL xs ws = Mx.plan 20 xs ws := by unfold Mx.pmL; rw [hg]; rfl
    rw [e1]
    obtain ⟨e2, _⟩ := Mx.same_two hg hx
    obtain rfl : n = m := by omega
    exact spm_yes (hide hx) (hide hy) hc hd (hide ha) (hide hb) (hide hg)
theorem plan_len : ∀ (f : Nat) (xs ws : List Int), (Mx.plan f xs ws).length ≤ f
  | 0, _, _ => Nat.le_refl _
  | f + 1, xs, ws => by
    unfold Mx.plan
    split
    · simp
    · rename_i m _
      simp only [List.length_cons]; have := plan_len f (Mx.mv xs m) ws; omega
theorem pmL_le (xs ws : List Int) : (Mx.pmL xs ws).length ≤ 20 := by
  unfold Mx.pmL; split
  · exact plan_len _ _ _
  · simp
end Go.Proofs.Ytdigcbjkobjdmaa
