/-
  PlanMoves of the program.
-/
import Derived.Test.YtdigcbjkobjdmaaMn10
import Derived.Test.YtdigcbjkobjdmaaMf10
import Derived.Test.YtdigcbjkobjdmaaBm10
import Derived.Deep.LoopGhost
namespace Go.Proofs.Ytdigcbjkobjdmaa.Mx

open Classical in
/-- What holds while moves are planned: gk of them are still to come. -/
def PI (n gk : Nat) (xs ws cur : List Int) (p : List (Int × Int)) : Prop :=
  cur.length = n ∧ Mv.Two n (fn cur) (fn ws) ∧ Mv.need n (fn cur) (fn ws) = gk ∧ p.length + gk ≤ 16 ∧ plan 20 xs ws = p ++ plan (20 - p.length) cur ws
open Classical in
theorem pi_start {n : Nat} {xs ws : List Int} (h : sameB xs ws = true) (hx : xs.length = n) : ∃ gk, PI n gk xs ws xs [] := by
  obtain ⟨_, h2⟩ := same_two h hx
  have hn := good_len (same_good h).1
  have := Mv.need_bd h2
  exact ⟨Mv.need n (fn xs) (fn ws), hx, h2, rfl, by simp; omega, rfl⟩
theorem pi_step {n gk : Nat} {xs ws cur : List Int} {p : List (Int × Int)} {m : Int × Int} (h : PI n gk xs ws cur p) (hw : ws.length = n) (hm : nextM cur ws = some m) : ∃ f t, Nx n cur ws m f t ∧ 0 < gk ∧ PI n (gk - 1) xs ws (mv cur m) (p ++ [m]) := by
  obtain ⟨h1, h2, h3, h4, h5⟩ := h
  obtain ⟨⟨f, t, hn⟩, hd⟩ := next_yes h1 hw h2 hm
  refine ⟨f, t, hn, by omega, by rw [mv_len, h1], hn.two, by omega, by simp; omega, ?_⟩
  have e : 20 - p.length = (20 - (p ++ [m]).length) + 1 := by simp; omega
  rw [h5, e]
  simp only [plan, hm, List.append_assoc, List.cons_append, List.nil_append]
theorem pi_end {n gk : Nat} {xs ws cur : List Int} {p : List (Int × Int)} (h : PI n gk xs ws cur p) (hm : nextM cur ws = none) : plan 20 xs ws = p := by
  obtain ⟨_, _, _, h4, h5⟩ := h
  have e : 20 - p.length = (20 - p.length - 1) + 1 := by omega
  rw [h5, e]
  simp [plan, hm]
end Go.Proofs.Ytdigcbjkobjdmaa.Mx
namespace Go.Proofs.Ytdigcbjkobjdmaa
open Go.RowKit
theorem MO.low {w : World} {lo lo' hi n : Nat} {v : Value} {L : List (Int × Int)} (h : MO w lo hi v n L) (hl : lo' ≤ lo) : MO w lo' hi v n L := by
  obtain ⟨h1, h2, h3⟩ := h
  refine ⟨h1, h2, ?_⟩
  rcases h3 with h3 | ⟨g, cap, e, a1, a2, a3⟩
  · exact Or.inl h3
  · exact Or.inr ⟨g, cap, e, by omega, a2, a3⟩
/-- Rows of which one lies below k, the other from k on. -/
theorem kept_hi {w w' : World} {base e s n k g : Nat} {v : Value} {xs : List Value} (h : w.ownsRow base e s v n xs) (hk : k ≤ base) (hg : w.grownBy w' (some g)) (hgk : g < k) : w'.ownsRow base e s v n xs :=
  h.kept hg (Or.inr fun e => by have := (h.lt g e).1; omega)
theorem kept_lo {w w' : World} {base base' e s n e' s' n' k g cap : Nat} {v : Value} {xs ys : List Value} (h : w.ownsRow base e s (.slice (some ⟨g, 0, none⟩) n cap) n xs) (h' : w.ownsRow base' e' s' v n' ys) (hk : k ≤ base') (hg : w.grownBy w' v.ownBlock) (hgk : g < k) : w'.ownsRow base e s (.slice (some ⟨g, 0, none⟩) n cap) n xs :=
  h.kept hg (Or.inr fun e => by have := (h'.lt g e.symm).1; omega)
theorem pbox_hi {w w' : World} {B : Nat} {v0 v1 : Value} {q : Option Nat} (h : PBox w B v0 v1) (hg : w.grownBy w' q) (hq : ∀ b, q = some b → b ≠ B) : PBox w' B v0 v1 := by
  have hb : w'.heap[B]? = w.heap[B]? := hg.block B h.2.2 (fun e => hq B e.symm rfl)
  exact ⟨(World.cell?_of_block (w := w) (a := ⟨B, 0, none⟩) hb).trans h.1, (World.cell?_of_block (w := w) (a := ⟨B, 1, none⟩) hb).trans h.2.1, Nat.lt_of_lt_of_le h.2.2 hg.size⟩
set_option maxHeartbeats 400000 in
theorem pm_no {a b : Option Addr} {n m c d : Nat} {xs ws : List Int} {w : World} (HX : Hid (xs.length = n)) (HY : Hid (ws.length = m)) (hc : n ≤ c) (hd : m ≤ d) (HA : Hid (ARow w a xs)) (HB : Hid (ARow w b ws)) (HG : Hid (Mx.sameB xs ws = false)) :
    Calls Try.prog 25 #[.slice a n c, .slice b m d] w fun e w' => e = .returned (.tuple #[.slice none 0 0, .bool false]) ∧ Below w.heap.size w w' := by
  go_enter Try.func25, Try.ntmps25
  go_wp2_with fail
  refine (asg_eq HX HY hc hd HA HB HG).mono ?_
  rintro e w1 ⟨rfl, hb1⟩
  have HB1 := hide hb1
  clear hb1
  go_wp2_with fail
  go_ret2
  exact ⟨rfl, HB1.out⟩
set_option maxRecDepth 20000 in
set_option maxHeartbeats 4000000 in
theorem pm_yes {a b : Option Addr} {n c d : Nat} {xs ws : List Int} {w : World} (HX : Hid (xs.length = n)) (HY : Hid (ws.length = n)) (hc : n ≤ c) (hd : n ≤ d) (HA : Hid (ARow w a xs)) (HBR : Hid (ARow w b ws)) (HG : Hid (Mx.sameB xs ws = true)) :
    Calls Try.prog 25 #[.slice a n c, .slice b n d] w fun e w' => ∃ v, e = .returned (.tuple #[v, .bool true]) ∧ Below w.heap.size w w' ∧ MO w' w.heap.size w'.heap.size v (Mx.plan 20 xs ws).length (Mx.plan 20 xs ws) := by
  have hn := Mx.good_len (Mx.same_good HG.out).1
  rw [HX.out] at hn
  obtain ⟨n2, n9⟩ := hn
  obtain ⟨g0, hp0⟩ := Mx.pi_start HG.out HX.out
  have HP0 := hide hp0
  have HST := hide fun (gk : Nat) (cur : List Int) (p : List (Int × Int)) (m : Int × Int) (h : Mx.PI n gk xs ws cur p) (hm : Mx.nextM cur ws = some m) => Mx.pi_step h HY.out hm
  have HEN := hide fun (gk : Nat) (cur : List Int) (p : List (Int × Int)) (h : Mx.PI n gk xs ws cur p) (hm : Mx.nextM cur ws = none) => Mx.pi_end h hm
  have HLN := hide fun (gk : Nat) (cur : List Int) (p : List (Int × Int)) (h : Mx.PI n gk xs ws cur p) => show cur.length = n ∧ p.length ≤ 16 from ⟨h.1, by have := h.2.2.2.1; omega⟩
  generalize Mx.plan 20 xs ws = PL at *
  clear hp0
  go_enter Try.func25, Try.ntmps25
  go_wp2_with fail
  refine (asg_eq HX HY hc hd HA HBR HG).mono ?_
  rintro e w1 ⟨rfl, hb1⟩
  have HB1 := hide hb1
  obtain ⟨b0, o0, rfl, hb0, hcell⟩ := (HA.out.below hb1).resolve_left (fun e => by have := HX.out; rw [e] at this; simp at this; omega)
  have HCL := hide (clone_any (c := c) HX.out (by omega) hcell)
  clear hb1 hcell
  go_wp2_with fail
  refine HCL.out.mono ?_
  rintro e w2 ⟨v, rfl, hb2, own2⟩
  obtain ⟨g, cap, rfl, hg0, hg1⟩ := own_some10 own2 (by omega)
  have HB2 := hide (HB1.out.trans (hb2.mono HB1.out.size))
  have hgw : w.heap.size ≤ g := by have := HB1.out.size; omega
  have bV := below_new w2 (.cells #[.slice (some ⟨g, 0, none⟩) n cap, .slice b n d] 56)
  have hbx := PBox.new w2 (.slice (some ⟨g, 0, none⟩) n cap) (.slice b n d) 56
  have HO3 := hide (g_own (owns_low own2 HB1.out.size) bV)
  have HB3 := hide (HB2.out.trans (bV.mono HB2.out.size))
  obtain ⟨W3, hW3⟩ : ∃ W, W = w2.alloc (.cells #[.slice (some ⟨g, 0, none⟩) n cap, .slice b n d] 56) := ⟨_, rfl⟩
  rw [← hW3] at hbx HO3 HB3
  have HW3 := hide hW3.symm
  obtain ⟨BC, hBC⟩ : ∃ B, B = w2.heap.size := ⟨_, rfl⟩
  rw [← hBC] at hbx
  have HBC := hide hBC.symm
  have hgC : g ≠ BC := by omega
  have hgBC : g < BC := by omega
  have hwC : w.heap.size ≤ BC := by have := HB2.out.size; omega
  have HPB := hide hbx
  have hz3 := HB3.out.size
  clear own2 hb2 bV hbx hW3 hBC HCL
  go_upto_region 4 with fail
  rw [HW3.out, HBC.out]
  clear HW3 HBC
  go_wp2_with fail
  go_loopg [4, 5, 7, 8, 9] g0 (fun gk s4 s5 v _ _ wr => ∃ (cur : List Int) (p : List (Int × Int)), s4 = .slice none 0 0 ∧ s5 = .bool false ∧ Hid (Mx.PI n gk xs ws cur p) ∧ Hid (wr.ownsRow w.heap.size 3 1 (.slice (some ⟨g, 0, none⟩) n cap) n (ints cur)) ∧ Hid (wr.ownsRow W3.heap.size 30 2 v p.length (mce p)) ∧ Hid (PBox wr BC (.slice (some ⟨g, 0, none⟩) n cap) (.slice b n d)) ∧ Hid (Below w.heap.size w wr) ∧ W3.heap.size ≤ wr.heap.size)
  case atStart => exact ⟨xs, [], rfl, rfl, HP0, HO3, hide (World.ownsRow_nil _ _ _ _), HPB, HB3, Nat.le_refl _⟩
  case round =>
    obtain ⟨cur, p, rfl, rfl, HP, HO, HOP, HPX, HB, hzr⟩ := hrel
    obtain ⟨hcl, hpl⟩ := HLN.out _ _ _ HP.out
    have x0 := HPX.out.1
    have x1 := HPX.out.2.1
    have x2 := HPX.out.2.2
    have HNM := hide (nm_any (w := wr) (c := cap) (d := d) hcl HY.out (by omega) (arow_owns hcl.symm HO.out) (HBR.out.below HB.out))
    obtain ⟨av, cv, hu⟩ := own_formM HOP.out
    subst hu
    have HSTx := hide (HST.out gk cur p)
    have HENx := hide fun (hm : Mx.nextM cur ws = none) => HEN.out gk cur p HP.out hm
    generalize Mx.nextM cur ws = NX at *
    go_wp2_with fail
    refine HNM.out.mono ?_
    rintro e w4 ⟨F, T, s, rfl, hs, hb4⟩
    have HSS := hide hs
    have bW := below_new w4 (.cells #[.int .i64 F, .int .i64 T] 30)
    have hb5 := hb4.trans (bW.mono hb4.size)
    have v0 : (w4.alloc (.cells #[.int .i64 F, .int .i64 T] 30)).cell? ⟨w4.heap.size, 0, none⟩ = some (.int .i64 F) := by simp
    have v1 : (w4.alloc (.cells #[.int .i64 F, .int .i64 T] 30)).cell? ⟨w4.heap.size, 1, none⟩ = some (.int .i64 T) := by simp
    have hz5 : (w4.alloc (.cells #[.int .i64 F, .int .i64 T] 30)).heap.size = w4.heap.size + 1 := World.size_alloc _ _
    obtain ⟨W5, hW5⟩ : ∃ W, W = w4.alloc (.cells #[.int .i64 F, .int .i64 T] 30) := ⟨_, rfl⟩
    rw [← hW5] at hb5 v0 v1 hz5
    have HW5 := hide hW5.symm
    obtain ⟨BM, hBM⟩ : ∃ B, B = w4.heap.size := ⟨_, rfl⟩
    rw [← hBM] at v0 v1
    have HBM := hide hBM.symm
    have HO5 := hide (g_own HO.out hb5)
    have HOP5 := hide (g_own HOP.out hb5)
    have HPX5 := hide (HPX.out.below hb5)
    have HB5 := hide (HB.out.trans (hb5.mono HB.out.size))
    have hz6 : wr.heap.size ≤ BM := by rw [hBM]; exact hb4.size
    have hz7 : BM < W5.heap.size := by omega
    clear hs hb4 bW hb5 hW5 hBM HNM x0 x1 hz5
    go_upto_region 6 with fail
    rw [HW5.out, HBM.out]
    clear HW5 HBM
    have x0 := HPX5.out.1
    have x1 := HPX5.out.2.1
    cases s
    · obtain rfl : NX = none := HSS.out
      have hpe := HENx.out rfl
      subst hpe
      have HFIN := hide (mo_own rfl HOP5.out)
      have hlo : w.heap.size ≤ W3.heap.size := hz3
      have HFI2 := hide (HFIN.out.low hlo)
      go_wp2_with fail
      go_ret2
      exact ⟨_, rfl, HB5.out, HFI2.out⟩
    · obtain rfl : NX = some (F, T) := HSS.out
      obtain ⟨f, t, hnx, hgk, hpi⟩ := HSTx.out _ HP.out rfl
      have hme := hnx.e
      simp only [Prod.mk.injEq] at hme
      obtain ⟨rfl, rfl⟩ := hme
      have HPN := hide hpi
      have HMG := hide (mg_any (f := f) (t := t) hcl hnx.hf hnx.ht HO5.out)
      clear hnx hpi HSTx HENx HST HEN
      go_wp2_with fail
      refine HMG.out.mono ?_
      rintro e w6 ⟨rfl, own6, hg6⟩
      have HO6 := hide own6
      have hgBM : g < BM := by have := (HO.out.lt g rfl).2; omega
      have v0 := (World.cell?_of_block (w := W5) (a := ⟨BM, 0, none⟩) (hg6.block BM hz7 (by intro e; cases e; omega))).trans v0
      have v1 := (World.cell?_of_block (w := W5) (a := ⟨BM, 1, none⟩) (hg6.block BM hz7 (by intro e; cases e; omega))).trans v1
      have hgW : g < W3.heap.size := by have := HPB.out.2.2; omega
      have hCW := HPB.out.2.2
      have HOP6 := hide (kept_hi HOP5.out (Nat.le_refl _) hg6 hgW)
      have HPX6 := hide (pbox_hi HPX5.out hg6 (fun b e => by cases e; exact hgC))
      have HB6 := hide (HB5.out.trans (grown_under10 hg6 (fun b e => by cases e; exact hgw) HB5.out.size))
      have hz8 := hg6.size
      obtain ⟨v9, w9, hr9, own9, hg9⟩ := push_mv (x := (f : Int)) (y := (t : Int)) HOP6.out (by omega) (by omega)
      rw [← mce_snoc p ((f : Int), (t : Int))] at own9
      have HOP9 := hide own9
      have HO9 := hide (kept_lo HO6.out HOP6.out (Nat.le_refl _) hg9 hgW)
      have HPX9 := hide (pbox_hi HPX6.out hg9 (fun b e => by have := (HOP6.out.lt b e).1; omega))
      have HB9 := hide (HB6.out.trans (grown_under10 hg9 (fun b e => by have := (HOP6.out.lt b e).1; omega) HB6.out.size))
      have hz9 := hg9.size
      clear own6 hg6 own9 hg9 HMG HOP6 HO6 HPX6 HB6
      go_wp2_with (first | (at_builtin; refine Lib.wpList_append_run _ rfl _ _ _ _ rfl _ _ rfl rfl _ _ (hr9 _) ?_))
      go_roundg (gk - 1)
      case measure => omega
      case rel => exact ⟨_, p ++ [((f : Int), (t : Int))], rfl, rfl, HPN, HO9, by rw [List.length_append]; exact HOP9, HPX9, HB9, by omega⟩
theorem pm_w {a b : Option Addr} {n m c d : Nat} {xs ws : List Int} {w : World} (hx : xs.length = n) (hy : ws.length = m) (hc : n ≤ c) (hd : m ≤ d) (ha : ARow w a xs) (hb : ARow w b ws) :
    Calls Try.prog 25 #[.slice a n c, .slice b m d] w fun e w' => ∃ v, e = .returned (.tuple #[v, .bool (Mx.sameB xs ws)]) ∧ Below w.heap.size w w' ∧ MO w' w.heap.size w'.heap.size v (Mx.pmL xs ws).length (Mx.pmL xs ws) := by
  cases hg : Mx.sameB xs ws
  · have e1 : Mx.pmL xs ws = [] := by unfold Mx.pmL; rw [hg]; rfl
    rw [e1]
    exact (pm_no (hide hx) (hide hy) hc hd (hide ha) (hide hb) (hide hg)).mono fun e w' ⟨he, hw⟩ => ⟨_, he, hw, mo_nil w' _⟩
  · have e1 : Mx.pmL xs ws = Mx.plan 20 xs ws := by unfold Mx.pmL; rw [hg]; rfl
    rw [e1]
    obtain ⟨e2, _⟩ := Mx.same_two hg hx
    obtain rfl : n = m := by omega
    exact pm_yes (hide hx) (hide hy) hc hd (hide ha) (hide hb) (hide hg)
end Go.Proofs.Ytdigcbjkobjdmaa
