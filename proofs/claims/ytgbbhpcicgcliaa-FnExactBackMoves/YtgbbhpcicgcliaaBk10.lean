/-
  What BackMoves answers, the program's and the model's.
-/
import Derived.Test.YtgbbhpcicgcliaaMm10
import Derived.Test.YtgbbhpcicgcliaaHv
import Derived.Deep.AppendLies
namespace Go.Proofs.Ytgbbhpcicgcliaa
open Go.RowKit

def swp (m : Int × Int) : Int × Int := (m.2, m.1)
def backL (L : List (Int × Int)) : List (Int × Int) := L.reverse.map swp
def okM (m : Int × Int) : Bool := Pf.inB m.1 0 8 && Pf.inB m.2 0 8
def bkB (L : List (Int × Int)) : Bool := L.all okM && decide (L.length ≤ 20)
def bkL (L : List (Int × Int)) : List (Int × Int) := if bkB L then backL L else []
theorem backL_len (L : List (Int × Int)) : (backL L).length = L.length := by simp [backL]
theorem bkL_le (L : List (Int × Int)) : (bkL L).length ≤ 20 := by
  unfold bkL; split
  · rename_i h; simp only [bkB, Bool.and_eq_true, decide_eq_true_eq] at h; rw [backL_len]; exact h.2
  · simp
theorem backL_get {L : List (Int × Int)} {i : Nat} (hi : i < L.length) : (backL L).getD (L.length - 1 - i) (0, 0) = swp (L.getD i (0, 0)) := by
  have h1 : L.length - 1 - i < L.reverse.length := by simp; omega
  have : (backL L).getD (L.length - 1 - i) (0, 0) = swp (L.reverse[L.length - 1 - i]) := by
    rw [List.getD_eq_getElem?_getD, backL, List.getElem?_map, List.getElem?_eq_getElem h1]; rfl
  rw [this, List.getElem_reverse]
  simp only [List.getD_eq_getElem?_getD, List.getElem?_eq_getElem hi, Option.getD_some]
  congr 2
  omega
theorem all_to {L : List (Int × Int)} {n : Nat} (hn : L.length = n) (h : ∀ i, i < n → okM (L.getD i (0, 0)) = true) : L.all okM = true := by
  rw [List.all_eq_true]
  intro m hm
  obtain ⟨i, hi, rfl⟩ := List.getElem_of_mem hm
  have := h i (by omega)
  rwa [List.getD_eq_getElem?_getD, List.getElem?_eq_getElem hi] at this
theorem all_not {L : List (Int × Int)} {i : Nat} (hi : i < L.length) (h : okM (L.getD i (0, 0)) = false) : L.all okM = false := by
  cases e : L.all okM
  · rfl
  · rw [List.all_eq_true] at e
    have := e (L.getD i (0, 0)) (by rw [List.getD_eq_getElem?_getD, List.getElem?_eq_getElem hi]; exact List.getElem_mem hi)
    rw [h] at this; cases this
theorem arow_two (w : World) (x y : Int) (t : TypeId) : ARow (w.alloc (.cells #[.int .i64 x, .int .i64 y] t)) (some ⟨w.heap.size, 0, none⟩) [x, y] := by
  refine Or.inr ⟨w.heap.size, 0, rfl, by simp, fun i hi => ?_⟩
  have : i = 0 ∨ i = 1 := by simp at hi; omega
  rcases this with rfl | rfl <;> simp
theorem okM_all (m : Int × Int) : Pf.allB [m.1, m.2] 0 8 = okM m := by simp [Pf.allB, okM]
/-- What lies in the list that is filled from its end. -/
def BkS (w : World) (B n : Nat) (L : List (Int × Int)) (i : Nat) : Prop := LooseF w B (n * 2) ∧ ∀ j, j < i → w.cell? ⟨B, (n - 1 - j) * 2, none⟩ = some (.int .i64 (L.getD j (0, 0)).2) ∧ w.cell? ⟨B, (n - 1 - j) * 2 + 1, none⟩ = some (.int .i64 (L.getD j (0, 0)).1)
theorem BkS.below {w w' : World} {B n i : Nat} {L : List (Int × Int)} (h : BkS w B n L i) (hB : B < w.heap.size) (hb : Below w.heap.size w w') : BkS w' B n L i :=
  ⟨h.1.below hb, fun j hj => ⟨(hb.cell (p := ⟨B, _, none⟩) hB).trans (h.2 j hj).1, (hb.cell (p := ⟨B, _, none⟩) hB).trans (h.2 j hj).2⟩⟩
theorem BkS.step {w : World} {B n i : Nat} {L : List (Int × Int)} (h : BkS w B n L i) (hi : i < n) : BkS ((w.setCell ⟨B, (n - 1 - i) * 2, none⟩ (.int .i64 (L.getD i (0, 0)).2)).setCell ⟨B, (n - 1 - i) * 2 + 1, none⟩ (.int .i64 (L.getD i (0, 0)).1)) B n L (i + 1) := by
  refine ⟨h.1.set.set, fun j hj => ?_⟩
  have q0 := (h.1 ((n - 1 - i) * 2) (by omega)).1
  have q1 := (h.1.set (i := (n - 1 - i) * 2) (v := .int .i64 (L.getD i (0, 0)).2) ((n - 1 - i) * 2 + 1) (by omega)).1
  have ne : ∀ {W : World} {a b : Nat} {v : Value}, a ≠ b → (W.setCell ⟨B, a, none⟩ v).cell? ⟨B, b, none⟩ = W.cell? ⟨B, b, none⟩ := fun hne => World.cell?_setCell_other _ _ _ _ (fun e' => hne (by injection e'))
  by_cases e : j = i
  · subst e
    exact ⟨(ne (by omega)).trans (setF1 q0), setF1 q1⟩
  · obtain ⟨h1, h2⟩ := h.2 j (by omega)
    exact ⟨(ne (by omega)).trans ((ne (by omega)).trans h1), (ne (by omega)).trans ((ne (by omega)).trans h2)⟩
theorem BkS.full {w : World} {B n : Nat} {L : List (Int × Int)} (h : BkS w B n L n) (hl : L.length = n) : FAt w B 0 (backL L) := fun i hi => by
  rw [backL_len, hl] at hi
  have hg := backL_get (L := L) (i := n - 1 - i) (by omega)
  rw [hl, show n - 1 - (n - 1 - i) = i by omega] at hg
  obtain ⟨h1, h2⟩ := h.2 (n - 1 - i) (by omega)
  rw [show n - 1 - (n - 1 - i) = i by omega] at h1 h2
  rw [hg, Nat.zero_add]
  exact ⟨h1, h2⟩
theorem mo_nil (w : World) (lo : Nat) : MO w lo w.heap.size (.slice none 0 0) 0 [] := ⟨Nat.le_refl _, rfl, Or.inl ⟨rfl, none, 0, rfl⟩⟩
theorem bko_any (F T : Int) (w : World) :
    Calls Try.prog 14 #[.agg #[.int .i64 F, .int .i64 T]] w fun e w' => e = .returned (.agg #[.int .i64 T, .int .i64 F]) ∧ Below w.heap.size w w' := by
  go_enter Try.func14, Try.ntmps14
  have hB : Below w.heap.size w ((w.alloc (.cells #[.int .i64 F, .int .i64 T] 32)).alloc (.cells #[.int .i64 T, .int .i64 F] 32)) := ((Below.refl _ w).alloc (Nat.le_refl _) _).alloc (by simp) _
  go_wp2_with fail
  exact bodyPost_ret (v := .agg #[.int .i64 T, .int .i64 F]) (by simp [results, Try.results14, go_sem]) rfl ⟨rfl, hB⟩
set_option maxHeartbeats 400000 in
theorem bk_long {a : Option Addr} {n c : Nat} {w : World} (hn : 20 < n) :
    Calls Try.prog 7 #[.slice a n c] w fun e w' => e = .returned (.tuple #[.slice none 0 0, .bool false]) ∧ w' = w := by
  have n0 : (20 : Int) < (n : Int) := by omega
  go_enter Try.func7, Try.ntmps7
  go_wp2_with fail
  go_ret2
  exact ⟨rfl, rfl⟩
set_option maxHeartbeats 4000000 in
theorem bk_yes {a : Option Addr} {n c : Nat} {L : List (Int × Int)} {w : World} (hl : L.length = n) (hn : n ≤ 20) (ha : FRow w a L) :
    Calls Try.prog 7 #[.slice a n c] w fun e w' => ∃ v, e = .returned (.tuple #[v, .bool (bkB L)]) ∧ Below w.heap.size w w' ∧ MO w' w.heap.size w'.heap.size v (bkL L).length (bkL L) := by
  have hmk := makeF_run n (by omega)
  have HL := hide hl
  have HA := hide ha
  have n0 : ¬ (20 : Int) < (n : Int) := by omega
  have HNO : Hid (L.all okM = false → bkB L = false ∧ bkL L = []) := hide fun h => by
    have : bkB L = false := by unfold bkB; rw [h]; rfl
    exact ⟨this, by unfold bkL; rw [this]; rfl⟩
  have HYES : Hid (L.all okM = true → bkB L = true ∧ bkL L = backL L) := hide fun h => by
    have : bkB L = true := by unfold bkB; rw [h, hl]; simp [hn]
    exact ⟨this, by unfold bkL; rw [this]; rfl⟩
  generalize bkB L = G at *
  generalize bkL L = R at *
  clear hl ha
  go_enter Try.func7, Try.ntmps7
  go_wp2_with fail
  clear hmk
  go_loopw [2, 3, 5, 6, 15] (fun s2 s3 _ _ s wr => ∃ (i : Nat), s2 = .slice none 0 0 ∧ s3 = .bool false ∧ s = .int .i64 i ∧ i ≤ n ∧ Hid (BkS wr w.heap.size n L i) ∧ Hid (Below w.heap.size w wr) ∧ w.heap.size < wr.heap.size ∧ Hid (∀ j, j < i → okM (L.getD j (0, 0)) = true)) (fun _ _ _ _ s _ => n - (intOf s).toNat)
  case atStart => exact ⟨0, rfl, rfl, rfl, Nat.zero_le _, hide ⟨fun j hj => ⟨by rw [madeF_cell w n j _ hj]; rfl, madeF_frozen _ _ _ _⟩, fun j hj => absurd hj (Nat.not_lt_zero _)⟩, hide (below_new w _), by simp, hide fun j hj => absurd hj (Nat.not_lt_zero _)⟩
  case round =>
    obtain ⟨i, rfl, rfl, rfl, hi, HS, HB, hz, HOK⟩ := hrel
    by_cases hlt : i < n
    · obtain ⟨b, o, rfl, hb, r0, r1⟩ := HA.out.at (i := i) (by rw [HL.out]; exact hlt)
      have r0' := (HB.out.cell (p := ⟨b, o + i * 2, none⟩) hb).trans r0
      have r1' := (HB.out.cell (p := ⟨b, o + i * 2 + 1, none⟩) hb).trans r1
      have HNE := hide fun (h : okM (L.getD i (0, 0)) = false) => HNO.out (all_not (show i < L.length by rw [HL.out]; exact hlt) h)
      have HON := hide fun (h : okM (L.getD i (0, 0)) = true) => show ∀ j, j < i + 1 → okM (L.getD j (0, 0)) = true from fun j hj => by
        by_cases e : j = i
        · subst e; exact h
        · exact HOK.out j (by omega)
      have HAL := hide (okM_all (L.getD i (0, 0)))
      have HST := hide fun (W : World) (h : BkS W w.heap.size n L i) => h.step hlt
      generalize hx : (L.getD i (0, 0)).1 = x at *
      generalize hy : (L.getD i (0, 0)).2 = y at *
      clear r0 r1 hx hy
      have i0 : (0 : Int) ≤ (i : Int) := by omega
      have i1 : (i : Int) < (n : Int) := by omega
      obtain ⟨m1, hm1⟩ : ∃ m1 : Nat, n = m1 + 1 := ⟨n - 1, by omega⟩
      have e1 : (n : Int) - 1 = (m1 : Int) := by omega
      have i2 : (0 : Int) ≤ (m1 : Int) - (i : Int) := by omega
      have i3 : (m1 : Int) - (i : Int) < (n : Int) := by omega
      have bW1 := below_new wr (.cells #[.int .i64 x, .int .i64 y] 32)
      have bW2 := below_new (wr.alloc (.cells #[.int .i64 x, .int .i64 y] 32)) (.cells #[.int .i64 x, .int .i64 y] 3)
      have hAR := arow_two (wr.alloc (.cells #[.int .i64 x, .int .i64 y] 32)) x y 3
      rw [World.size_alloc] at hAR
      have HAR := hide hAR
      clear hAR
      have HLN : Hid (([x, y] : List Int).length = 2) := hide rfl
      have HS1 := hide ((HS.out.below hz bW1).below (by simp; omega) bW2)
      have HB1 := hide (HB.out.trans ((bW1.trans (bW2.mono bW1.size)).mono HB.out.size))
      have hz1 : w.heap.size < ((wr.alloc (.cells #[.int .i64 x, .int .i64 y] 32)).alloc (.cells #[.int .i64 x, .int .i64 y] 3)).heap.size := by simp; omega
      cases hok : okM (L.getD i (0, 0))
      · have HK := hide (HAL.out.trans hok)
        obtain ⟨rfl, rfl⟩ := HNE.out hok
        have HNIL := hide (mo_nil ((wr.alloc (.cells #[.int .i64 x, .int .i64 y] 32)).alloc (.cells #[.int .i64 x, .int .i64 y] 3)) w.heap.size)
        clear hok bW1 bW2
        go_wp2_with fail
        refine (areb_eqn HAR HLN (by omega) HK).mono ?_
        rintro e w2 ⟨rfl, rfl⟩
        go_wp2_with fail
        go_ret2
        exact ⟨.slice none 0 0, rfl, HB1.out, HNIL.out⟩
      · have HK := hide (HAL.out.trans hok)
        have HON1 := hide (HON.out hok)
        have cm0 : ((wr.alloc (.cells #[.int .i64 x, .int .i64 y] 32)).alloc (.cells #[.int .i64 x, .int .i64 y] 3)).cell? ⟨wr.heap.size, 0, none⟩ = some (.int .i64 x) := by simp
        have cm1 : ((wr.alloc (.cells #[.int .i64 x, .int .i64 y] 32)).alloc (.cells #[.int .i64 x, .int .i64 y] 3)).cell? ⟨wr.heap.size, 1, none⟩ = some (.int .i64 y) := by simp
        have HM1 := hide hm1
        clear hok HNE HON bW1 bW2 hm1 HS
        go_wp2_with fail
        refine (areb_eqn HAR HLN (by omega) HK).mono ?_
        rintro e w2 ⟨rfl, hw2⟩
        subst hw2
        clear HAR
        generalize (wr.alloc (.cells #[.int .i64 x, .int .i64 y] 32)).alloc (.cells #[.int .i64 x, .int .i64 y] 3) = W2 at *
        generalize wr.heap.size = BV at *
        go_wp2_with fail
        refine (bko_any x y _).mono ?_
        rintro e W3 ⟨rfl, hb3⟩
        have hm1 := HM1.out
        have hz3 : w.heap.size < W3.heap.size := Nat.lt_of_lt_of_le hz1 hb3.size
        have HS3 := HS1.out.below hz1 hb3
        have f0 := HS3.1 ((m1 - i) * 2) (by omega)
        have f1 := HS3.1 ((m1 - i) * 2 + 1) (by omega)
        obtain ⟨v0, c0⟩ := Option.isSome_iff_exists.1 f0.1
        obtain ⟨v1, c1⟩ := Option.isSome_iff_exists.1 f1.1
        have g0 := f0.2
        have g1 := f1.2
        have HST1 := hide (HST.out _ HS3)
        rw [show n - 1 - i = m1 - i by omega] at HST1
        have HBS := hide fun (v v' : Value) => ((HB1.out.trans (hb3.mono HB1.out.size)).setCell (p := ⟨w.heap.size, (m1 - i) * 2, none⟩) (Nat.le_refl _) v).setCell (p := ⟨w.heap.size, (m1 - i) * 2 + 1, none⟩) (Nat.le_refl _) v'
        clear f0 f1 HS1 HS3 hb3 hm1 HM1
        go_wp2_with fail
        go_roundw
        case rel => exact ⟨i + 1, rfl, rfl, by go_num, by omega, HST1, hide (HBS.out _ _), by simpa using hz3, HON1⟩
        case measure => simp only [intOf]; omega
    · have hie : i = n := by omega
      subst hie
      obtain ⟨rfl, rfl⟩ := HYES.out (all_to HL.out HOK.out)
      have HFU := hide (HS.out.full HL.out)
      have HLO := hide HS.out.1
      go_wp2_with fail
      go_ret2
      refine ⟨.slice (some ⟨w.heap.size, 0, none⟩) i i, rfl, HB.out, Nat.le_refl _, rfl, Or.inr ⟨w.heap.size, i, by rw [backL_len, HL.out], Nat.le_refl _, hz, HFU.out, by rw [backL_len, HL.out]; exact HLO.out⟩⟩
theorem bk_w {a : Option Addr} {n c : Nat} {L : List (Int × Int)} {w : World} (hl : L.length = n) (ha : FRow w a L) :
    Calls Try.prog 7 #[.slice a n c] w fun e w' => ∃ v, e = .returned (.tuple #[v, .bool (bkB L)]) ∧ Below w.heap.size w w' ∧ MO w' w.heap.size w'.heap.size v (bkL L).length (bkL L) := by
  by_cases hn : n ≤ 20
  · exact bk_yes hl hn ha
  · have hG : bkB L = false := by unfold bkB; rw [hl]; simp; omega
    have hR : bkL L = [] := by unfold bkL; rw [hG]; rfl
    rw [hG, hR]
    exact (bk_long (by omega)).mono fun e w' ⟨he, hw⟩ => ⟨_, he, hw ▸ Below.refl _ _, hw ▸ mo_nil w _⟩
end Go.Proofs.Ytgbbhpcicgcliaa
