/-
  Lists of moves that grow; what BackMoves of the model answers.
-/
import Derived.Test.YtgbbhpcicgcliaaBk10
import Derived.Deep.DeepCutAuto
import Derived.Lib.AppendZeros
namespace Go.Proofs.Ytgbbhpcicgcliaa
open Go.RowKit

def mce (L : List (Int × Int)) : List Value := L.flatMap fun f => [.int .i64 f.1, .int .i64 f.2]
theorem mce_snoc (L : List (Int × Int)) (f : Int × Int) : mce (L ++ [f]) = mce L ++ [.int .i64 f.1, .int .i64 f.2] := by simp [mce]
theorem mce_get : ∀ (L : List (Int × Int)) (i : Nat), i < L.length → (mce L)[i * 2]? = some (.int .i64 (L.getD i (0, 0)).1) ∧ (mce L)[i * 2 + 1]? = some (.int .i64 (L.getD i (0, 0)).2)
  | [], i, h => by simp at h
  | f :: r, 0, _ => by simp [mce]
  | f :: r, i + 1, h => by
    have ih := mce_get r i (by simpa using h)
    have e : mce (f :: r) = [.int .i64 f.1, .int .i64 f.2] ++ mce r := by simp [mce]
    rw [e, List.getD_cons_succ]
    constructor
    · rw [List.getElem?_append_right (by simp; omega)]
      rw [show (i + 1) * 2 - [Value.int IntKind.i64 f.1, Value.int IntKind.i64 f.2].length = i * 2 by simp; omega]
      exact ih.1
    · rw [List.getElem?_append_right (by simp; omega)]
      rw [show (i + 1) * 2 + 1 - [Value.int IntKind.i64 f.1, Value.int IntKind.i64 f.2].length = i * 2 + 1 by simp; omega]
      exact ih.2
theorem push_mv {w : World} {base n : Nat} {v : Value} {xs : List Value} {x y : Int} (hown : w.ownsRow base 32 2 v n xs) (hn : n ≤ 1048576) (hb : base ≤ w.heap.size) :
    ∃ v' w', (∀ ty, (Builtin.append_ #[24, 24] ty #[v, .slice (some ⟨w.heap.size, 0, none⟩) 1 1]).run Try.prog (w.alloc (.cells #[.int .i64 x, .int .i64 y] 32)) = .ok v' w') ∧ w'.ownsRow base 32 2 v' (n + 1) (xs ++ [.int .i64 x, .int .i64 y]) ∧ w.grownBy w' v.ownBlock := by
  have h : (Try.prog.info? 32).map (fun i => (i.zero, i.size, i.bytes)) = some (some (.agg #[.int .i64 0, .int .i64 0]), 2, 16) := by kernel_rfl
  obtain ⟨i0, hi, hzz⟩ := Option.map_eq_some_iff.1 h
  simp only [Prod.mk.injEq] at hzz
  obtain ⟨hz0, hz1, hz2⟩ := hzz
  obtain ⟨g, cap, w', h1, h2, h3, _, _⟩ := run_append_lies (P := Try.prog) (w := w.alloc (.cells #[.int .i64 x, .int .i64 y] 32)) 24 0 base 32 i0 _ 2 16 Try.underlying24 hi hz0 hz1 hz2 rfl (by decide) v n xs (hown.alloc _) ⟨w.heap.size, 0, none⟩ 1 1 [.int .i64 x, .int .i64 y] rfl (fun j u hj => by
      have hj2 : j = 0 ∨ j = 1 := by
        have := (List.getElem?_eq_some_iff.1 hj).1
        simp at this; omega
      rw [add_plain']
      rcases hj2 with rfl | rfl
      · simp at hj; subst hj; simp
      · simp at hj; subst hj; simp) (fun u hu => by simp at hu; rcases hu with rfl | rfl <;> rfl) (by omega) (by unfold maxLen; omega) (by omega) (by simp; omega) _ rfl
  refine ⟨_, w', fun _ => h1, h2, ?_⟩
  have hg := World.grownBy_alloc w (.cells #[.int .i64 x, .int .i64 y] 32) v.ownBlock
  exact ⟨h3.os.trans hg.os, h3.tape.trans hg.tape, h3.output.trans hg.output, Nat.le_trans hg.size h3.size, fun b hb hne => (h3.block b (Nat.lt_of_lt_of_le hb hg.size) hne).trans (hg.block b hb hne)⟩
theorem mo_own {w : World} {base n : Nat} {v : Value} {L : List (Int × Int)} (hx : L.length = n) (h : w.ownsRow base 32 2 v n (mce L)) : MO w base w.heap.size v n L := by
  refine ⟨Nat.le_refl _, hx, ?_⟩
  rcases h.2 with ⟨rfl, hn⟩ | ⟨g, cap, cur, rfl, hb, hg, _⟩
  · subst hn; exact Or.inl ⟨rfl, none, 0, rfl⟩
  · refine Or.inr ⟨g, cap, rfl, hb, (Array.getElem?_eq_some_iff.1 hg).1, fun i hi => ?_, fun j hj => ⟨?_, h.frozenAt j⟩⟩
    · obtain ⟨e1, e2⟩ := mce_get L i hi
      rw [Nat.zero_add, h.cellAt (i * 2) (by omega), h.cellAt (i * 2 + 1) (by omega)]
      exact ⟨e1, e2⟩
    · have hl : (mce L).length = n * 2 := h.1
      rw [h.cellAt j (by omega), List.getElem?_eq_getElem (by omega)]; rfl
theorem own_formM {w : World} {base n : Nat} {v : Value} {xs : List Value} (h : w.ownsRow base 32 2 v n xs) : ∃ a cap, v = .slice a n cap := by
  rcases h.2 with ⟨rfl, hn⟩ | ⟨g, cap, cur, rfl, _⟩
  · exact ⟨none, 0, by rw [hn]⟩
  · exact ⟨_, _, rfl⟩
/-- The moves from k on, the last one first. -/
def backTo (L : List (Int × Int)) (k : Nat) : List (Int × Int) := (L.drop k).reverse.map swp
theorem backTo_len (L : List (Int × Int)) (k : Nat) : (backTo L k).length = L.length - k := by simp [backTo]
theorem backTo_step {L : List (Int × Int)} {j : Nat} (hj : j < L.length) : backTo L j = backTo L (j + 1) ++ [swp (L.getD j (0, 0))] := by
  unfold backTo
  rw [List.drop_eq_getElem_cons hj, List.reverse_cons, List.map_append, List.getD_eq_getElem?_getD, List.getElem?_eq_getElem hj]
  rfl
set_option maxHeartbeats 4000000 in
theorem sbk_w {a : Option Addr} {n c : Nat} {L : List (Int × Int)} {w : World} (hl : L.length = n) (hn : n ≤ 1048576) (ha : FRow w a L) :
    Calls Try.prog 5 #[.slice a n c] w fun e w' => ∃ v, e = .returned (.tuple #[v, .bool (bkB L)]) ∧ Below w.heap.size w w' ∧ MO w' w.heap.size w'.heap.size v (bkL L).length (bkL L) := by
  have HL := hide hl
  have HA := hide ha
  have HNO : Hid ((L.all okM = false ∨ 20 < n) → bkB L = false ∧ bkL L = []) := hide fun h => by
    have : bkB L = false := by
      unfold bkB; rw [hl]
      rcases h with h | h
      · rw [h]; rfl
      · simp; omega
    exact ⟨this, by unfold bkL; rw [this]; rfl⟩
  have HYES : Hid (L.all okM = true → n ≤ 20 → bkB L = true ∧ bkL L = backL L) := hide fun h hn => by
    have : bkB L = true := by unfold bkB; rw [h, hl]; simp [hn]
    exact ⟨this, by unfold bkL; rw [this]; rfl⟩
  generalize bkB L = G at *
  generalize bkL L = R at *
  clear hl ha
  go_enter Try.func5, Try.ntmps5
  go_wp2_with fail
  go_loopw [2, 3, 4, 5, 6] (fun s2 s3 v s _ wr => ∃ (k : Nat) (q : Int), s2 = .slice none 0 0 ∧ s3 = .bool false ∧ s = .int .i64 q ∧ q = (k : Int) - 1 ∧ k ≤ n ∧ Hid (wr.ownsRow w.heap.size 32 2 v (n - k) (mce (backTo L k))) ∧ Hid (Below w.heap.size w wr) ∧ Hid (∀ j, k ≤ j → j < n → okM (L.getD j (0, 0)) = true)) (fun _ _ _ s _ _ => (intOf s + 1).toNat)
  case atStart => exact ⟨n, _, rfl, rfl, rfl, rfl, Nat.le_refl _, hide (by
      rw [Nat.sub_self, show backTo L n = [] by unfold backTo; rw [← HL.out, List.drop_length]; rfl]; exact World.ownsRow_nil _ _ _ _), hide (Below.refl _ _), hide fun j h1 h2 => absurd h1 (by omega)⟩
  case round =>
    obtain ⟨k, q, rfl, rfl, rfl, hq, hk, HO, HB, HOK⟩ := hrel
    obtain ⟨av, cv, hu⟩ := own_formM HO.out
    by_cases hq0 : 0 ≤ q
    · obtain ⟨j, rfl⟩ := Int.eq_ofNat_of_zero_le hq0
      obtain rfl : k = j + 1 := by omega
      clear hq
      have hlt : j < n := by omega
      obtain ⟨b, o, rfl, hb, r0, r1⟩ := HA.out.at (i := j) (by rw [HL.out]; exact hlt)
      have r0' := (HB.out.cell (p := ⟨b, o + j * 2, none⟩) hb).trans r0
      have r1' := (HB.out.cell (p := ⟨b, o + j * 2 + 1, none⟩) hb).trans r1
      have HNE := hide fun (h : okM (L.getD j (0, 0)) = false) => HNO.out (Or.inl (all_not (show j < L.length by rw [HL.out]; exact hlt) h))
      have HON := hide fun (h : okM (L.getD j (0, 0)) = true) => show ∀ i, j ≤ i → i < n → okM (L.getD i (0, 0)) = true from fun i h1 h2 => by
        by_cases e : i = j
        · subst e; exact h
        · exact HOK.out i (by omega) h2
      have HSP := hide (backTo_step (show j < L.length by rw [HL.out]; exact hlt))
      have HKD : Hid (okM (L.getD j (0, 0)) = (Pf.inB (L.getD j (0, 0)).1 0 8 && Pf.inB (L.getD j (0, 0)).2 0 8)) := hide rfl
      have HSW : Hid (swp (L.getD j (0, 0)) = ((L.getD j (0, 0)).2, (L.getD j (0, 0)).1)) := hide rfl
      generalize (L.getD j (0, 0)).1 = x at *
      generalize (L.getD j (0, 0)).2 = y at *
      clear r0 r1
      have i0 : (0 : Int) ≤ (j : Int) := by omega
      have i1 : (j : Int) < (n : Int) := by omega
      have bW1 := below_new wr (.cells #[.int .i64 x, .int .i64 y] 32)
      have HB1 := hide (HB.out.trans (bW1.mono HB.out.size))
      have own1 := HO.out.alloc (.cells #[.int .i64 x, .int .i64 y] 32)
      have hz1 : (wr.alloc (.cells #[.int .i64 x, .int .i64 y] 32)).heap.size = wr.heap.size + 1 := World.size_alloc _ _
      have cm0 : (wr.alloc (.cells #[.int .i64 x, .int .i64 y] 32)).cell? ⟨wr.heap.size, 0, none⟩ = some (.int .i64 x) := by simp
      have cm1 : (wr.alloc (.cells #[.int .i64 x, .int .i64 y] 32)).cell? ⟨wr.heap.size, 1, none⟩ = some (.int .i64 y) := by simp
      have HNIL := hide fun (W : World) => mo_nil W w.heap.size
      obtain ⟨W1, hW1⟩ : ∃ W, W = wr.alloc (.cells #[.int .i64 x, .int .i64 y] 32) := ⟨_, rfl⟩
      rw [← hW1] at HB1 own1 cm0 cm1 hz1
      have HW1 := hide hW1.symm
      have HO1 := hide own1
      obtain ⟨BV, hBV⟩ : ∃ b, b = wr.heap.size := ⟨_, rfl⟩
      rw [← hBV] at cm0 cm1
      have HBV := hide hBV.symm
      clear bW1 own1 hW1 hBV HO hz1
      subst hu
      go_upto_region 6 with fail
      rw [HW1.out, HBV.out]
      clear HW1 HBV
      cases hx : Pf.inB x 0 8
      · obtain ⟨rfl, rfl⟩ := HNE.out (by rw [HKD.out, hx]; rfl)
        go_wp2_with fail
        refine (in_eq hx).mono ?_
        rintro e w2 ⟨rfl, hw2⟩
        obtain rfl : W1 = w2 := hw2.symm
        go_wp2_with fail
        go_ret2
        exact ⟨.slice none 0 0, rfl, HB1.out, HNIL.out _⟩
      · cases hy : Pf.inB y 0 8
        · obtain ⟨rfl, rfl⟩ := HNE.out (by rw [HKD.out, hx, hy]; rfl)
          go_wp2_with fail
          refine (in_eq hx).mono ?_
          rintro e w2 ⟨rfl, hw2⟩
          obtain rfl : W1 = w2 := hw2.symm
          go_wp2_with fail
          refine (in_eq hy).mono ?_
          rintro e w2 ⟨rfl, hw2⟩
          obtain rfl : W1 = w2 := hw2.symm
          go_wp2_with fail
          go_ret2
          exact ⟨.slice none 0 0, rfl, HB1.out, HNIL.out _⟩
        · have HON1 := hide (HON.out (by rw [HKD.out, hx, hy]; rfl))
          obtain ⟨v3, w3, hr3, own3, hg3⟩ := push_mv (x := y) (y := x) HO1.out (by omega) HB1.out.size
          rw [← mce_snoc _ (y, x), ← HSW.out, ← HSP.out, show n - (j + 1) + 1 = n - j by omega] at own3
          have HO3 := hide own3
          have HB3 := hide (HB1.out.trans (grown_under' hg3 HO1.out (Nat.le_refl _) HB1.out.size))
          clear own3 hg3
          go_wp2_with fail
          refine (in_eq hx).mono ?_
          rintro e w2 ⟨rfl, hw2⟩
          obtain rfl : W1 = w2 := hw2.symm
          go_wp2_with fail
          refine (in_eq hy).mono ?_
          rintro e w2 ⟨rfl, hw2⟩
          obtain rfl : W1 = w2 := hw2.symm
          go_wp2_with (first | (at_builtin; refine Lib.wpList_append_run _ rfl _ _ _ _ rfl _ _ rfl rfl _ _ (hr3 _) ?_))
          go_roundw
          case rel => exact ⟨j, _, rfl, rfl, rfl, rfl, by omega, HO3, HB3, HON1⟩
          case measure => simp only [intOf]; omega
    · obtain rfl : k = 0 := by omega
      obtain rfl : q = -1 := by omega
      clear hq
      have hall := all_to HL.out (fun i hi => HOK.out i (Nat.zero_le _) hi)
      have e0 : backTo L 0 = backL L := rfl
      rw [Nat.sub_zero, e0] at HO
      subst hu
      by_cases hn20 : n ≤ 20
      · have n0 : ¬ (20 : Int) < (n : Int) := by omega
        obtain ⟨rfl, rfl⟩ := HYES.out hall hn20
        have HMO := hide (mo_own (by rw [backL_len, HL.out]) HO.out)
        go_wp2_with fail
        go_ret2
        exact ⟨_, rfl, HB.out, by rw [backL_len, HL.out]; exact HMO.out⟩
      · have n0 : (20 : Int) < (n : Int) := by omega
        obtain ⟨rfl, rfl⟩ := HNO.out (Or.inr (by omega))
        have HNIL := hide (mo_nil wr w.heap.size)
        go_wp2_with fail
        go_ret2
        exact ⟨.slice none 0 0, rfl, HB.out, HNIL.out⟩
end Go.Proofs.Ytgbbhpcicgcliaa
