/-
  What slices.Index and goBack answer.
-/
import Derived.Test.YtcniegaogdggaaaWj
import Derived.Test.YtcniegaogdggaaaKn
import Derived.Deep.LoopGhost
namespace Go.Proofs.Ytcniegaogdggaaa
open Go.RowKit

set_option maxHeartbeats 2000000 in
theorem ix9_any {N c : Nat} {x r : Int} {a : Option Addr} {xs : List Int} {w : World} (hN : xs.length = N) (h100 : N ≤ 1000) (ha : ARow w a xs) (hr : (r = -1 ∧ ∀ i, i < N → xs.getD i 0 ≠ x) ∨ ∃ i, i < N ∧ r = (i : Int) ∧ xs.getD i 0 = x ∧ ∀ j, j < i → xs.getD j 0 ≠ x) :
    Calls Try.prog 63 #[.slice a N c, .int .i64 x] w fun e w' => e = .returned (.int .i64 r) ∧ w' = w := by
  have HA := hide ha
  have HN := hide hN
  have HR := hide hr
  clear ha hN hr
  go_enter Try.func63, Try.ntmps63
  go_wp2_with fail
  go_loop [4, 5, 8] (fun s4 _ s => ∃ (k : Nat), s4 = .int .i64 0 ∧ s = .int .i64 k ∧ k ≤ N ∧ Hid (∀ j, j < k → xs.getD j 0 ≠ x)) (fun _ _ s => N - (intOf s).toNat)
  case atStart => exact ⟨0, rfl, rfl, Nat.zero_le _, hide fun j hj => absurd hj (Nat.not_lt_zero _)⟩
  case round =>
    obtain ⟨k, rfl, rfl, hk, HK⟩ := hrel
    by_cases hlt : k < N
    · obtain ⟨b2, o2, rfl, r1⟩ := HA.out.at (i := k) (by rw [HN.out]; exact hlt)
      have i0 : (0 : Int) ≤ (k : Int) := by omega
      have i1 : (k : Int) < (N : Int) := by omega
      by_cases hx : x = xs.getD k 0
      · have hb : (x == xs.getD k 0) = true := by rw [hx]; simp
        have HE : Hid ((k : Int) = r) := hide (by
          rcases HR.out with ⟨_, h⟩ | ⟨i, h1, h2, h3, h4⟩
          · exact absurd hx.symm (h k hlt)
          · rw [h2]
            have e1 : ¬ i < k := fun h => HK.out i h h3
            have e2 : ¬ k < i := fun h => h4 k h hx.symm
            omega)
        generalize xs.getD k 0 = y at *
        clear hx
        go_wp2_with fail
        go_ret
        exact ⟨ret_int HE.out, rfl⟩
      · have hb : (x == xs.getD k 0) = false := by simpa using hx
        have HK2 : Hid (∀ j, j < k + 1 → xs.getD j 0 ≠ x) := hide fun j hj => by
          by_cases e : j = k
          · subst e; exact Ne.symm hx
          · exact HK.out j (by omega)
        generalize xs.getD k 0 = y at *
        clear hx
        go_wp2_with fail
        go_round
        case rel => exact ⟨k + 1, rfl, by go_num, by omega, HK2⟩
        case measure => simp only [intOf]; omega
    · have hke : k = N := by omega
      subst hke
      have HE : Hid ((-1 : Int) = r) := hide (by
        rcases HR.out with ⟨h, _⟩ | ⟨i, h1, h2, h3, h4⟩
        · exact h.symm
        · exact absurd h3 (HK.out i h1))
      go_wp2_with fail
      go_ret
      exact ⟨ret_int HE.out, rfl⟩
theorem bk_inv {n : Nat} {ys fit fit' : List Int} {k : Nat} {b : Int} (h : Hu.BkR n ys k fit b fit') : (k = 0 ∧ b = -1 ∧ fit' = fit) ∨ ∃ k' t i : Nat, k = k' + 1 ∧ b = (t : Int) ∧ t < n ∧ i < n ∧ ys.getD t 0 = (i : Int) ∧ Hu.BkR n ys k' (fit.set i (t : Int)) (fit.getD i 0) fit' := by
  cases h with
  | done => exact Or.inl ⟨rfl, rfl, rfl⟩
  | step hb hi hy h => exact Or.inr ⟨_, _, _, rfl, rfl, hb, hi, hy, h⟩
set_option maxRecDepth 20000 in
set_option maxHeartbeats 8000000 in
theorem gb_any {e : Option Addr} {n ce FT PU PV bs K : Nat} {v0 v1 v2 : Value} {b : Int} {xs ys fit fit' : List Int} {w : World} (hn : n ≤ 10) (hx : xs.length = 10) (hy : ys.length = 10) (h0 : v0.oneCell' = true) (h1 : v1.oneCell' = true) (h2 : v2.oneCell' = true) (hfl : fit.length = n) (hB : Hu.BkR n ys K fit b fit') (ho : w.ownsRow bs 3 1 (.slice (some ⟨FT, 0, none⟩) n n) n (ints fit)) :
    Calls Try.prog 69 #[.agg (fv e n ce FT PU PV), .agg (sl9 v0 v1 v2 xs ys).toArray, .int .i64 b] w fun e w' => e = .returned (.tuple #[]) ∧ w'.ownsRow bs 3 1 (.slice (some ⟨FT, 0, none⟩) n n) n (ints fit') ∧ w.grownBy w' (some FT) := by
  have lf := (ho.lt FT rfl).2
  have bnA := below_new w (.cells (fv e n ce FT PU PV) 60)
  have bnB := below_new (w.alloc (.cells (fv e n ce FT PU PV) 60)) (.cells (sl9 v0 v1 v2 xs ys).toArray 81)
  have A := SV.new (w.alloc (.cells (fv e n ce FT PU PV) 60)) (v0 := v0) (v1 := v1) (v2 := v2) hx hy h0 h1 h2 81
  have f1 : (w.alloc (.cells (fv e n ce FT PU PV) 60)).cell? ⟨w.heap.size, 1, none⟩ = some (.slice (some ⟨FT, 0, none⟩) n n) := by simp [fv, go_sem]
  rw [World.size_alloc] at A
  have g1 := (bnB.cell (p := ⟨w.heap.size, 1, none⟩) (by simp)).trans f1
  have bnW := bnA.trans (bnB.mono (by simp))
  obtain ⟨W1, hW1⟩ : ∃ W1, W1 = (w.alloc (.cells (fv e n ce FT PU PV) 60)).alloc (.cells (sl9 v0 v1 v2 xs ys).toArray 81) := ⟨_, rfl⟩
  rw [← hW1] at A g1 bnW
  have HW1 := hide hW1.symm
  have HA := hide A
  have hlt := A.lt
  have HO1 := hide (g_own ho bnW)
  have HBW := hide bnW
  have HB0 := hide hB
  have HFL := hide hfl
  generalize fv e n ce FT PU PV = arr at *
  generalize (sl9 v0 v1 v2 xs ys).toArray = arr2 at *
  clear bnA bnB A f1 bnW hW1 ho hB hfl
  go_enter Try.func69, Try.ntmps69
  go_upto_region 1 with fail
  rw [HW1.out]
  clear HW1
  go_loopg [2, 6] K (fun gk s2 _ wr => ∃ (b : Int) (fit : List Int), s2 = .int .i64 b ∧ fit.length = n ∧ Hid (Hu.BkR n ys gk fit b fit') ∧ Hid (wr.ownsRow bs 3 1 (.slice (some ⟨FT, 0, none⟩) n n) n (ints fit)) ∧ Hid (W1.grownBy wr (some FT)))
  case atStart => exact ⟨b, fit, rfl, HFL.out, HB0, HO1, hide (World.grownBy.refl _ _)⟩
  case round =>
    clear HB0 HO1 HFL
    obtain ⟨b, fit, rfl, hfl, HBk, HO, HG⟩ := hrel
    rcases bk_inv HBk.out with ⟨rfl, rfl, hff⟩ | ⟨k', t, i, rfl, rfl, ht, hi, hyt, hbk⟩
    · have HF : Hid (wr.ownsRow bs 3 1 (.slice (some ⟨FT, 0, none⟩) n n) n (ints fit')) := hide (by rw [hff]; exact HO.out)
      have HGW : Hid (w.grownBy wr (some FT)) := hide ⟨HG.out.os.trans HBW.out.os, HG.out.tape.trans HBW.out.tape, HG.out.output.trans HBW.out.output, Nat.le_trans HBW.out.size HG.out.size, fun b hb hne => (HG.out.block b (Nat.lt_of_lt_of_le hb HBW.out.size) hne).trans (HBW.out.block b hb)⟩
      clear hff HBk HO HG
      go_wp2_with fail
      go_end0
      exact ⟨rfl, HF.out, HGW.out⟩
    · have A2 := HA.out.keep HG.out.size (HG.out.block _ hlt (by simp; omega))
      have cy := A2.y (i := t) (by omega)
      rw [hyt] at cy
      have c1 := (World.cell?_of_block (w := W1) (a := ⟨w.heap.size, 1, none⟩) (HG.out.block w.heap.size (by omega) (by simp; omega))).trans g1
      have cf : wr.cell? ⟨FT, i, none⟩ = some (.int .i64 (fit.getD i 0)) := by rw [HO.out.cellAt i (by omega), ints_get fit i (by omega)]
      have ff := HO.out.frozenAt i
      have HBK := hide hbk
      have HST : Hid (∀ d, ((wr.drewN d).setCell ⟨FT, i, none⟩ (.int .i64 (t : Int))).ownsRow bs 3 1 (.slice (some ⟨FT, 0, none⟩) n n) n (ints (fit.set i (t : Int)))) := hide fun d => by
        have := (g_own HO.out (below_drewN (Below.refl _ wr) d)).stored i (.int .i64 (t : Int))
        rw [ints_set] at this
        exact this.1
      have HG2 : Hid (∀ d, W1.grownBy ((wr.drewN d).setCell ⟨FT, i, none⟩ (.int .i64 (t : Int))) (some FT)) := hide fun d => by
        have st2 := (HO.out.stored i (.int .i64 (t : Int))).2
        exact ⟨st2.os.trans HG.out.os, st2.tape.trans HG.out.tape, st2.output.trans HG.out.output, Nat.le_trans HG.out.size st2.size, fun b hb hne => (st2.block b (Nat.lt_of_lt_of_le hb HG.out.size) hne).trans (HG.out.block b hb hne)⟩
      generalize fit.getD i 0 = z at cf HBK
      have t0 : (0 : Int) ≤ (t : Int) := by omega
      have t1 : (t : Int) < 10 := by omega
      have i0 : (0 : Int) ≤ (i : Int) := by omega
      have i1 : (i : Int) < (n : Int) := by omega
      have hne : ((t : Int) != -1) = true := by simp
      clear A2 hyt hbk HBk HO HG
      go_wp2_with fail
      go_region
      go_wp2_with fail
      go_roundg k'
      case measure => omega
      case rel => exact ⟨z, fit.set i (t : Int), rfl, by simpa using hfl, HBK, hide (HST.out 1), hide (HG2.out 1)⟩
end Go.Proofs.Ytcniegaogdggaaa
