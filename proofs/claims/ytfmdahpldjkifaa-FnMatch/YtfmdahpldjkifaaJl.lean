/-
  What slices.Repeat answers for one number; what matchingOf and MatchLoads of the program answer.
-/
import Derived.Test.YtfmdahpldjkifaaShelf
import Derived.Test.YtfmdahpldjkifaaJi
import Derived.Test.YtfmdahpldjkifaaJk
import Derived.Laws.CopyRow
import Derived.Deep.RegionLaw
namespace Go.Proofs.Ytfmdahpldjkifaa
open Go.RowKit

/-- The first k of n are -1. -/
def mixN (n k : Nat) : List Int := List.replicate k (-1) ++ List.replicate (n - k) 0
theorem mixN_len (n k : Nat) (h : k ≤ n) : (mixN n k).length = n := by simp [mixN]; omega
theorem mixN_zero (n : Nat) : mixN n 0 = List.replicate n 0 := by simp [mixN]
theorem mixN_all (n : Nat) : mixN n n = Ma.none8 n := by simp [mixN, Ma.none8]
theorem mixN_get {n k j : Nat} (h : j < k) (hk : k ≤ n) : (ints (mixN n k))[j]? = some (.int .i64 (-1)) := by
  rw [ints_get _ j (by rw [mixN_len n k hk]; omega)]
  simp [mixN, List.getElem?_append, h]
theorem mixN_copy {n k j : Nat} (_hj : k + j ≤ n) : (ints (mixN n k)).take k ++ ints (List.replicate j (-1)) ++ (ints (mixN n k)).drop (k + j) = ints (mixN n (k + j)) := by
  have e1 : (ints (mixN n k)).take k = ints (List.replicate k (-1)) := by simp [mixN, ints]
  have e2 : (ints (mixN n k)).drop (k + j) = ints (List.replicate (n - (k + j)) 0) := by
    unfold ints mixN
    rw [← List.map_drop, List.drop_append, List.drop_of_length_le (by simp)]
    simp; omega
  rw [e1, e2]
  unfold mixN ints
  rw [← List.map_append, ← List.map_append, List.replicate_append_replicate]
theorem step_copy_run {P : Program} {w : World} {ops : Array Oper} {o : Oper} {a : Act} {K : Act → World → Prop} {Q : Exit → Act → World → Prop} {E : Prop} (hgd : o.guard = none) (d s : Operand) (t t' : TypeId)
    (ho : o.op = .call { callee := .builtin .copy, args := #[d, s], argTypes := #[t, t'] }) (vd vs : Value) (hd : a.eval d = vd) (hs : a.eval s = vs)
    (v' : Value) (w' : World) (hr : (Builtin.copy_ #[t, t'] o.type #[vd, vs]).run P w = .ok v' w') (h : K (a.put o.dst v') w') :
    if Region.wanted o (yielded ops a.tmps) = true then Oper.wp P o a w K Q else E := by
  have hw : Region.wanted o (yielded ops a.tmps) = true := by simp [Region.wanted, hgd]
  rw [if_pos hw]
  unfold Oper.wp execOp
  simp only [ho, resolve, invoke, builtin, Sem.run_bind, Sem.run_pure, Result.andThen_ok, List.map_toArray, List.map_cons, List.map_nil, hd, hs, hr]
  exact h
theorem wpList_copy_run8 {P : Program} {w : World} {ops : Array Oper} {rest : List Oper} {o : Oper} {a : Act} {Q : Exit → Act → World → Prop} (hgd : o.guard = none) (d s : Operand) (t t' : TypeId)
    (ho : o.op = .call { callee := .builtin .copy, args := #[d, s], argTypes := #[t, t'] }) (vd vs : Value) (hd : a.eval d = vd) (hs : a.eval s = vs)
    (v' : Value) (w' : World) (hr : (Builtin.copy_ #[t, t'] o.type #[vd, vs]).run P w = .ok v' w') (h : wpList P ops Q rest (a.put o.dst v') w') : wpList P ops Q (o :: rest) a w := by
  refine wpList_plain hgd fun _ hK => ?_
  unfold Oper.wp execOp
  simp only [ho, resolve, invoke, builtin, Sem.run_bind, Sem.run_pure, Result.andThen_ok, List.map_toArray, List.map_cons, List.map_nil, hd, hs, hr]
  exact hK _ _ h
/-- What is copied from the front of a list to behind it, or from another list. -/
theorem cp_own {w : World} {base X n k j : Nat} {a : Addr} {sL sC : Nat} (hj : k + j ≤ n) (hmin : j = Nat.min sL (n - k)) (hX : w.ownsRow base 3 1 (.slice (some ⟨X, 0, none⟩) n n) n (ints (mixN n k))) (hs : ∀ i, i < j → w.cell? (a.add i) = some (.int .i64 (-1))) :
    ∃ w', (∀ ty, (Builtin.copy_ #[25, 25] ty #[.slice (some ⟨X, k, none⟩) (n - k) (n - k), .slice (some a) sL sC]).run Try.prog w = .ok (.int .i64 (j : Int)) w') ∧ w'.ownsRow base 3 1 (.slice (some ⟨X, 0, none⟩) n n) n (ints (mixN n (k + j))) ∧ w.grownBy w' (some X) := by
  rcases hX.2 with ⟨h, _⟩ | ⟨g, cap, cur, hv, hb, hg, hnc, hcm, hcs, htake⟩
  · cases h
  cases hv
  have hsz : (Try.prog.info? 3).map (·.size) = some 1 := by kernel_rfl
  have hl : (ints (List.replicate j (-1))).length = j := by simp [ints]
  have hrun := fun ty => run_copy_row (P := Try.prog) w 25 25 ty 3 X k (n - k) (n - k) a sL sC cur 3 (ints (List.replicate j (-1))) Try.underlying25 hsz hg (by rw [hl]; exact hmin) (fun i v hi => by
    have hij : i < j := by have := (List.getElem?_eq_some_iff.1 hi).1; omega
    have : v = .int .i64 (-1) := by simpa [ints, hij] using hi.symm
    rw [this]; exact hs i hij) (by rw [hl]; omega) (c_ints _)
  have hcur : cur.toList = ints (mixN n k) := by
    rw [← htake, List.take_of_length_le (by simp; omega)]
  rw [hl, hcur, mixN_copy hj] at hrun
  refine ⟨w.setRow X (ints (mixN n (k + j))).toArray, hrun, ⟨by simp [ints, mixN_len n (k + j) hj], .inr ⟨X, n, _, rfl, hb, setRow_heap w X _ _ _ _ hg, hnc, hcm, ?_, ?_⟩⟩, ⟨rfl, rfl, rfl, by simp [World.setRow], fun k _ hne => setRow_other w X k _ (by simpa using hne)⟩⟩
  · simp [ints, mixN_len n (k + j) hj]
  · rw [List.take_of_length_le (by simp [ints, mixN_len n (k + j) hj])]
theorem mul_c (n : Nat) (hn : n ≤ 8) (w : World) : Calls Try.prog 54 #[.int .u64 1, .int .u64 (n : Int)] w fun e w' => e = .returned (.tuple #[.int .u64 0, .int .u64 (n : Int)]) ∧ w' = w := by
  have := Try.bits_Mul 1 n (by omega) (by omega) w
  rw [Nat.one_mul, Nat.div_eq_of_lt (by omega), Nat.mod_eq_of_lt (by omega)] at this
  exact this
set_option maxRecDepth 20000 in
set_option maxHeartbeats 400000 in
theorem rp_any {B n : Nat} {w : World} (hn : n ≤ 8) (hc : w.cell? ⟨B, 0, none⟩ = some (.int .i64 (-1))) (hB : B < w.heap.size) :
    Calls Try.prog 46 #[.slice (some ⟨B, 0, none⟩) 1 1, .int .i64 (n : Int)] w fun e w' => e = .returned (.slice (some ⟨w.heap.size, 0, none⟩) n n) ∧ Below w.heap.size w w' ∧ w'.ownsRow w.heap.size 3 1 (.slice (some ⟨w.heap.size, 0, none⟩) n n) n (ints (Ma.none8 n)) := by
  have h1 : IntKind.u64.wrap (n : Int) = (n : Int) := by rw [IntKind.wrap_u64]; omega
  have h2 : IntKind.i64.wrap (n : Int) = (n : Int) := by rw [IntKind.wrap_i64]; omega
  have h3 : ¬ (9223372036854775807 : Int) < (n : Int) := by omega
  have h4 : ¬ (n : Int) < 0 := by omega
  have hmk := makeI_run n (by omega)
  have hM := made_own w n (by omega)
  rw [← mixN_zero] at hM
  have hcn : (w.alloc (.cells (madeCells #[.int .i64 0] n) 3)).cell? ⟨B, 0, none⟩ = some (.int .i64 (-1)) := ((below_new w _).cell (p := ⟨B, 0, none⟩) hB).trans hc
  obtain ⟨j0, hj0, hj1⟩ : ∃ j0, j0 = Nat.min 1 (n - 0) ∧ 0 + j0 ≤ n := ⟨_, rfl, by simp only [Nat.min_def]; split <;> omega⟩
  have hj2 : n = 0 ∨ 1 ≤ j0 := by simp only [Nat.min_def] at hj0; split at hj0 <;> omega
  obtain ⟨w1, hr1, own1, hg1⟩ := cp_own (a := ⟨B, 0, none⟩) (sL := 1) (sC := 1) hj1 hj0 hM (fun i hi => by
    have : i = 0 := by simp only [Nat.min_def] at hj0; split at hj0 <;> omega
    subst this
    rw [add_plain']; exact hcn)
  simp only [Nat.zero_add, Nat.sub_zero] at hr1 own1
  have HB1 := hide ((below_new w (.cells (madeCells #[.int .i64 0] n) 3)).trans (grown_below' hg1 (Nat.le_refl _) (by simp)))
  have HO1 := hide own1
  have HJ := hide hj2
  clear own1 hg1 hM hc hcn hj0 hj2
  go_enter Try.func46, Try.ntmps46
  go_wp2_with fail
  refine (mul_c n hn _).mono ?_
  rintro e w0 ⟨rfl, hw0⟩
  obtain rfl : w = w0 := hw0.symm
  go_wp2_with (first | (at_builtin; refine wpList_copy_run8 rfl _ _ _ _ rfl _ _ rfl rfl _ _ (hr1 _) ?_))
  clear hr1 hmk h1 h2 h4
  go_loopw [8] (fun s8 wr => ∃ (k : Nat), s8 = .int .i64 k ∧ k ≤ n ∧ Hid (n = 0 ∨ 1 ≤ k) ∧ Hid (wr.ownsRow w.heap.size 3 1 (.slice (some ⟨w.heap.size, 0, none⟩) n n) n (ints (mixN n k))) ∧ Hid (Below w.heap.size w wr)) (fun s _ => n - (intOf s).toNat)
  case atStart => exact ⟨j0, rfl, by omega, HJ, HO1, HB1⟩
  case round =>
    clear HO1 HB1 HJ
    obtain ⟨k, rfl, hk, HJ, HO, HB⟩ := hrel
    by_cases hlt : k < n
    · have k1 : 1 ≤ k := by have := HJ.out; omega
      have i0 : (0 : Int) ≤ (k : Int) := by omega
      have i1 : (k : Int) < (n : Int) := by omega
      have i2 : (k : Int) ≤ (n : Int) := by omega
      have i3 : ¬ k = n := by omega
      have i5 : ¬ n = k := by omega
      have i4 : ¬ (k : Int) = (n : Int) := by omega
      obtain ⟨j, hj, hj1⟩ : ∃ j, j = Nat.min k (n - k) ∧ k + j ≤ n := ⟨_, rfl, by simp only [Nat.min_def]; split <;> omega⟩
      have hj2 : 1 ≤ j := by simp only [Nat.min_def] at hj; split at hj <;> omega
      have hjk : j ≤ k := by simp only [Nat.min_def] at hj; split at hj <;> omega
      obtain ⟨w2, hr2, own2, hg2⟩ := cp_own (w := wr.drew) (a := ⟨w.heap.size, 0, none⟩) (sL := k) (sC := n) hj1 hj HO.out.drew (fun i hi => by
        rw [add_plain', Nat.zero_add, HO.out.drew.cellAt i (by omega)]
        exact mixN_get (by omega) hk)
      have HO2 := hide own2
      have HB2 := hide (HB.out.trans (grown_below' (w := wr) ⟨hg2.os, hg2.tape, hg2.output, hg2.size, hg2.block⟩ (Nat.le_refl _) HB.out.size))
      have w1 : IntKind.i64.wrap ((k : Int) + (j : Int)) = (k : Int) + (j : Int) := by rw [IntKind.wrap_i64]; omega
      have HR2 : Hid (∀ ty, (Builtin.copy_ #[25, 25] ty #[.slice (if n = k then some ⟨w.heap.size, 0, none⟩ else some ⟨w.heap.size, k, none⟩) (n - k) (n - k), .slice (some ⟨w.heap.size, 0, none⟩) k n]).run Try.prog wr.drew = .ok (.int .i64 (j : Int)) w2) := hide fun ty => by rw [if_neg i5]; exact hr2 ty
      clear own2 hg2 hj hr2 i5 i3
      go_wp2_with fail
      go_region_law ((refine step_copy_run (w := wr.drew) (by rfl) (.tmp 41) (.tmp 44) 25 25 (by rfl) (.slice (if n = k then some ⟨w.heap.size, 0, none⟩ else some ⟨w.heap.size, k, none⟩) (n - k) (n - k)) (.slice (some ⟨w.heap.size, 0, none⟩) k n) (by simp [go_sem]) (by simp [go_sem]) (.int .i64 (j : Int)) w2 (HR2.out _) ?_))
      go_wp2_with fail
      go_roundw
      case rel => exact ⟨k + j, by go_num, hj1, (by show n = 0 ∨ 1 ≤ k + j; omega), HO2⟩
      case measure => simp only [intOf]; omega
    · have hke : k = n := by omega
      subst hke
      have HF : Hid (wr.ownsRow w.heap.size 3 1 (.slice (some ⟨w.heap.size, 0, none⟩) k k) k (ints (Ma.none8 k))) := hide (by rw [← mixN_all]; exact HO.out)
      go_wp2_with fail
      go_ret
      exact ⟨rfl, HB.out, HF.out⟩
theorem own_below8 {w w' : World} {base e s n : Nat} {v : Value} {xs : List Value} (h : w.ownsRow base e s v n xs) (hb : Below w.heap.size w w') : w'.ownsRow base e s v n xs := g_own h hb
theorem wrow_at {w : World} {base n : Nat} {v : Value} {ws : List (Int × Int)} (hn : ws.length = n) (h : w.ownsRow base 66 2 v n (wc ws)) : ∃ a cap, v = .slice a n cap ∧ n ≤ maxLen ∧ ∀ i, i < n → ∃ g, a = some ⟨g, 0, none⟩ ∧ base ≤ g ∧ g < w.heap.size ∧ w.cell? ⟨g, i * 2, none⟩ = some (.int .i64 (ws.getD i (0, 0)).1) ∧ w.cell? ⟨g, i * 2 + 1, none⟩ = some (.int .i64 (ws.getD i (0, 0)).2) := by
  rcases h.2 with ⟨rfl, h0⟩ | ⟨g, cap, cur, rfl, hb, hg, hc, hm, _⟩
  · subst h0; exact ⟨none, 0, rfl, Nat.zero_le _, fun i hi => absurd hi (Nat.not_lt_zero _)⟩
  · refine ⟨_, _, rfl, Nat.le_trans hc hm, fun i hi => ⟨g, rfl, hb, (Array.getElem?_eq_some_iff.1 hg).1, ?_⟩⟩
    obtain ⟨e1, e2⟩ := wc_get ws i (by omega)
    rw [h.cellAt (i * 2) (by omega), h.cellAt (i * 2 + 1) (by omega)]
    exact ⟨e1, e2⟩
theorem upd_take (m : List Int) (w : List (Nat × Nat)) (i : Nat) (hi : i < w.length) : Ma.upd m (w.take (i + 1)) = (Ma.upd m (w.take i)).set (w.getD i (0, 0)).1 ((w.getD i (0, 0)).2 : Int) := by
  unfold Ma.upd
  rw [List.take_add_one, List.getElem?_eq_getElem hi, Option.toList_some, List.foldl_append, Pf.getD_lt w (0, 0) hi]
  rfl
theorem next_upd (F : List (List Bool)) (s : List Int × List Int) (l : Nat) : (Ma.next F s l).1 = Ma.upd s.1 ((Ma.look F s.2 l).getD []) := by
  unfold Ma.next
  cases Ma.look F s.2 l <;> rfl
theorem look_lt {F : List (List Bool)} {k : Nat} {s : List Int × List Int} (hk : k < F.length) (h : Ma.Inv F k s.1 s.2) : ∀ p ∈ (Ma.look F s.2 k).getD [], p.1 < F.length := fun p hp => by
  have R := Ma.srch_res F s.2 9 k (List.replicate (Ma.bins F) false) (by simp)
  unfold Ma.look at hp
  generalize Ma.srch F s.2 9 k (List.replicate (Ma.bins F) false) = r at R hp
  obtain ⟨o, t⟩ := r
  cases o with
  | none => simp at hp
  | some w => exact (R.way w rfl).1.lt h.mo hk p hp
set_option maxRecDepth 20000 in
set_option maxHeartbeats 8000000 in
theorem mt_any {a : Option Addr} {n c : Nat} {F : List (List Bool)} {w : World} (hn : F.length = n) (hG : Ma.goodB F = true) (ha : GRow w a F) :
    Calls Try.prog 26 #[.slice a n c] w fun e w' => ∃ X, e = .returned (.slice (some ⟨X, 0, none⟩) n n) ∧ Below w.heap.size w w' ∧ w'.ownsRow w.heap.size 3 1 (.slice (some ⟨X, 0, none⟩) n n) n (ints (Ma.mat F)) := by
  have hM8 := Ma.goodB_bins hG
  have n8 : n ≤ 8 := by rw [← hn]; exact Ma.goodB_len hG
  have HA := hide ha
  have HN := hide hn
  have HINV := hide fun (k : Nat) (hk : k ≤ n) => Ma.inv_upto hM8 k (show k ≤ F.length by rw [hn]; exact hk)
  have HWF := hide fun (k : Nat) (hk : k < n) (W : World) (ao : Option Addr) (d : Nat) (hA : GRow W a F) (hm : ARow W ao (Ma.upto F k).1) => wf_any (w := W) (c := c) (d := d) hn hG (Ma.inv_upto hM8 k (by omega)).mo rfl hk hA hm
  have HLT := hide fun (k : Nat) (hk : k < n) => look_lt (show k < F.length by rw [hn]; exact hk) (Ma.inv_upto hM8 k (by omega))
  have HEND : Hid ((Ma.upto F n).1 = Ma.mat F) := hide (by rw [← hn]; rfl)
  have HZ : Hid ((Ma.upto F 0).1 = Ma.none8 n) := hide (by rw [← hn]; rfl)
  have HRP := hide (rp_any (w := w.alloc (.cells #[.int .i64 (-1)] 3)) (B := w.heap.size) n8 (by simp) (by simp))
  clear hn hG ha hM8
  go_enter Try.func26, Try.ntmps26
  go_wp2_with fail
  refine HRP.out.mono ?_
  rintro e w1 ⟨rfl, hb1, own1⟩
  rw [World.size_alloc] at own1 hb1
  have HO0 : Hid (w1.ownsRow w.heap.size 3 1 (.slice (some ⟨w.heap.size + 1, 0, none⟩) n n) n (ints (Ma.upto F 0).1)) := hide (by rw [HZ.out]; exact owns_low own1 (by omega))
  have HB0 := hide ((below_new w (.cells #[.int .i64 (-1)] 3)).trans (hb1.mono (by omega)))
  rw [World.size_alloc]
  obtain ⟨X, hX⟩ : ∃ X, X = w.heap.size + 1 := ⟨_, rfl⟩
  rw [← hX] at HO0 ⊢
  clear own1 hb1 HRP HZ hX
  go_wp2_with fail
  go_loopw [4, 6, 13] (fun _ _ s wr => ∃ (k : Nat), s = .int .i64 k ∧ k ≤ n ∧ Hid (wr.ownsRow w.heap.size 3 1 (.slice (some ⟨X, 0, none⟩) n n) n (ints (Ma.upto F k).1)) ∧ Hid (Below w.heap.size w wr)) (fun _ _ s _ => n - (intOf s).toNat)
  case atStart => exact ⟨0, rfl, Nat.zero_le _, HO0, HB0⟩
  case round =>
    clear HO0 HB0
    obtain ⟨k, rfl, hk, HO, HB⟩ := hrel
    by_cases hlt : k < n
    · have i0 : (0 : Int) ≤ (k : Int) := by omega
      have i1 : (k : Int) < (n : Int) := by omega
      have HC := hide (HWF.out k hlt wr (some ⟨X, 0, none⟩) n (HA.out.below HB.out) (arow_owns (by rw [(HINV.out k hk).mo.lm, HN.out]) HO.out))
      have HNX := hide (next_upd F (Ma.upto F k) k)
      have HL := hide (HLT.out k hlt)
      have HUL := hide ((HINV.out k hk).mo.lm.trans HN.out)
      have hXl := HO.out.lt X rfl
      generalize hlk : (Ma.look F (Ma.upto F k).2 k).getD [] = lk at HC HNX HL
      clear hlk
      go_wp2_with fail
      refine HC.out.mono ?_
      rintro e w2 ⟨v, rfl, hb2, own2⟩
      have HO2 := hide (own_below8 HO.out hb2)
      obtain ⟨av, cv, rfl, hmx, hcell⟩ := wrow_at (by rw [casts_len]) own2
      unfold maxLen at hmx
      have HCell := hide hcell
      have HB2 := hide (HB.out.trans (hb2.mono HB.out.size))
      have hz2 := hb2.size
      generalize hS1 : wr.heap.size = S1 at *
      clear own2 hcell hb2 HC HO HB
      generalize hlen : lk.length = LN at *
      have HLN := hide hlen
      clear hlen
      have HU0 : Hid (w2.ownsRow w.heap.size 3 1 (.slice (some ⟨X, 0, none⟩) n n) n (ints (Ma.upd (Ma.upto F k).1 (lk.take 0)))) := hide HO2.out
      have HNX' : Hid (Ma.upd (Ma.upto F k).1 lk = (Ma.upto F (k + 1)).1) := hide HNX.out.symm
      generalize (Ma.upto F k).1 = m0 at *
      go_wp2_with fail
      go_loopw [6, 21] (fun _ s wi => ∃ (i : Nat), s = .int .i64 i ∧ i ≤ LN ∧ Hid (wi.ownsRow w.heap.size 3 1 (.slice (some ⟨X, 0, none⟩) n n) n (ints (Ma.upd m0 (lk.take i)))) ∧ Hid (w2.grownBy wi (some X))) (fun _ s _ => LN - (intOf s).toNat)
      case atStart => exact ⟨0, rfl, Nat.zero_le _, HU0, hide (World.grownBy.refl _ _)⟩
      case round =>
        clear HU0
        obtain ⟨i, rfl, hi, HO, HG⟩ := hrel
        by_cases hil : i < LN
        · obtain ⟨g, rfl, hg1, hg2, c1, c2⟩ := HCell.out i hil
          have e1 : ((casts lk).getD i (0, 0)).1 = ((lk.getD i (0, 0)).1 : Int) ∧ ((casts lk).getD i (0, 0)).2 = ((lk.getD i (0, 0)).2 : Int) := by
            have : i < lk.length := by rw [HLN.out]; exact hil
            simp [casts, this]
          rw [e1.1] at c1
          rw [e1.2] at c2
          have d1 : wr.cell? ⟨g, i * 2, none⟩ = some (.int .i64 ((lk.getD i (0, 0)).1 : Int)) := (World.cell?_of_block (w := w2) (a := ⟨g, i * 2, none⟩) (HG.out.block g hg2 (by simp; omega))).trans c1
          have d2 : wr.cell? ⟨g, i * 2 + 1, none⟩ = some (.int .i64 ((lk.getD i (0, 0)).2 : Int)) := (World.cell?_of_block (w := w2) (a := ⟨g, i * 2 + 1, none⟩) (HG.out.block g hg2 (by simp; omega))).trans c2
          have hq : (lk.getD i (0, 0)).1 < n := by
            have h1 : i < lk.length := by rw [HLN.out]; exact hil
            have := HL.out (lk.getD i (0, 0)) (by rw [Pf.getD_lt _ _ h1]; exact List.getElem_mem h1)
            rwa [HN.out] at this
          have HU := hide (upd_take m0 lk i (by rw [HLN.out]; exact hil))
          have hul : (Ma.upd m0 (lk.take i)).length = n := by rw [Ma.upd_len, HUL.out]
          generalize (lk.getD i (0, 0)).1 = q at *
          generalize (lk.getD i (0, 0)).2 = b at *
          have q0 : (0 : Int) ≤ (q : Int) := by omega
          have q1 : (q : Int) < (n : Int) := by omega
          have j0 : (0 : Int) ≤ (i : Int) := by omega
          have j1 : (i : Int) < (LN : Int) := by omega
          have hXw := (HO.out.lt X rfl).2
          have c0 : ∃ x, wr.cell? ⟨X, q, none⟩ = some (.int .i64 x) := ⟨_, by rw [HO.out.cellAt q (by omega), ints_get _ q (by omega)]⟩
          obtain ⟨x, c0⟩ := c0
          have f0 := HO.out.frozenAt q
          have ca : ∀ o, (wr.alloc o).cell? ⟨X, q, none⟩ = some (.int .i64 x) := fun o => ((below_new wr o).cell (p := ⟨X, q, none⟩) hXw).trans c0
          have fa : ∀ o, (wr.alloc o).frozen? ⟨X, q, none⟩ = false := fun o => ((below_new wr o).frozen (p := ⟨X, q, none⟩) hXw).trans f0
          obtain ⟨st1, st2⟩ := HO.out.stored q (.int .i64 (b : Int))
          rw [ints_set, ← HU.out] at st1
          have HST := hide st1
          have HGT : Hid (∀ o, w2.grownBy ((wr.setCell ⟨X, q, none⟩ (.int .i64 (b : Int))).alloc o) (some X)) := hide fun o => by
            have hg := HG.out
            have ha := World.grownBy_alloc (wr.setCell ⟨X, q, none⟩ (.int .i64 (b : Int))) o (some X)
            exact ⟨ha.os.trans (st2.os.trans hg.os), ha.tape.trans (st2.tape.trans hg.tape), ha.output.trans (st2.output.trans hg.output), Nat.le_trans hg.size (Nat.le_trans st2.size ha.size), fun z hz hne => (ha.block z (Nat.lt_of_lt_of_le hz (Nat.le_trans hg.size st2.size)) hne).trans ((st2.block z (Nat.lt_of_lt_of_le hz hg.size) hne).trans (hg.block z hz hne))⟩
          clear c1 c2 e1 st1 st2
          go_wp2_with fail
          go_roundw
          case rel => exact ⟨i + 1, by go_num, by omega, hide (HST.out.alloc _), hide (HGT.out _)⟩
          case measure => simp only [intOf]; omega
        · have hie : i = LN := by omega
          subst hie
          have HF : Hid (wr.ownsRow w.heap.size 3 1 (.slice (some ⟨X, 0, none⟩) n n) n (ints (Ma.upto F (k + 1)).1)) := hide (by
            have := HO.out
            rwa [List.take_of_length_le (by rw [HLN.out]; omega), HNX'.out] at this)
          have HBF := hide (HB2.out.trans (grown_below' HG.out (by omega) HB2.out.size))
          go_wp2_with fail
          go_roundw
          case rel => exact ⟨k + 1, by go_num, by omega, HF, HBF⟩
          case measure => simp only [intOf]; omega
    · have hke : k = n := by omega
      subst hke
      have HF : Hid (wr.ownsRow w.heap.size 3 1 (.slice (some ⟨X, 0, none⟩) k k) k (ints (Ma.mat F))) := hide (by rw [← HEND.out]; exact HO.out)
      go_wp2_with fail
      go_ret
      exact ⟨X, rfl, HB.out, HF.out⟩
set_option maxRecDepth 100000 in
set_option maxHeartbeats 2000000 in
theorem ml_w {a : Option Addr} {n c : Nat} {F : List (List Bool)} {w : World} (hn : F.length = n) (ha : GRow w a F) :
    Calls Try.prog 6 #[.slice a n c] w fun e w' => ∃ v, e = .returned (.tuple #[v, .bool (Ma.goodB F)]) ∧ Below w.heap.size w w' ∧ w'.ownsRow w.heap.size 3 1 v (mtL F).length (ints (mtL F)) := by
  unfold mtL
  have HA := hide ha
  have HN := hide hn
  cases hg : Ma.goodB F
  · have HG := hide hg
    clear ha hn hg
    go_enter Try.func6, Try.ntmps6
    go_wp2_with fail
    refine (gf_eq HN HA HG).mono ?_
    rintro e w1 ⟨rfl, rfl⟩
    go_wp2_with fail
    go_ret2
    exact ⟨_, rfl, Below.refl _ _, World.ownsRow_nil _ _ _ _⟩
  · have HG := hide hg
    have HC := hide (mt_any (c := c) hn hg ha)
    have HL : Hid ((Ma.mat F).length = n) := hide ((Ma.inv_mat hg).mo.lm.trans hn)
    clear ha hn hg
    go_enter Try.func6, Try.ntmps6
    go_wp2_with fail
    refine (gf_eq HN HA HG).mono ?_
    rintro e w1 ⟨rfl, hw1⟩
    obtain rfl : w = w1 := hw1.symm
    go_wp2_with fail
    refine HC.out.mono ?_
    rintro e w1 ⟨X, rfl, hb1, own1⟩
    have HO := hide own1
    clear own1
    go_wp2_with fail
    go_ret2
    refine ⟨_, rfl, hb1, ?_⟩
    show w1.ownsRow _ 3 1 _ (Ma.mat F).length (ints (Ma.mat F))
    rw [HL.out]
    exact HO.out
end Go.Proofs.Ytfmdahpldjkifaa
