/-
  In one: Wn, Wo1, Wo, Wr9, Ws9, LCf9.
-/
import Derived.Test.YtcniegaogdggaaaShelf
import Derived.Test.YtcniegaogdggaaaJl0
import Derived.Test.YtcniegaogdggaaaWm
import Derived.Laws.CopyRow
import Derived.Deep.RegionLaw
import Derived.Test.YtcniegaogdggaaaWo0
import Derived.Test.YtcniegaogdggaaaWq
import Derived.Test.YtcniegaogdggaaaPn
namespace Go.Proofs.Ytcniegaogdggaaa
open Go.RowKit

/-- The first k of n are -1. -/
def mixN (n k : Nat) : List Int := List.replicate k (-1) ++ List.replicate (n - k) 0
theorem mixN_len (n k : Nat) (h : k ≤ n) : (mixN n k).length = n := by simp [mixN]; omega
theorem mixN_zero (n : Nat) : mixN n 0 = List.replicate n 0 := by simp [mixN]
theorem mixN_all (n : Nat) : mixN n n = List.replicate n (-1) := by simp [mixN]
theorem mixN_get {n k j : Nat} (h : j < k) (hk : k ≤ n) : (ints (mixN n k))[j]? = some (.int .i64 (-1)) := by
  rw [ints_get _ j (by rw [mixN_len n k hk]; omega)]
  simp [mixN, List.getElem?_append, h]
theorem mixN_copy {n k j : Nat} (_hj : k + j ≤ n) : (ints (mixN n k)).take k ++ ints (List.replicate j (-1)) ++ (ints (mixN n k)).drop (k + j) = ints (mixN n (k + j)) := by
  have e1 : (ints (mixN n k)).take k = ints (List.replicate k (-1)) := by simp [mixN, ints]
  have e2 : (ints (mixN n k)).drop (k + j) = ints (List.replicate (n - (k + j)) 0) := by
    unfold ints mixN
    rw [← List.map_drop, List.drop_append, List.drop_of_length_le (by simp)]
    simp; omega
  rw [e1, e2]
  unfold mixN ints
  rw [← List.map_append, ← List.map_append, List.replicate_append_replicate]
/-- What is copied from the front of a list to behind it, or from another list. -/
theorem cp_own {w : World} {base X n k j : Nat} {a : Addr} {sL sC : Nat} (hj : k + j ≤ n) (hmin : j = Nat.min sL (n - k)) (hX : w.ownsRow base 3 1 (.slice (some ⟨X, 0, none⟩) n n) n (ints (mixN n k))) (hs : ∀ i, i < j → w.cell? (a.add i) = some (.int .i64 (-1))) :
    ∃ w', (∀ ty, (Builtin.copy_ #[27, 27] ty #[.slice (some ⟨X, k, none⟩) (n - k) (n - k), .slice (some a) sL sC]).run Try.prog w = .ok (.int .i64 (j : Int)) w') ∧ w'.ownsRow base 3 1 (.slice (some ⟨X, 0, none⟩) n n) n (ints (mixN n (k + j))) ∧ w.grownBy w' (some X) := by
  rcases hX.2 with ⟨h, _⟩ | ⟨g, cap, cur, hv, hb, hg, hnc, hcm, hcs, htake⟩
  · cases h
  cases hv
  have hsz : (Try.prog.info? 3).map (·.size) = some 1 := by kernel_rfl
  have hl : (ints (List.replicate j (-1))).length = j := by simp [ints]
  have hrun := fun ty => run_copy_row (P := Try.prog) w 27 27 ty 3 X k (n - k) (n - k) a sL sC cur 3 (ints (List.replicate j (-1))) Try.underlying27 hsz hg (by rw [hl]; exact hmin) (fun i v hi => by
    have hij : i < j := by have := (List.getElem?_eq_some_iff.1 hi).1; omega
    have : v = .int .i64 (-1) := by simpa [ints, hij] using hi.symm
    rw [this]; exact hs i hij) (by rw [hl]; omega) (c_ints _)
  have hcur : cur.toList = ints (mixN n k) := by
    rw [← htake, List.take_of_length_le (by simp; omega)]
  rw [hl, hcur, mixN_copy hj] at hrun
  refine ⟨w.setRow X (ints (mixN n (k + j))).toArray, hrun, ⟨by simp [ints, mixN_len n (k + j) hj], .inr ⟨X, n, _, rfl, hb, setRow_heap w X _ _ _ _ hg, hnc, hcm, ?_, ?_⟩⟩, ⟨rfl, rfl, rfl, by simp [World.setRow], fun k _ hne => setRow_other w X k _ (by simpa using hne)⟩⟩
  · simp [ints, mixN_len n (k + j) hj]
  · rw [List.take_of_length_le (by simp [ints, mixN_len n (k + j) hj])]
theorem mul_c (n : Nat) (hn : n ≤ 10) (w : World) : Calls Try.prog 61 #[.int .u64 1, .int .u64 (n : Int)] w fun e w' => e = .returned (.tuple #[.int .u64 0, .int .u64 (n : Int)]) ∧ w' = w := by
  have := Try.bits_Mul 1 n (by omega) (by omega) w
  rw [Nat.one_mul, Nat.div_eq_of_lt (by omega), Nat.mod_eq_of_lt (by omega)] at this
  exact this
set_option maxRecDepth 20000 in
set_option maxHeartbeats 400000 in
theorem rp_any {B n : Nat} {w : World} (hn : n ≤ 10) (hc : w.cell? ⟨B, 0, none⟩ = some (.int .i64 (-1))) (hB : B < w.heap.size) :
    Calls Try.prog 43 #[.slice (some ⟨B, 0, none⟩) 1 1, .int .i64 (n : Int)] w fun e w' => e = .returned (.slice (some ⟨w.heap.size, 0, none⟩) n n) ∧ Below w.heap.size w w' ∧ w'.ownsRow w.heap.size 3 1 (.slice (some ⟨w.heap.size, 0, none⟩) n n) n (ints (List.replicate n (-1))) := by
  have h1 : IntKind.u64.wrap (n : Int) = (n : Int) := by rw [IntKind.wrap_u64]; omega
  have h2 : IntKind.i64.wrap (n : Int) = (n : Int) := by rw [IntKind.wrap_i64]; omega
  have h3 : ¬ (9223372036854775807 : Int) < (n : Int) := by omega
  have h4 : ¬ (n : Int) < 0 := by omega
  have hmk := makeI_run n (by omega)
  have hM := made_own w n (by omega)
  rw [← mixN_zero] at hM
  have hcn : (w.alloc (.cells (madeCells #[.int .i64 0] n) 3)).cell? ⟨B, 0, none⟩ = some (.int .i64 (-1)) := ((below_new w _).cell (p := ⟨B, 0, none⟩) hB).trans hc
  obtain ⟨j0, hj0, hj1⟩ : ∃ j0, j0 = Nat.min 1 (n - 0) ∧ 0 + j0 ≤ n := ⟨_, rfl, by simp only [Nat.min_def]; split <;> omega⟩
  have hj2 : n = 0 ∨ 1 ≤ j0 := by simp only [Nat.min_def] at hj0; split at hj0 <;> omega
  obtain ⟨w1, hr1, own1, hg1⟩ := cp_own (a := ⟨B, 0, none⟩) (sL := 1) (sC := 1) hj1 hj0 hM (fun i hi => by
    have : i = 0 := by simp only [Nat.min_def] at hj0; split at hj0 <;> omega
    subst this
    rw [add_plain']; exact hcn)
  simp only [Nat.zero_add, Nat.sub_zero] at hr1 own1
  have HB1 := hide ((below_new w (.cells (madeCells #[.int .i64 0] n) 3)).trans (grown_below' hg1 (Nat.le_refl _) (by simp)))
  have HO1 := hide own1
  have HJ := hide hj2
  clear own1 hg1 hM hc hcn hj0 hj2
  go_enter Try.func43, Try.ntmps43
  go_wp2_with fail
  refine (mul_c n hn _).mono ?_
  rintro e w0 ⟨rfl, hw0⟩
  obtain rfl : w = w0 := hw0.symm
  go_wp2_with (first | (at_builtin; refine wpList_copy_run8 rfl _ _ _ _ rfl _ _ rfl rfl _ _ (hr1 _) ?_))
  clear hr1 hmk h1 h2 h4
  go_loopw [8] (fun s8 wr => ∃ (k : Nat), s8 = .int .i64 k ∧ k ≤ n ∧ Hid (n = 0 ∨ 1 ≤ k) ∧ Hid (wr.ownsRow w.heap.size 3 1 (.slice (some ⟨w.heap.size, 0, none⟩) n n) n (ints (mixN n k))) ∧ Hid (Below w.heap.size w wr)) (fun s _ => n - (intOf s).toNat)
  case atStart => exact ⟨j0, rfl, by omega, HJ, HO1, HB1⟩
  case round =>
    clear HO1 HB1 HJ
    obtain ⟨k, rfl, hk, HJ, HO, HB⟩ := hrel
    by_cases hlt : k < n
    · have k1 : 1 ≤ k := by have := HJ.out; omega
      have i0 : (0 : Int) ≤ (k : Int) := by omega
      have i1 : (k : Int) < (n : Int) := by omega
      have i2 : (k : Int) ≤ (n : Int) := by omega
      have i3 : ¬ k = n := by omega
      have i5 : ¬ n = k := by omega
      have i4 : ¬ (k : Int) = (n : Int) := by omega
      obtain ⟨j, hj, hj1⟩ : ∃ j, j = Nat.min k (n - k) ∧ k + j ≤ n := ⟨_, rfl, by simp only [Nat.min_def]; split <;> omega⟩
      have hj2 : 1 ≤ j := by simp only [Nat.min_def] at hj; split at hj <;> omega
      have hjk : j ≤ k := by simp only [Nat.min_def] at hj; split at hj <;> omega
      obtain ⟨w2, hr2, own2, hg2⟩ := cp_own (w := wr.drew) (a := ⟨w.heap.size, 0, none⟩) (sL := k) (sC := n) hj1 hj HO.out.drew (fun i hi => by
        rw [add_plain', Nat.zero_add, HO.out.drew.cellAt i (by omega)]
        exact mixN_get (by omega) hk)
      have HO2 := hide own2
      have HB2 := hide (HB.out.trans (grown_below' (w := wr) ⟨hg2.os, hg2.tape, hg2.output, hg2.size, hg2.block⟩ (Nat.le_refl _) HB.out.size))
      have w1 : IntKind.i64.wrap ((k : Int) + (j : Int)) = (k : Int) + (j : Int) := by rw [IntKind.wrap_i64]; omega
      have HR2 : Hid (∀ ty, (Builtin.copy_ #[27, 27] ty #[.slice (if n = k then some ⟨w.heap.size, 0, none⟩ else some ⟨w.heap.size, k, none⟩) (n - k) (n - k), .slice (some ⟨w.heap.size, 0, none⟩) k n]).run Try.prog wr.drew = .ok (.int .i64 (j : Int)) w2) := hide fun ty => by rw [if_neg i5]; exact hr2 ty
      clear own2 hg2 hj hr2 i5 i3
      go_wp2_with fail
      go_region_law ((refine step_copy_run (w := wr.drew) (by rfl) (.tmp 41) (.tmp 44) 27 27 (by rfl) (.slice (if n = k then some ⟨w.heap.size, 0, none⟩ else some ⟨w.heap.size, k, none⟩) (n - k) (n - k)) (.slice (some ⟨w.heap.size, 0, none⟩) k n) (by simp [go_sem]) (by simp [go_sem]) (.int .i64 (j : Int)) w2 (HR2.out _) ?_))
      go_wp2_with fail
      go_roundw
      case rel => exact ⟨k + j, by go_num, hj1, (by show n = 0 ∨ 1 ≤ k + j; omega), HO2⟩
      case measure => simp only [intOf]; omega
    · have hke : k = n := by omega
      subst hke
      have HF : Hid (wr.ownsRow w.heap.size 3 1 (.slice (some ⟨w.heap.size, 0, none⟩) k k) k (ints (List.replicate k (-1)))) := hide (by rw [← mixN_all]; exact HO.out)
      go_wp2_with fail
      go_ret
      exact ⟨rfl, HB.out, HF.out⟩
end Go.Proofs.Ytcniegaogdggaaa
namespace Go.Proofs.Ytcniegaogdggaaa
open Go.RowKit

/-- The operations of the region that makes the fitting. -/
def ops4 : Array Oper :=
      #[{ dst := some 14, op := Op.move (Operand.tmp 0), type := 22, pos := "l9_assign.go:28", after := #[],
          guard := none },
        { dst := some 15, op := Op.buildSlice 27 1 #[(0, Operand.const (Value.int IntKind.i64 (-1)))], type := 27,
          pos := "l9_assign.go:28", after := #[], guard := none },
        { dst := some 16, op := Op.move (Operand.tmp 5), type := 3, pos := "l9_assign.go:28", after := #[],
          guard := none },
        { dst := some 17,
          op :=
            Op.call
              { callee := Callee.value (Operand.func 43), args := #[Operand.tmp 15, Operand.tmp 16],
                argTypes := #[27, 3] },
          type := 27, pos := "l9_assign.go:30",
          after := #[{ on := 1, ground := Ground.data }, { on := 2, ground := Ground.data }], guard := none },
        { dst := some 18, op := Op.move (Operand.tmp 5), type := 3, pos := "l9_assign.go:28", after := #[],
          guard := none },
        { dst := some 19, op := Op.makeSlice 27 (Operand.tmp 18) (Operand.tmp 18), type := 27, pos := "l9_assign.go:28",
          after := #[{ on := 4, ground := Ground.data }, { on := 4, ground := Ground.data }], guard := none },
        { dst := some 20, op := Op.move (Operand.tmp 5), type := 3, pos := "l9_assign.go:28", after := #[],
          guard := none },
        { dst := some 21, op := Op.makeSlice 27 (Operand.tmp 20) (Operand.tmp 20), type := 27, pos := "l9_assign.go:28",
          after := #[{ on := 6, ground := Ground.data }, { on := 6, ground := Ground.data }], guard := none },
        { dst := some 22, op := Op.build 29 #[(0, Operand.tmp 19), (1, Operand.tmp 21)], type := 29,
          pos := "l9_assign.go:28", after := #[{ on := 5, ground := Ground.data }, { on := 7, ground := Ground.data }],
          guard := none },
        { dst := some 23, op := Op.build 60 #[(0, Operand.tmp 14), (1, Operand.tmp 17), (2, Operand.tmp 22)],
          type := 60, pos := "l9_assign.go:28",
          after :=
            #[{ on := 0, ground := Ground.data }, { on := 3, ground := Ground.data },
              { on := 8, ground := Ground.data }],
          guard := none },
        { dst := some 6, op := Op.alloc 60, type := 0, pos := "l9_assign.go:28", after := #[], guard := none },
        { dst := none, op := Op.store 60 (Operand.tmp 6) (Operand.tmp 23), type := 0, pos := "l9_assign.go:28",
          after :=
            #[{ on := 10, ground := Ground.data }, { on := 9, ground := Ground.data },
              { on := 3, ground := Ground.chain }, { on := 0, ground := Ground.phase },
              { on := 1, ground := Ground.phase }, { on := 2, ground := Ground.phase },
              { on := 3, ground := Ground.phase }, { on := 4, ground := Ground.phase },
              { on := 5, ground := Ground.phase }, { on := 6, ground := Ground.phase },
              { on := 7, ground := Ground.phase }, { on := 8, ground := Ground.phase },
              { on := 9, ground := Ground.phase }, { on := 10, ground := Ground.phase }],
          guard := none }]
set_option maxRecDepth 20000 in
set_option maxHeartbeats 4000000 in
theorem cfd_1_3_5_7_10 {Q : Exit → Act → World → Prop} {w0 W : World} {e : Option Addr} {n ce R B FT PU PV FB : Nat} (_n10 : n ≤ 10) (hQ : Hid (∀ FB FT PU PV B X, CfI w0 X FB e n ce FT PU PV (List.replicate n (-1)) (List.replicate n 0) (List.replicate n 0) → Q .normal ⟨#[.slice e n ce, undef, .slice none 0 0, .pointer (some ⟨R, 0, none⟩), .bool false, .int .i64 (n : Int), .pointer (some ⟨FB, 0, none⟩), undef, .slice e n ce, .bool true, .bool false, undef, .slice e n ce, .int .i64 (n : Int), .slice e n ce, .slice (some ⟨B, 0, none⟩) 1 1, .int .i64 (n : Int), .slice (some ⟨FT, 0, none⟩) n n, .int .i64 (n : Int), .slice (some ⟨PU, 0, none⟩) n n, .int .i64 (n : Int), .slice (some ⟨PV, 0, none⟩) n n, .agg #[.slice (some ⟨PU, 0, none⟩) n n, .slice (some ⟨PV, 0, none⟩) n n], .agg (fv e n ce FT PU PV), undef, undef, undef, undef, undef, undef, undef, undef, undef, undef, undef, undef, undef], []⟩ X)) (_HBB : Hid (W.cell? ⟨B, 0, none⟩ = some (.int .i64 (-1)) ∧ B < W.heap.size)) (HFT : Hid (W.ownsRow w0.heap.size 3 1 (.slice (some ⟨FT, 0, none⟩) n n) n (ints (List.replicate n (-1))))) (HPU : Hid (W.ownsRow w0.heap.size 3 1 (.slice (some ⟨PU, 0, none⟩) n n) n (ints (List.replicate n 0)))) (HPV : Hid (W.ownsRow w0.heap.size 3 1 (.slice (some ⟨PV, 0, none⟩) n n) n (ints (List.replicate n 0)))) (HFB : Hid (Z4 W FB ∧ w0.heap.size ≤ FB)) (HBL : Hid (Below w0.heap.size w0 W)) (n3_5 : FT ≠ PU) (n3_7 : FT ≠ PV) (n3_10 : FT ≠ FB) (n5_7 : PU ≠ PV) (n5_10 : PU ≠ FB) (n7_10 : PV ≠ FB) :
    wpAnyH Try.prog .any ops4 (NoPanic Q) (fun _ => True) 1 #[true, true, true, true, true, true, true, true, true, true, true, false] ⟨#[.slice e n ce, undef, .slice none 0 0, .pointer (some ⟨R, 0, none⟩), .bool false, .int .i64 (n : Int), .pointer (some ⟨FB, 0, none⟩), undef, .slice e n ce, .bool true, .bool false, undef, .slice e n ce, .int .i64 (n : Int), .slice e n ce, .slice (some ⟨B, 0, none⟩) 1 1, .int .i64 (n : Int), .slice (some ⟨FT, 0, none⟩) n n, .int .i64 (n : Int), .slice (some ⟨PU, 0, none⟩) n n, .int .i64 (n : Int), .slice (some ⟨PV, 0, none⟩) n n, .agg #[.slice (some ⟨PU, 0, none⟩) n n, .slice (some ⟨PV, 0, none⟩) n n], .agg (fv e n ce FT PU PV), undef, undef, undef, undef, undef, undef, undef, undef, undef, undef, undef, undef, undef], []⟩ W := by
  obtain ⟨z0, z1, z2, z3, y0, y1, y2, y3, z9⟩ := HFB.out.1
  have HCF := hide (CfI.make (e := e) (ce := ce) HFB.out.1 HFT.out HPU.out HPV.out HBL.out n3_5 n3_7 n5_7 (Ne.symm n3_10) (Ne.symm n5_10) (Ne.symm n7_10) HFB.out.2)
  clear HFB HFT HPU HPV HBL
  unfold ops4
  refine wpAnyH_ready (rs := [11]) (by kernel_rfl) (by simp) ?_
  refine AllReadyH.cons (o := ⟨none, _, _, _, _, none⟩) rfl (fun K hK => ?_) AllReadyH.nil
  unfold fv at *
  go_simp
  refine hK.out _ _ trivial (fun _ => ?_)
  clear hK K z0 z1 z2 z3 y0 y1 y2 y3
  refine wpAnyH_done (by kernel_rfl) ?_ _
  exact NoPanic.normal (hQ.out FB FT PU PV B _ HCF.out)
set_option maxRecDepth 20000 in
set_option maxHeartbeats 4000000 in
theorem cfd_1_5_7_10 {Q : Exit → Act → World → Prop} {w0 W : World} {e : Option Addr} {n ce R B PU PV FB : Nat} (n10 : n ≤ 10) (hQ : Hid (∀ FB FT PU PV B X, CfI w0 X FB e n ce FT PU PV (List.replicate n (-1)) (List.replicate n 0) (List.replicate n 0) → Q .normal ⟨#[.slice e n ce, undef, .slice none 0 0, .pointer (some ⟨R, 0, none⟩), .bool false, .int .i64 (n : Int), .pointer (some ⟨FB, 0, none⟩), undef, .slice e n ce, .bool true, .bool false, undef, .slice e n ce, .int .i64 (n : Int), .slice e n ce, .slice (some ⟨B, 0, none⟩) 1 1, .int .i64 (n : Int), .slice (some ⟨FT, 0, none⟩) n n, .int .i64 (n : Int), .slice (some ⟨PU, 0, none⟩) n n, .int .i64 (n : Int), .slice (some ⟨PV, 0, none⟩) n n, .agg #[.slice (some ⟨PU, 0, none⟩) n n, .slice (some ⟨PV, 0, none⟩) n n], .agg (fv e n ce FT PU PV), undef, undef, undef, undef, undef, undef, undef, undef, undef, undef, undef, undef, undef], []⟩ X)) (HBB : Hid (W.cell? ⟨B, 0, none⟩ = some (.int .i64 (-1)) ∧ B < W.heap.size)) (HPU : Hid (W.ownsRow w0.heap.size 3 1 (.slice (some ⟨PU, 0, none⟩) n n) n (ints (List.replicate n 0)))) (HPV : Hid (W.ownsRow w0.heap.size 3 1 (.slice (some ⟨PV, 0, none⟩) n n) n (ints (List.replicate n 0)))) (HFB : Hid (Z4 W FB ∧ w0.heap.size ≤ FB)) (HBL : Hid (Below w0.heap.size w0 W)) (n5_7 : PU ≠ PV) (n5_10 : PU ≠ FB) (n7_10 : PV ≠ FB) :
    wpAnyH Try.prog .any ops4 (NoPanic Q) (fun _ => True) 3 #[true, true, true, false, true, true, true, true, true, false, true, false] ⟨#[.slice e n ce, undef, .slice none 0 0, .pointer (some ⟨R, 0, none⟩), .bool false, .int .i64 (n : Int), .pointer (some ⟨FB, 0, none⟩), undef, .slice e n ce, .bool true, .bool false, undef, .slice e n ce, .int .i64 (n : Int), .slice e n ce, .slice (some ⟨B, 0, none⟩) 1 1, .int .i64 (n : Int), undef, .int .i64 (n : Int), .slice (some ⟨PU, 0, none⟩) n n, .int .i64 (n : Int), .slice (some ⟨PV, 0, none⟩) n n, .agg #[.slice (some ⟨PU, 0, none⟩) n n, .slice (some ⟨PV, 0, none⟩) n n], undef, undef, undef, undef, undef, undef, undef, undef, undef, undef, undef, undef, undef, undef], []⟩ W := by
  have hmk := makeI_run n (by omega)
  unfold ops4
  refine wpAnyH_ready (rs := [3]) (by kernel_rfl) (by simp) ?_
  refine AllReadyH.cons (o := ⟨some 17, _, _, _, _, none⟩) rfl (fun K hK => ?_) (AllReadyH.nil)
  · have l1 := HBB.out.2
    have l5 := (HPU.out.lt PU rfl).2
    have l7 := (HPV.out.lt PV rfl).2
    have l10 := HFB.out.1.lt
    have hsz := HBL.out.size
    go_simp
    refine (rp_any n10 HBB.out.1 HBB.out.2).mono ?_
    rintro e' x1 ⟨rfl, hb', own'⟩
    have HBBn := hide (cm1_below HBB.out hb')
    have HPUn := hide (g_own HPU.out hb')
    have HPVn := hide (g_own HPV.out hb')
    have HFBn := hide ((⟨HFB.out.1.below hb', HFB.out.2⟩ : _ ∧ _))
    have HBLn := hide (HBL.out.trans (hb'.mono HBL.out.size))
    have HFTn : Hid (x1.ownsRow w0.heap.size 3 1 (.slice (some ⟨W.heap.size, 0, none⟩) n n) n (ints (List.replicate n (-1)))) := hide (own_low9 own' HBL.out.size)
    refine hK.out _ _ trivial (fun _ => ?_)
    clear hK K hb' own'
    clear HBL HBB HPU HPV HFB hmk
    simp only [List.setIfInBounds_toArray, List.set_cons_zero, List.set_cons_succ]
    refine wpAnyH_take (i := 9) (oi := ⟨some 23, _, _, _, _, none⟩) (v := .agg (fv e n ce W.heap.size PU PV)) rfl (by kernel_rfl) (by kernel_rfl) (by kernel_rfl) (fun _ _ _ h => h) (Or.inl ⟨by rfl, fun w' hSw => by clear hSw; unfold fv; go_simp⟩) trivial ?_
    simp only [Act.put, List.setIfInBounds_toArray, List.set_cons_zero, List.set_cons_succ]
    exact cfd_1_3_5_7_10 n10 hQ HBBn HFTn HPUn HPVn HFBn HBLn (by omega) (by omega) (by omega) n5_7 n5_10 n7_10
set_option maxRecDepth 20000 in
set_option maxHeartbeats 4000000 in
theorem cfd_1_3_5_7 {Q : Exit → Act → World → Prop} {w0 W : World} {e : Option Addr} {n ce R B FT PU PV : Nat} (n10 : n ≤ 10) (hQ : Hid (∀ FB FT PU PV B X, CfI w0 X FB e n ce FT PU PV (List.replicate n (-1)) (List.replicate n 0) (List.replicate n 0) → Q .normal ⟨#[.slice e n ce, undef, .slice none 0 0, .pointer (some ⟨R, 0, none⟩), .bool false, .int .i64 (n : Int), .pointer (some ⟨FB, 0, none⟩), undef, .slice e n ce, .bool true, .bool false, undef, .slice e n ce, .int .i64 (n : Int), .slice e n ce, .slice (some ⟨B, 0, none⟩) 1 1, .int .i64 (n : Int), .slice (some ⟨FT, 0, none⟩) n n, .int .i64 (n : Int), .slice (some ⟨PU, 0, none⟩) n n, .int .i64 (n : Int), .slice (some ⟨PV, 0, none⟩) n n, .agg #[.slice (some ⟨PU, 0, none⟩) n n, .slice (some ⟨PV, 0, none⟩) n n], .agg (fv e n ce FT PU PV), undef, undef, undef, undef, undef, undef, undef, undef, undef, undef, undef, undef, undef], []⟩ X)) (HBB : Hid (W.cell? ⟨B, 0, none⟩ = some (.int .i64 (-1)) ∧ B < W.heap.size)) (HFT : Hid (W.ownsRow w0.heap.size 3 1 (.slice (some ⟨FT, 0, none⟩) n n) n (ints (List.replicate n (-1))))) (HPU : Hid (W.ownsRow w0.heap.size 3 1 (.slice (some ⟨PU, 0, none⟩) n n) n (ints (List.replicate n 0)))) (HPV : Hid (W.ownsRow w0.heap.size 3 1 (.slice (some ⟨PV, 0, none⟩) n n) n (ints (List.replicate n 0)))) (HBL : Hid (Below w0.heap.size w0 W)) (n3_5 : FT ≠ PU) (n3_7 : FT ≠ PV) (n5_7 : PU ≠ PV) :
    wpAnyH Try.prog .any ops4 (NoPanic Q) (fun _ => True) 2 #[true, true, true, true, true, true, true, true, true, true, false, false] ⟨#[.slice e n ce, undef, .slice none 0 0, .pointer (some ⟨R, 0, none⟩), .bool false, .int .i64 (n : Int), undef, undef, .slice e n ce, .bool true, .bool false, undef, .slice e n ce, .int .i64 (n : Int), .slice e n ce, .slice (some ⟨B, 0, none⟩) 1 1, .int .i64 (n : Int), .slice (some ⟨FT, 0, none⟩) n n, .int .i64 (n : Int), .slice (some ⟨PU, 0, none⟩) n n, .int .i64 (n : Int), .slice (some ⟨PV, 0, none⟩) n n, .agg #[.slice (some ⟨PU, 0, none⟩) n n, .slice (some ⟨PV, 0, none⟩) n n], .agg (fv e n ce FT PU PV), undef, undef, undef, undef, undef, undef, undef, undef, undef, undef, undef, undef, undef], []⟩ W := by
  have hmk := makeI_run n (by omega)
  unfold ops4
  refine wpAnyH_ready (rs := [10]) (by kernel_rfl) (by simp) ?_
  refine AllReadyH.cons (o := ⟨some 6, _, _, _, _, none⟩) rfl (fun K hK => ?_) (AllReadyH.nil)
  · have l1 := HBB.out.2
    have l3 := (HFT.out.lt FT rfl).2
    have l5 := (HPU.out.lt PU rfl).2
    have l7 := (HPV.out.lt PV rfl).2
    have hsz := HBL.out.size
    have hb' := below_new W (.cells #[.slice none 0 0, .slice none 0 0, .slice none 0 0, .slice none 0 0] 60)
    have HBBn := hide (cm1_below HBB.out hb')
    have HFTn := hide (g_own HFT.out hb')
    have HPUn := hide (g_own HPU.out hb')
    have HPVn := hide (g_own HPV.out hb')
    have HBLn := hide (HBL.out.trans (hb'.mono HBL.out.size))
    have HFBn := hide (⟨Z4.new W 60, hsz⟩ : _ ∧ _)
    go_simp
    refine hK.out _ _ trivial (fun _ => ?_)
    clear hK K hb'
    clear HBL HBB HFT HPU HPV hmk
    exact cfd_1_3_5_7_10 n10 hQ HBBn HFTn HPUn HPVn HFBn HBLn n3_5 n3_7 (by omega) n5_7 (by omega) (by omega)
set_option maxRecDepth 20000 in
set_option maxHeartbeats 4000000 in
theorem cfd_1_3_5_10 {Q : Exit → Act → World → Prop} {w0 W : World} {e : Option Addr} {n ce R B FT PU FB : Nat} (n10 : n ≤ 10) (hQ : Hid (∀ FB FT PU PV B X, CfI w0 X FB e n ce FT PU PV (List.replicate n (-1)) (List.replicate n 0) (List.replicate n 0) → Q .normal ⟨#[.slice e n ce, undef, .slice none 0 0, .pointer (some ⟨R, 0, none⟩), .bool false, .int .i64 (n : Int), .pointer (some ⟨FB, 0, none⟩), undef, .slice e n ce, .bool true, .bool false, undef, .slice e n ce, .int .i64 (n : Int), .slice e n ce, .slice (some ⟨B, 0, none⟩) 1 1, .int .i64 (n : Int), .slice (some ⟨FT, 0, none⟩) n n, .int .i64 (n : Int), .slice (some ⟨PU, 0, none⟩) n n, .int .i64 (n : Int), .slice (some ⟨PV, 0, none⟩) n n, .agg #[.slice (some ⟨PU, 0, none⟩) n n, .slice (some ⟨PV, 0, none⟩) n n], .agg (fv e n ce FT PU PV), undef, undef, undef, undef, undef, undef, undef, undef, undef, undef, undef, undef, undef], []⟩ X)) (HBB : Hid (W.cell? ⟨B, 0, none⟩ = some (.int .i64 (-1)) ∧ B < W.heap.size)) (HFT : Hid (W.ownsRow w0.heap.size 3 1 (.slice (some ⟨FT, 0, none⟩) n n) n (ints (List.replicate n (-1))))) (HPU : Hid (W.ownsRow w0.heap.size 3 1 (.slice (some ⟨PU, 0, none⟩) n n) n (ints (List.replicate n 0)))) (HFB : Hid (Z4 W FB ∧ w0.heap.size ≤ FB)) (HBL : Hid (Below w0.heap.size w0 W)) (n3_5 : FT ≠ PU) (n3_10 : FT ≠ FB) (n5_10 : PU ≠ FB) :
    wpAnyH Try.prog .any ops4 (NoPanic Q) (fun _ => True) 4 #[true, true, true, true, true, true, true, false, false, false, true, false] ⟨#[.slice e n ce, undef, .slice none 0 0, .pointer (some ⟨R, 0, none⟩), .bool false, .int .i64 (n : Int), .pointer (some ⟨FB, 0, none⟩), undef, .slice e n ce, .bool true, .bool false, undef, .slice e n ce, .int .i64 (n : Int), .slice e n ce, .slice (some ⟨B, 0, none⟩) 1 1, .int .i64 (n : Int), .slice (some ⟨FT, 0, none⟩) n n, .int .i64 (n : Int), .slice (some ⟨PU, 0, none⟩) n n, .int .i64 (n : Int), undef, undef, undef, undef, undef, undef, undef, undef, undef, undef, undef, undef, undef, undef, undef, undef], []⟩ W := by
  have hmk := makeI_run n (by omega)
  unfold ops4
  refine wpAnyH_ready (rs := [7]) (by kernel_rfl) (by simp) ?_
  refine AllReadyH.cons (o := ⟨some 21, _, _, _, _, none⟩) rfl (fun K hK => ?_) (AllReadyH.nil)
  · have l1 := HBB.out.2
    have l3 := (HFT.out.lt FT rfl).2
    have l5 := (HPU.out.lt PU rfl).2
    have l10 := HFB.out.1.lt
    have hsz := HBL.out.size
    have hb' := below_new W (.cells (madeCells #[.int .i64 0] n) 3)
    have HBBn := hide (cm1_below HBB.out hb')
    have HFTn := hide (g_own HFT.out hb')
    have HPUn := hide (g_own HPU.out hb')
    have HFBn := hide ((⟨HFB.out.1.below hb', HFB.out.2⟩ : _ ∧ _))
    have HBLn := hide (HBL.out.trans (hb'.mono HBL.out.size))
    have HPVn : Hid ((W.alloc (.cells (madeCells #[.int .i64 0] n) 3)).ownsRow w0.heap.size 3 1 (.slice (some ⟨W.heap.size, 0, none⟩) n n) n (ints (List.replicate n 0))) := hide (own_low9 (made_own W n (by omega)) HBL.out.size)
    go_simp
    refine hK.out _ _ trivial (fun _ => ?_)
    clear hK K hb'
    clear HBL HBB HFT HPU HFB hmk
    simp only [List.setIfInBounds_toArray, List.set_cons_zero, List.set_cons_succ]
    refine wpAnyH_take (i := 8) (oi := ⟨some 22, _, _, _, _, none⟩) (v := .agg #[.slice (some ⟨PU, 0, none⟩) n n, .slice (some ⟨W.heap.size, 0, none⟩) n n]) rfl (by kernel_rfl) (by kernel_rfl) (by kernel_rfl) (fun _ _ _ h => h) (Or.inl ⟨by rfl, fun w' hSw => by clear hSw; go_simp⟩) trivial ?_
    simp only [Act.put, List.setIfInBounds_toArray, List.set_cons_zero, List.set_cons_succ]
    refine wpAnyH_take (i := 9) (oi := ⟨some 23, _, _, _, _, none⟩) (v := .agg (fv e n ce FT PU W.heap.size)) rfl (by kernel_rfl) (by kernel_rfl) (by kernel_rfl) (fun _ _ _ h => h) (Or.inl ⟨by rfl, fun w' hSw => by clear hSw; unfold fv; go_simp⟩) trivial ?_
    simp only [Act.put, List.setIfInBounds_toArray, List.set_cons_zero, List.set_cons_succ]
    exact cfd_1_3_5_7_10 n10 hQ HBBn HFTn HPUn HPVn HFBn HBLn n3_5 (by omega) n3_10 (by omega) n5_10 (by omega)
set_option maxRecDepth 20000 in
set_option maxHeartbeats 4000000 in
theorem cfd_1_3_7_10 {Q : Exit → Act → World → Prop} {w0 W : World} {e : Option Addr} {n ce R B FT PV FB : Nat} (n10 : n ≤ 10) (hQ : Hid (∀ FB FT PU PV B X, CfI w0 X FB e n ce FT PU PV (List.replicate n (-1)) (List.replicate n 0) (List.replicate n 0) → Q .normal ⟨#[.slice e n ce, undef, .slice none 0 0, .pointer (some ⟨R, 0, none⟩), .bool false, .int .i64 (n : Int), .pointer (some ⟨FB, 0, none⟩), undef, .slice e n ce, .bool true, .bool false, undef, .slice e n ce, .int .i64 (n : Int), .slice e n ce, .slice (some ⟨B, 0, none⟩) 1 1, .int .i64 (n : Int), .slice (some ⟨FT, 0, none⟩) n n, .int .i64 (n : Int), .slice (some ⟨PU, 0, none⟩) n n, .int .i64 (n : Int), .slice (some ⟨PV, 0, none⟩) n n, .agg #[.slice (some ⟨PU, 0, none⟩) n n, .slice (some ⟨PV, 0, none⟩) n n], .agg (fv e n ce FT PU PV), undef, undef, undef, undef, undef, undef, undef, undef, undef, undef, undef, undef, undef], []⟩ X)) (HBB : Hid (W.cell? ⟨B, 0, none⟩ = some (.int .i64 (-1)) ∧ B < W.heap.size)) (HFT : Hid (W.ownsRow w0.heap.size 3 1 (.slice (some ⟨FT, 0, none⟩) n n) n (ints (List.replicate n (-1))))) (HPV : Hid (W.ownsRow w0.heap.size 3 1 (.slice (some ⟨PV, 0, none⟩) n n) n (ints (List.replicate n 0)))) (HFB : Hid (Z4 W FB ∧ w0.heap.size ≤ FB)) (HBL : Hid (Below w0.heap.size w0 W)) (n3_7 : FT ≠ PV) (n3_10 : FT ≠ FB) (n7_10 : PV ≠ FB) :
    wpAnyH Try.prog .any ops4 (NoPanic Q) (fun _ => True) 4 #[true, true, true, true, true, false, true, true, false, false, true, false] ⟨#[.slice e n ce, undef, .slice none 0 0, .pointer (some ⟨R, 0, none⟩), .bool false, .int .i64 (n : Int), .pointer (some ⟨FB, 0, none⟩), undef, .slice e n ce, .bool true, .bool false, undef, .slice e n ce, .int .i64 (n : Int), .slice e n ce, .slice (some ⟨B, 0, none⟩) 1 1, .int .i64 (n : Int), .slice (some ⟨FT, 0, none⟩) n n, .int .i64 (n : Int), undef, .int .i64 (n : Int), .slice (some ⟨PV, 0, none⟩) n n, undef, undef, undef, undef, undef, undef, undef, undef, undef, undef, undef, undef, undef, undef, undef], []⟩ W := by
  have hmk := makeI_run n (by omega)
  unfold ops4
  refine wpAnyH_ready (rs := [5]) (by kernel_rfl) (by simp) ?_
  refine AllReadyH.cons (o := ⟨some 19, _, _, _, _, none⟩) rfl (fun K hK => ?_) (AllReadyH.nil)
  · have l1 := HBB.out.2
    have l3 := (HFT.out.lt FT rfl).2
    have l7 := (HPV.out.lt PV rfl).2
    have l10 := HFB.out.1.lt
    have hsz := HBL.out.size
    have hb' := below_new W (.cells (madeCells #[.int .i64 0] n) 3)
    have HBBn := hide (cm1_below HBB.out hb')
    have HFTn := hide (g_own HFT.out hb')
    have HPVn := hide (g_own HPV.out hb')
    have HFBn := hide ((⟨HFB.out.1.below hb', HFB.out.2⟩ : _ ∧ _))
    have HBLn := hide (HBL.out.trans (hb'.mono HBL.out.size))
    have HPUn : Hid ((W.alloc (.cells (madeCells #[.int .i64 0] n) 3)).ownsRow w0.heap.size 3 1 (.slice (some ⟨W.heap.size, 0, none⟩) n n) n (ints (List.replicate n 0))) := hide (own_low9 (made_own W n (by omega)) HBL.out.size)
    go_simp
    refine hK.out _ _ trivial (fun _ => ?_)
    clear hK K hb'
    clear HBL HBB HFT HPV HFB hmk
    simp only [List.setIfInBounds_toArray, List.set_cons_zero, List.set_cons_succ]
    refine wpAnyH_take (i := 8) (oi := ⟨some 22, _, _, _, _, none⟩) (v := .agg #[.slice (some ⟨W.heap.size, 0, none⟩) n n, .slice (some ⟨PV, 0, none⟩) n n]) rfl (by kernel_rfl) (by kernel_rfl) (by kernel_rfl) (fun _ _ _ h => h) (Or.inl ⟨by rfl, fun w' hSw => by clear hSw; go_simp⟩) trivial ?_
    simp only [Act.put, List.setIfInBounds_toArray, List.set_cons_zero, List.set_cons_succ]
    refine wpAnyH_take (i := 9) (oi := ⟨some 23, _, _, _, _, none⟩) (v := .agg (fv e n ce FT W.heap.size PV)) rfl (by kernel_rfl) (by kernel_rfl) (by kernel_rfl) (fun _ _ _ h => h) (Or.inl ⟨by rfl, fun w' hSw => by clear hSw; unfold fv; go_simp⟩) trivial ?_
    simp only [Act.put, List.setIfInBounds_toArray, List.set_cons_zero, List.set_cons_succ]
    exact cfd_1_3_5_7_10 n10 hQ HBBn HFTn HPUn HPVn HFBn HBLn (by omega) n3_7 n3_10 (by omega) (by omega) n7_10
set_option maxRecDepth 20000 in
set_option maxHeartbeats 4000000 in
theorem cfd_5_7_10 {Q : Exit → Act → World → Prop} {w0 W : World} {e : Option Addr} {n ce R PU PV FB : Nat} (n10 : n ≤ 10) (hQ : Hid (∀ FB FT PU PV B X, CfI w0 X FB e n ce FT PU PV (List.replicate n (-1)) (List.replicate n 0) (List.replicate n 0) → Q .normal ⟨#[.slice e n ce, undef, .slice none 0 0, .pointer (some ⟨R, 0, none⟩), .bool false, .int .i64 (n : Int), .pointer (some ⟨FB, 0, none⟩), undef, .slice e n ce, .bool true, .bool false, undef, .slice e n ce, .int .i64 (n : Int), .slice e n ce, .slice (some ⟨B, 0, none⟩) 1 1, .int .i64 (n : Int), .slice (some ⟨FT, 0, none⟩) n n, .int .i64 (n : Int), .slice (some ⟨PU, 0, none⟩) n n, .int .i64 (n : Int), .slice (some ⟨PV, 0, none⟩) n n, .agg #[.slice (some ⟨PU, 0, none⟩) n n, .slice (some ⟨PV, 0, none⟩) n n], .agg (fv e n ce FT PU PV), undef, undef, undef, undef, undef, undef, undef, undef, undef, undef, undef, undef, undef], []⟩ X)) (HPU : Hid (W.ownsRow w0.heap.size 3 1 (.slice (some ⟨PU, 0, none⟩) n n) n (ints (List.replicate n 0)))) (HPV : Hid (W.ownsRow w0.heap.size 3 1 (.slice (some ⟨PV, 0, none⟩) n n) n (ints (List.replicate n 0)))) (HFB : Hid (Z4 W FB ∧ w0.heap.size ≤ FB)) (HBL : Hid (Below w0.heap.size w0 W)) (n5_7 : PU ≠ PV) (n5_10 : PU ≠ FB) (n7_10 : PV ≠ FB) :
    wpAnyH Try.prog .any ops4 (NoPanic Q) (fun _ => True) 4 #[true, false, true, false, true, true, true, true, true, false, true, false] ⟨#[.slice e n ce, undef, .slice none 0 0, .pointer (some ⟨R, 0, none⟩), .bool false, .int .i64 (n : Int), .pointer (some ⟨FB, 0, none⟩), undef, .slice e n ce, .bool true, .bool false, undef, .slice e n ce, .int .i64 (n : Int), .slice e n ce, undef, .int .i64 (n : Int), undef, .int .i64 (n : Int), .slice (some ⟨PU, 0, none⟩) n n, .int .i64 (n : Int), .slice (some ⟨PV, 0, none⟩) n n, .agg #[.slice (some ⟨PU, 0, none⟩) n n, .slice (some ⟨PV, 0, none⟩) n n], undef, undef, undef, undef, undef, undef, undef, undef, undef, undef, undef, undef, undef, undef], []⟩ W := by
  have hmk := makeI_run n (by omega)
  unfold ops4
  refine wpAnyH_ready (rs := [1]) (by kernel_rfl) (by simp) ?_
  refine AllReadyH.cons (o := ⟨some 15, _, _, _, _, none⟩) rfl (fun K hK => ?_) (AllReadyH.nil)
  · have l5 := (HPU.out.lt PU rfl).2
    have l7 := (HPV.out.lt PV rfl).2
    have l10 := HFB.out.1.lt
    have hsz := HBL.out.size
    have hb' := below_new W (.cells #[.int .i64 (-1)] 3)
    have HPUn := hide (g_own HPU.out hb')
    have HPVn := hide (g_own HPV.out hb')
    have HFBn := hide ((⟨HFB.out.1.below hb', HFB.out.2⟩ : _ ∧ _))
    have HBLn := hide (HBL.out.trans (hb'.mono HBL.out.size))
    have HBBn := hide (cm1_new W)
    go_simp
    refine hK.out _ _ trivial (fun _ => ?_)
    clear hK K hb'
    clear HBL HPU HPV HFB hmk
    exact cfd_1_5_7_10 n10 hQ HBBn HPUn HPVn HFBn HBLn n5_7 n5_10 n7_10
set_option maxRecDepth 20000 in
set_option maxHeartbeats 4000000 in
theorem cfd_1_5_7 {Q : Exit → Act → World → Prop} {w0 W : World} {e : Option Addr} {n ce R B PU PV : Nat} (n10 : n ≤ 10) (hQ : Hid (∀ FB FT PU PV B X, CfI w0 X FB e n ce FT PU PV (List.replicate n (-1)) (List.replicate n 0) (List.replicate n 0) → Q .normal ⟨#[.slice e n ce, undef, .slice none 0 0, .pointer (some ⟨R, 0, none⟩), .bool false, .int .i64 (n : Int), .pointer (some ⟨FB, 0, none⟩), undef, .slice e n ce, .bool true, .bool false, undef, .slice e n ce, .int .i64 (n : Int), .slice e n ce, .slice (some ⟨B, 0, none⟩) 1 1, .int .i64 (n : Int), .slice (some ⟨FT, 0, none⟩) n n, .int .i64 (n : Int), .slice (some ⟨PU, 0, none⟩) n n, .int .i64 (n : Int), .slice (some ⟨PV, 0, none⟩) n n, .agg #[.slice (some ⟨PU, 0, none⟩) n n, .slice (some ⟨PV, 0, none⟩) n n], .agg (fv e n ce FT PU PV), undef, undef, undef, undef, undef, undef, undef, undef, undef, undef, undef, undef, undef], []⟩ X)) (HBB : Hid (W.cell? ⟨B, 0, none⟩ = some (.int .i64 (-1)) ∧ B < W.heap.size)) (HPU : Hid (W.ownsRow w0.heap.size 3 1 (.slice (some ⟨PU, 0, none⟩) n n) n (ints (List.replicate n 0)))) (HPV : Hid (W.ownsRow w0.heap.size 3 1 (.slice (some ⟨PV, 0, none⟩) n n) n (ints (List.replicate n 0)))) (HBL : Hid (Below w0.heap.size w0 W)) (n5_7 : PU ≠ PV) :
    wpAnyH Try.prog .any ops4 (NoPanic Q) (fun _ => True) 4 #[true, true, true, false, true, true, true, true, true, false, false, false] ⟨#[.slice e n ce, undef, .slice none 0 0, .pointer (some ⟨R, 0, none⟩), .bool false, .int .i64 (n : Int), undef, undef, .slice e n ce, .bool true, .bool false, undef, .slice e n ce, .int .i64 (n : Int), .slice e n ce, .slice (some ⟨B, 0, none⟩) 1 1, .int .i64 (n : Int), undef, .int .i64 (n : Int), .slice (some ⟨PU, 0, none⟩) n n, .int .i64 (n : Int), .slice (some ⟨PV, 0, none⟩) n n, .agg #[.slice (some ⟨PU, 0, none⟩) n n, .slice (some ⟨PV, 0, none⟩) n n], undef, undef, undef, undef, undef, undef, undef, undef, undef, undef, undef, undef, undef, undef], []⟩ W := by
  have hmk := makeI_run n (by omega)
  unfold ops4
  refine wpAnyH_ready (rs := [3, 10]) (by kernel_rfl) (by simp) ?_
  refine AllReadyH.cons (o := ⟨some 17, _, _, _, _, none⟩) rfl (fun K hK => ?_) (AllReadyH.cons (o := ⟨some 6, _, _, _, _, none⟩) rfl (fun K hK => ?_) (AllReadyH.nil))
  · have l1 := HBB.out.2
    have l5 := (HPU.out.lt PU rfl).2
    have l7 := (HPV.out.lt PV rfl).2
    have hsz := HBL.out.size
    go_simp
    refine (rp_any n10 HBB.out.1 HBB.out.2).mono ?_
    rintro e' x1 ⟨rfl, hb', own'⟩
    have HBBn := hide (cm1_below HBB.out hb')
    have HPUn := hide (g_own HPU.out hb')
    have HPVn := hide (g_own HPV.out hb')
    have HBLn := hide (HBL.out.trans (hb'.mono HBL.out.size))
    have HFTn : Hid (x1.ownsRow w0.heap.size 3 1 (.slice (some ⟨W.heap.size, 0, none⟩) n n) n (ints (List.replicate n (-1)))) := hide (own_low9 own' HBL.out.size)
    refine hK.out _ _ trivial (fun _ => ?_)
    clear hK K hb' own'
    clear HBL HBB HPU HPV hmk
    simp only [List.setIfInBounds_toArray, List.set_cons_zero, List.set_cons_succ]
    refine wpAnyH_take (i := 9) (oi := ⟨some 23, _, _, _, _, none⟩) (v := .agg (fv e n ce W.heap.size PU PV)) rfl (by kernel_rfl) (by kernel_rfl) (by kernel_rfl) (fun _ _ _ h => h) (Or.inl ⟨by rfl, fun w' hSw => by clear hSw; unfold fv; go_simp⟩) trivial ?_
    simp only [Act.put, List.setIfInBounds_toArray, List.set_cons_zero, List.set_cons_succ]
    exact cfd_1_3_5_7 n10 hQ HBBn HFTn HPUn HPVn HBLn (by omega) (by omega) n5_7
  · have l1 := HBB.out.2
    have l5 := (HPU.out.lt PU rfl).2
    have l7 := (HPV.out.lt PV rfl).2
    have hsz := HBL.out.size
    have hb' := below_new W (.cells #[.slice none 0 0, .slice none 0 0, .slice none 0 0, .slice none 0 0] 60)
    have HBBn := hide (cm1_below HBB.out hb')
    have HPUn := hide (g_own HPU.out hb')
    have HPVn := hide (g_own HPV.out hb')
    have HBLn := hide (HBL.out.trans (hb'.mono HBL.out.size))
    have HFBn := hide (⟨Z4.new W 60, hsz⟩ : _ ∧ _)
    go_simp
    refine hK.out _ _ trivial (fun _ => ?_)
    clear hK K hb'
    clear HBL HBB HPU HPV hmk
    exact cfd_1_5_7_10 n10 hQ HBBn HPUn HPVn HFBn HBLn n5_7 (by omega) (by omega)
set_option maxRecDepth 20000 in
set_option maxHeartbeats 4000000 in
theorem cfd_1_5_10 {Q : Exit → Act → World → Prop} {w0 W : World} {e : Option Addr} {n ce R B PU FB : Nat} (n10 : n ≤ 10) (hQ : Hid (∀ FB FT PU PV B X, CfI w0 X FB e n ce FT PU PV (List.replicate n (-1)) (List.replicate n 0) (List.replicate n 0) → Q .normal ⟨#[.slice e n ce, undef, .slice none 0 0, .pointer (some ⟨R, 0, none⟩), .bool false, .int .i64 (n : Int), .pointer (some ⟨FB, 0, none⟩), undef, .slice e n ce, .bool true, .bool false, undef, .slice e n ce, .int .i64 (n : Int), .slice e n ce, .slice (some ⟨B, 0, none⟩) 1 1, .int .i64 (n : Int), .slice (some ⟨FT, 0, none⟩) n n, .int .i64 (n : Int), .slice (some ⟨PU, 0, none⟩) n n, .int .i64 (n : Int), .slice (some ⟨PV, 0, none⟩) n n, .agg #[.slice (some ⟨PU, 0, none⟩) n n, .slice (some ⟨PV, 0, none⟩) n n], .agg (fv e n ce FT PU PV), undef, undef, undef, undef, undef, undef, undef, undef, undef, undef, undef, undef, undef], []⟩ X)) (HBB : Hid (W.cell? ⟨B, 0, none⟩ = some (.int .i64 (-1)) ∧ B < W.heap.size)) (HPU : Hid (W.ownsRow w0.heap.size 3 1 (.slice (some ⟨PU, 0, none⟩) n n) n (ints (List.replicate n 0)))) (HFB : Hid (Z4 W FB ∧ w0.heap.size ≤ FB)) (HBL : Hid (Below w0.heap.size w0 W)) (n5_10 : PU ≠ FB) :
    wpAnyH Try.prog .any ops4 (NoPanic Q) (fun _ => True) 5 #[true, true, true, false, true, true, true, false, false, false, true, false] ⟨#[.slice e n ce, undef, .slice none 0 0, .pointer (some ⟨R, 0, none⟩), .bool false, .int .i64 (n : Int), .pointer (some ⟨FB, 0, none⟩), undef, .slice e n ce, .bool true, .bool false, undef, .slice e n ce, .int .i64 (n : Int), .slice e n ce, .slice (some ⟨B, 0, none⟩) 1 1, .int .i64 (n : Int), undef, .int .i64 (n : Int), .slice (some ⟨PU, 0, none⟩) n n, .int .i64 (n : Int), undef, undef, undef, undef, undef, undef, undef, undef, undef, undef, undef, undef, undef, undef, undef, undef], []⟩ W := by
  have hmk := makeI_run n (by omega)
  unfold ops4
  refine wpAnyH_ready (rs := [3, 7]) (by kernel_rfl) (by simp) ?_
  refine AllReadyH.cons (o := ⟨some 17, _, _, _, _, none⟩) rfl (fun K hK => ?_) (AllReadyH.cons (o := ⟨some 21, _, _, _, _, none⟩) rfl (fun K hK => ?_) (AllReadyH.nil))
  · have l1 := HBB.out.2
    have l5 := (HPU.out.lt PU rfl).2
    have l10 := HFB.out.1.lt
    have hsz := HBL.out.size
    go_simp
    refine (rp_any n10 HBB.out.1 HBB.out.2).mono ?_
    rintro e' x1 ⟨rfl, hb', own'⟩
    have HBBn := hide (cm1_below HBB.out hb')
    have HPUn := hide (g_own HPU.out hb')
    have HFBn := hide ((⟨HFB.out.1.below hb', HFB.out.2⟩ : _ ∧ _))
    have HBLn := hide (HBL.out.trans (hb'.mono HBL.out.size))
    have HFTn : Hid (x1.ownsRow w0.heap.size 3 1 (.slice (some ⟨W.heap.size, 0, none⟩) n n) n (ints (List.replicate n (-1)))) := hide (own_low9 own' HBL.out.size)
    refine hK.out _ _ trivial (fun _ => ?_)
    clear hK K hb' own'
    clear HBL HBB HPU HFB hmk
    exact cfd_1_3_5_10 n10 hQ HBBn HFTn HPUn HFBn HBLn (by omega) (by omega) n5_10
  · have l1 := HBB.out.2
    have l5 := (HPU.out.lt PU rfl).2
    have l10 := HFB.out.1.lt
    have hsz := HBL.out.size
    have hb' := below_new W (.cells (madeCells #[.int .i64 0] n) 3)
    have HBBn := hide (cm1_below HBB.out hb')
    have HPUn := hide (g_own HPU.out hb')
    have HFBn := hide ((⟨HFB.out.1.below hb', HFB.out.2⟩ : _ ∧ _))
    have HBLn := hide (HBL.out.trans (hb'.mono HBL.out.size))
    have HPVn : Hid ((W.alloc (.cells (madeCells #[.int .i64 0] n) 3)).ownsRow w0.heap.size 3 1 (.slice (some ⟨W.heap.size, 0, none⟩) n n) n (ints (List.replicate n 0))) := hide (own_low9 (made_own W n (by omega)) HBL.out.size)
    go_simp
    refine hK.out _ _ trivial (fun _ => ?_)
    clear hK K hb'
    clear HBL HBB HPU HFB hmk
    simp only [List.setIfInBounds_toArray, List.set_cons_zero, List.set_cons_succ]
    refine wpAnyH_take (i := 8) (oi := ⟨some 22, _, _, _, _, none⟩) (v := .agg #[.slice (some ⟨PU, 0, none⟩) n n, .slice (some ⟨W.heap.size, 0, none⟩) n n]) rfl (by kernel_rfl) (by kernel_rfl) (by kernel_rfl) (fun _ _ _ h => h) (Or.inl ⟨by rfl, fun w' hSw => by clear hSw; go_simp⟩) trivial ?_
    simp only [Act.put, List.setIfInBounds_toArray, List.set_cons_zero, List.set_cons_succ]
    exact cfd_1_5_7_10 n10 hQ HBBn HPUn HPVn HFBn HBLn (by omega) n5_10 (by omega)
set_option maxRecDepth 20000 in
set_option maxHeartbeats 4000000 in
theorem cfd_1_7_10 {Q : Exit → Act → World → Prop} {w0 W : World} {e : Option Addr} {n ce R B PV FB : Nat} (n10 : n ≤ 10) (hQ : Hid (∀ FB FT PU PV B X, CfI w0 X FB e n ce FT PU PV (List.replicate n (-1)) (List.replicate n 0) (List.replicate n 0) → Q .normal ⟨#[.slice e n ce, undef, .slice none 0 0, .pointer (some ⟨R, 0, none⟩), .bool false, .int .i64 (n : Int), .pointer (some ⟨FB, 0, none⟩), undef, .slice e n ce, .bool true, .bool false, undef, .slice e n ce, .int .i64 (n : Int), .slice e n ce, .slice (some ⟨B, 0, none⟩) 1 1, .int .i64 (n : Int), .slice (some ⟨FT, 0, none⟩) n n, .int .i64 (n : Int), .slice (some ⟨PU, 0, none⟩) n n, .int .i64 (n : Int), .slice (some ⟨PV, 0, none⟩) n n, .agg #[.slice (some ⟨PU, 0, none⟩) n n, .slice (some ⟨PV, 0, none⟩) n n], .agg (fv e n ce FT PU PV), undef, undef, undef, undef, undef, undef, undef, undef, undef, undef, undef, undef, undef], []⟩ X)) (HBB : Hid (W.cell? ⟨B, 0, none⟩ = some (.int .i64 (-1)) ∧ B < W.heap.size)) (HPV : Hid (W.ownsRow w0.heap.size 3 1 (.slice (some ⟨PV, 0, none⟩) n n) n (ints (List.replicate n 0)))) (HFB : Hid (Z4 W FB ∧ w0.heap.size ≤ FB)) (HBL : Hid (Below w0.heap.size w0 W)) (n7_10 : PV ≠ FB) :
    wpAnyH Try.prog .any ops4 (NoPanic Q) (fun _ => True) 5 #[true, true, true, false, true, false, true, true, false, false, true, false] ⟨#[.slice e n ce, undef, .slice none 0 0, .pointer (some ⟨R, 0, none⟩), .bool false, .int .i64 (n : Int), .pointer (some ⟨FB, 0, none⟩), undef, .slice e n ce, .bool true, .bool false, undef, .slice e n ce, .int .i64 (n : Int), .slice e n ce, .slice (some ⟨B, 0, none⟩) 1 1, .int .i64 (n : Int), undef, .int .i64 (n : Int), undef, .int .i64 (n : Int), .slice (some ⟨PV, 0, none⟩) n n, undef, undef, undef, undef, undef, undef, undef, undef, undef, undef, undef, undef, undef, undef, undef], []⟩ W := by
  have hmk := makeI_run n (by omega)
  unfold ops4
  refine wpAnyH_ready (rs := [3, 5]) (by kernel_rfl) (by simp) ?_
  refine AllReadyH.cons (o := ⟨some 17, _, _, _, _, none⟩) rfl (fun K hK => ?_) (AllReadyH.cons (o := ⟨some 19, _, _, _, _, none⟩) rfl (fun K hK => ?_) (AllReadyH.nil))
  · have l1 := HBB.out.2
    have l7 := (HPV.out.lt PV rfl).2
    have l10 := HFB.out.1.lt
    have hsz := HBL.out.size
    go_simp
    refine (rp_any n10 HBB.out.1 HBB.out.2).mono ?_
    rintro e' x1 ⟨rfl, hb', own'⟩
    have HBBn := hide (cm1_below HBB.out hb')
    have HPVn := hide (g_own HPV.out hb')
    have HFBn := hide ((⟨HFB.out.1.below hb', HFB.out.2⟩ : _ ∧ _))
    have HBLn := hide (HBL.out.trans (hb'.mono HBL.out.size))
    have HFTn : Hid (x1.ownsRow w0.heap.size 3 1 (.slice (some ⟨W.heap.size, 0, none⟩) n n) n (ints (List.replicate n (-1)))) := hide (own_low9 own' HBL.out.size)
    refine hK.out _ _ trivial (fun _ => ?_)
    clear hK K hb' own'
    clear HBL HBB HPV HFB hmk
    exact cfd_1_3_7_10 n10 hQ HBBn HFTn HPVn HFBn HBLn (by omega) (by omega) n7_10
  · have l1 := HBB.out.2
    have l7 := (HPV.out.lt PV rfl).2
    have l10 := HFB.out.1.lt
    have hsz := HBL.out.size
    have hb' := below_new W (.cells (madeCells #[.int .i64 0] n) 3)
    have HBBn := hide (cm1_below HBB.out hb')
    have HPVn := hide (g_own HPV.out hb')
    have HFBn := hide ((⟨HFB.out.1.below hb', HFB.out.2⟩ : _ ∧ _))
    have HBLn := hide (HBL.out.trans (hb'.mono HBL.out.size))
    have HPUn : Hid ((W.alloc (.cells (madeCells #[.int .i64 0] n) 3)).ownsRow w0.heap.size 3 1 (.slice (some ⟨W.heap.size, 0, none⟩) n n) n (ints (List.replicate n 0))) := hide (own_low9 (made_own W n (by omega)) HBL.out.size)
    go_simp
    refine hK.out _ _ trivial (fun _ => ?_)
    clear hK K hb'
    clear HBL HBB HPV HFB hmk
    simp only [List.setIfInBounds_toArray, List.set_cons_zero, List.set_cons_succ]
    refine wpAnyH_take (i := 8) (oi := ⟨some 22, _, _, _, _, none⟩) (v := .agg #[.slice (some ⟨W.heap.size, 0, none⟩) n n, .slice (some ⟨PV, 0, none⟩) n n]) rfl (by kernel_rfl) (by kernel_rfl) (by kernel_rfl) (fun _ _ _ h => h) (Or.inl ⟨by rfl, fun w' hSw => by clear hSw; go_simp⟩) trivial ?_
    simp only [Act.put, List.setIfInBounds_toArray, List.set_cons_zero, List.set_cons_succ]
    exact cfd_1_5_7_10 n10 hQ HBBn HPUn HPVn HFBn HBLn (by omega) (by omega) n7_10
set_option maxRecDepth 20000 in
set_option maxHeartbeats 4000000 in
theorem cfd_1_3_5 {Q : Exit → Act → World → Prop} {w0 W : World} {e : Option Addr} {n ce R B FT PU : Nat} (n10 : n ≤ 10) (hQ : Hid (∀ FB FT PU PV B X, CfI w0 X FB e n ce FT PU PV (List.replicate n (-1)) (List.replicate n 0) (List.replicate n 0) → Q .normal ⟨#[.slice e n ce, undef, .slice none 0 0, .pointer (some ⟨R, 0, none⟩), .bool false, .int .i64 (n : Int), .pointer (some ⟨FB, 0, none⟩), undef, .slice e n ce, .bool true, .bool false, undef, .slice e n ce, .int .i64 (n : Int), .slice e n ce, .slice (some ⟨B, 0, none⟩) 1 1, .int .i64 (n : Int), .slice (some ⟨FT, 0, none⟩) n n, .int .i64 (n : Int), .slice (some ⟨PU, 0, none⟩) n n, .int .i64 (n : Int), .slice (some ⟨PV, 0, none⟩) n n, .agg #[.slice (some ⟨PU, 0, none⟩) n n, .slice (some ⟨PV, 0, none⟩) n n], .agg (fv e n ce FT PU PV), undef, undef, undef, undef, undef, undef, undef, undef, undef, undef, undef, undef, undef], []⟩ X)) (HBB : Hid (W.cell? ⟨B, 0, none⟩ = some (.int .i64 (-1)) ∧ B < W.heap.size)) (HFT : Hid (W.ownsRow w0.heap.size 3 1 (.slice (some ⟨FT, 0, none⟩) n n) n (ints (List.replicate n (-1))))) (HPU : Hid (W.ownsRow w0.heap.size 3 1 (.slice (some ⟨PU, 0, none⟩) n n) n (ints (List.replicate n 0)))) (HBL : Hid (Below w0.heap.size w0 W)) (n3_5 : FT ≠ PU) :
    wpAnyH Try.prog .any ops4 (NoPanic Q) (fun _ => True) 5 #[true, true, true, true, true, true, true, false, false, false, false, false] ⟨#[.slice e n ce, undef, .slice none 0 0, .pointer (some ⟨R, 0, none⟩), .bool false, .int .i64 (n : Int), undef, undef, .slice e n ce, .bool true, .bool false, undef, .slice e n ce, .int .i64 (n : Int), .slice e n ce, .slice (some ⟨B, 0, none⟩) 1 1, .int .i64 (n : Int), .slice (some ⟨FT, 0, none⟩) n n, .int .i64 (n : Int), .slice (some ⟨PU, 0, none⟩) n n, .int .i64 (n : Int), undef, undef, undef, undef, undef, undef, undef, undef, undef, undef, undef, undef, undef, undef, undef, undef], []⟩ W := by
  have hmk := makeI_run n (by omega)
  unfold ops4
  refine wpAnyH_ready (rs := [7, 10]) (by kernel_rfl) (by simp) ?_
  refine AllReadyH.cons (o := ⟨some 21, _, _, _, _, none⟩) rfl (fun K hK => ?_) (AllReadyH.cons (o := ⟨some 6, _, _, _, _, none⟩) rfl (fun K hK => ?_) (AllReadyH.nil))
  · have l1 := HBB.out.2
    have l3 := (HFT.out.lt FT rfl).2
    have l5 := (HPU.out.lt PU rfl).2
    have hsz := HBL.out.size
    have hb' := below_new W (.cells (madeCells #[.int .i64 0] n) 3)
    have HBBn := hide (cm1_below HBB.out hb')
    have HFTn := hide (g_own HFT.out hb')
    have HPUn := hide (g_own HPU.out hb')
    have HBLn := hide (HBL.out.trans (hb'.mono HBL.out.size))
    have HPVn : Hid ((W.alloc (.cells (madeCells #[.int .i64 0] n) 3)).ownsRow w0.heap.size 3 1 (.slice (some ⟨W.heap.size, 0, none⟩) n n) n (ints (List.replicate n 0))) := hide (own_low9 (made_own W n (by omega)) HBL.out.size)
    go_simp
    refine hK.out _ _ trivial (fun _ => ?_)
    clear hK K hb'
    clear HBL HBB HFT HPU hmk
    simp only [List.setIfInBounds_toArray, List.set_cons_zero, List.set_cons_succ]
    refine wpAnyH_take (i := 8) (oi := ⟨some 22, _, _, _, _, none⟩) (v := .agg #[.slice (some ⟨PU, 0, none⟩) n n, .slice (some ⟨W.heap.size, 0, none⟩) n n]) rfl (by kernel_rfl) (by kernel_rfl) (by kernel_rfl) (fun _ _ _ h => h) (Or.inl ⟨by rfl, fun w' hSw => by clear hSw; go_simp⟩) trivial ?_
    simp only [Act.put, List.setIfInBounds_toArray, List.set_cons_zero, List.set_cons_succ]
    refine wpAnyH_take (i := 9) (oi := ⟨some 23, _, _, _, _, none⟩) (v := .agg (fv e n ce FT PU W.heap.size)) rfl (by kernel_rfl) (by kernel_rfl) (by kernel_rfl) (fun _ _ _ h => h) (Or.inl ⟨by rfl, fun w' hSw => by clear hSw; unfold fv; go_simp⟩) trivial ?_
    simp only [Act.put, List.setIfInBounds_toArray, List.set_cons_zero, List.set_cons_succ]
    exact cfd_1_3_5_7 n10 hQ HBBn HFTn HPUn HPVn HBLn n3_5 (by omega) (by omega)
  · have l1 := HBB.out.2
    have l3 := (HFT.out.lt FT rfl).2
    have l5 := (HPU.out.lt PU rfl).2
    have hsz := HBL.out.size
    have hb' := below_new W (.cells #[.slice none 0 0, .slice none 0 0, .slice none 0 0, .slice none 0 0] 60)
    have HBBn := hide (cm1_below HBB.out hb')
    have HFTn := hide (g_own HFT.out hb')
    have HPUn := hide (g_own HPU.out hb')
    have HBLn := hide (HBL.out.trans (hb'.mono HBL.out.size))
    have HFBn := hide (⟨Z4.new W 60, hsz⟩ : _ ∧ _)
    go_simp
    refine hK.out _ _ trivial (fun _ => ?_)
    clear hK K hb'
    clear HBL HBB HFT HPU hmk
    exact cfd_1_3_5_10 n10 hQ HBBn HFTn HPUn HFBn HBLn n3_5 (by omega) (by omega)
set_option maxRecDepth 20000 in
set_option maxHeartbeats 4000000 in
theorem cfd_1_3_7 {Q : Exit → Act → World → Prop} {w0 W : World} {e : Option Addr} {n ce R B FT PV : Nat} (n10 : n ≤ 10) (hQ : Hid (∀ FB FT PU PV B X, CfI w0 X FB e n ce FT PU PV (List.replicate n (-1)) (List.replicate n 0) (List.replicate n 0) → Q .normal ⟨#[.slice e n ce, undef, .slice none 0 0, .pointer (some ⟨R, 0, none⟩), .bool false, .int .i64 (n : Int), .pointer (some ⟨FB, 0, none⟩), undef, .slice e n ce, .bool true, .bool false, undef, .slice e n ce, .int .i64 (n : Int), .slice e n ce, .slice (some ⟨B, 0, none⟩) 1 1, .int .i64 (n : Int), .slice (some ⟨FT, 0, none⟩) n n, .int .i64 (n : Int), .slice (some ⟨PU, 0, none⟩) n n, .int .i64 (n : Int), .slice (some ⟨PV, 0, none⟩) n n, .agg #[.slice (some ⟨PU, 0, none⟩) n n, .slice (some ⟨PV, 0, none⟩) n n], .agg (fv e n ce FT PU PV), undef, undef, undef, undef, undef, undef, undef, undef, undef, undef, undef, undef, undef], []⟩ X)) (HBB : Hid (W.cell? ⟨B, 0, none⟩ = some (.int .i64 (-1)) ∧ B < W.heap.size)) (HFT : Hid (W.ownsRow w0.heap.size 3 1 (.slice (some ⟨FT, 0, none⟩) n n) n (ints (List.replicate n (-1))))) (HPV : Hid (W.ownsRow w0.heap.size 3 1 (.slice (some ⟨PV, 0, none⟩) n n) n (ints (List.replicate n 0)))) (HBL : Hid (Below w0.heap.size w0 W)) (n3_7 : FT ≠ PV) :
    wpAnyH Try.prog .any ops4 (NoPanic Q) (fun _ => True) 5 #[true, true, true, true, true, false, true, true, false, false, false, false] ⟨#[.slice e n ce, undef, .slice none 0 0, .pointer (some ⟨R, 0, none⟩), .bool false, .int .i64 (n : Int), undef, undef, .slice e n ce, .bool true, .bool false, undef, .slice e n ce, .int .i64 (n : Int), .slice e n ce, .slice (some ⟨B, 0, none⟩) 1 1, .int .i64 (n : Int), .slice (some ⟨FT, 0, none⟩) n n, .int .i64 (n : Int), undef, .int .i64 (n : Int), .slice (some ⟨PV, 0, none⟩) n n, undef, undef, undef, undef, undef, undef, undef, undef, undef, undef, undef, undef, undef, undef, undef], []⟩ W := by
  have hmk := makeI_run n (by omega)
  unfold ops4
  refine wpAnyH_ready (rs := [5, 10]) (by kernel_rfl) (by simp) ?_
  refine AllReadyH.cons (o := ⟨some 19, _, _, _, _, none⟩) rfl (fun K hK => ?_) (AllReadyH.cons (o := ⟨some 6, _, _, _, _, none⟩) rfl (fun K hK => ?_) (AllReadyH.nil))
  · have l1 := HBB.out.2
    have l3 := (HFT.out.lt FT rfl).2
    have l7 := (HPV.out.lt PV rfl).2
    have hsz := HBL.out.size
    have hb' := below_new W (.cells (madeCells #[.int .i64 0] n) 3)
    have HBBn := hide (cm1_below HBB.out hb')
    have HFTn := hide (g_own HFT.out hb')
    have HPVn := hide (g_own HPV.out hb')
    have HBLn := hide (HBL.out.trans (hb'.mono HBL.out.size))
    have HPUn : Hid ((W.alloc (.cells (madeCells #[.int .i64 0] n) 3)).ownsRow w0.heap.size 3 1 (.slice (some ⟨W.heap.size, 0, none⟩) n n) n (ints (List.replicate n 0))) := hide (own_low9 (made_own W n (by omega)) HBL.out.size)
    go_simp
    refine hK.out _ _ trivial (fun _ => ?_)
    clear hK K hb'
    clear HBL HBB HFT HPV hmk
    simp only [List.setIfInBounds_toArray, List.set_cons_zero, List.set_cons_succ]
    refine wpAnyH_take (i := 8) (oi := ⟨some 22, _, _, _, _, none⟩) (v := .agg #[.slice (some ⟨W.heap.size, 0, none⟩) n n, .slice (some ⟨PV, 0, none⟩) n n]) rfl (by kernel_rfl) (by kernel_rfl) (by kernel_rfl) (fun _ _ _ h => h) (Or.inl ⟨by rfl, fun w' hSw => by clear hSw; go_simp⟩) trivial ?_
    simp only [Act.put, List.setIfInBounds_toArray, List.set_cons_zero, List.set_cons_succ]
    refine wpAnyH_take (i := 9) (oi := ⟨some 23, _, _, _, _, none⟩) (v := .agg (fv e n ce FT W.heap.size PV)) rfl (by kernel_rfl) (by kernel_rfl) (by kernel_rfl) (fun _ _ _ h => h) (Or.inl ⟨by rfl, fun w' hSw => by clear hSw; unfold fv; go_simp⟩) trivial ?_
    simp only [Act.put, List.setIfInBounds_toArray, List.set_cons_zero, List.set_cons_succ]
    exact cfd_1_3_5_7 n10 hQ HBBn HFTn HPUn HPVn HBLn (by omega) n3_7 (by omega)
  · have l1 := HBB.out.2
    have l3 := (HFT.out.lt FT rfl).2
    have l7 := (HPV.out.lt PV rfl).2
    have hsz := HBL.out.size
    have hb' := below_new W (.cells #[.slice none 0 0, .slice none 0 0, .slice none 0 0, .slice none 0 0] 60)
    have HBBn := hide (cm1_below HBB.out hb')
    have HFTn := hide (g_own HFT.out hb')
    have HPVn := hide (g_own HPV.out hb')
    have HBLn := hide (HBL.out.trans (hb'.mono HBL.out.size))
    have HFBn := hide (⟨Z4.new W 60, hsz⟩ : _ ∧ _)
    go_simp
    refine hK.out _ _ trivial (fun _ => ?_)
    clear hK K hb'
    clear HBL HBB HFT HPV hmk
    exact cfd_1_3_7_10 n10 hQ HBBn HFTn HPVn HFBn HBLn n3_7 (by omega) (by omega)
set_option maxRecDepth 20000 in
set_option maxHeartbeats 4000000 in
theorem cfd_1_3_10 {Q : Exit → Act → World → Prop} {w0 W : World} {e : Option Addr} {n ce R B FT FB : Nat} (n10 : n ≤ 10) (hQ : Hid (∀ FB FT PU PV B X, CfI w0 X FB e n ce FT PU PV (List.replicate n (-1)) (List.replicate n 0) (List.replicate n 0) → Q .normal ⟨#[.slice e n ce, undef, .slice none 0 0, .pointer (some ⟨R, 0, none⟩), .bool false, .int .i64 (n : Int), .pointer (some ⟨FB, 0, none⟩), undef, .slice e n ce, .bool true, .bool false, undef, .slice e n ce, .int .i64 (n : Int), .slice e n ce, .slice (some ⟨B, 0, none⟩) 1 1, .int .i64 (n : Int), .slice (some ⟨FT, 0, none⟩) n n, .int .i64 (n : Int), .slice (some ⟨PU, 0, none⟩) n n, .int .i64 (n : Int), .slice (some ⟨PV, 0, none⟩) n n, .agg #[.slice (some ⟨PU, 0, none⟩) n n, .slice (some ⟨PV, 0, none⟩) n n], .agg (fv e n ce FT PU PV), undef, undef, undef, undef, undef, undef, undef, undef, undef, undef, undef, undef, undef], []⟩ X)) (HBB : Hid (W.cell? ⟨B, 0, none⟩ = some (.int .i64 (-1)) ∧ B < W.heap.size)) (HFT : Hid (W.ownsRow w0.heap.size 3 1 (.slice (some ⟨FT, 0, none⟩) n n) n (ints (List.replicate n (-1))))) (HFB : Hid (Z4 W FB ∧ w0.heap.size ≤ FB)) (HBL : Hid (Below w0.heap.size w0 W)) (n3_10 : FT ≠ FB) :
    wpAnyH Try.prog .any ops4 (NoPanic Q) (fun _ => True) 5 #[true, true, true, true, true, false, true, false, false, false, true, false] ⟨#[.slice e n ce, undef, .slice none 0 0, .pointer (some ⟨R, 0, none⟩), .bool false, .int .i64 (n : Int), .pointer (some ⟨FB, 0, none⟩), undef, .slice e n ce, .bool true, .bool false, undef, .slice e n ce, .int .i64 (n : Int), .slice e n ce, .slice (some ⟨B, 0, none⟩) 1 1, .int .i64 (n : Int), .slice (some ⟨FT, 0, none⟩) n n, .int .i64 (n : Int), undef, .int .i64 (n : Int), undef, undef, undef, undef, undef, undef, undef, undef, undef, undef, undef, undef, undef, undef, undef, undef], []⟩ W := by
  have hmk := makeI_run n (by omega)
  unfold ops4
  refine wpAnyH_ready (rs := [5, 7]) (by kernel_rfl) (by simp) ?_
  refine AllReadyH.cons (o := ⟨some 19, _, _, _, _, none⟩) rfl (fun K hK => ?_) (AllReadyH.cons (o := ⟨some 21, _, _, _, _, none⟩) rfl (fun K hK => ?_) (AllReadyH.nil))
  · have l1 := HBB.out.2
    have l3 := (HFT.out.lt FT rfl).2
    have l10 := HFB.out.1.lt
    have hsz := HBL.out.size
    have hb' := below_new W (.cells (madeCells #[.int .i64 0] n) 3)
    have HBBn := hide (cm1_below HBB.out hb')
    have HFTn := hide (g_own HFT.out hb')
    have HFBn := hide ((⟨HFB.out.1.below hb', HFB.out.2⟩ : _ ∧ _))
    have HBLn := hide (HBL.out.trans (hb'.mono HBL.out.size))
    have HPUn : Hid ((W.alloc (.cells (madeCells #[.int .i64 0] n) 3)).ownsRow w0.heap.size 3 1 (.slice (some ⟨W.heap.size, 0, none⟩) n n) n (ints (List.replicate n 0))) := hide (own_low9 (made_own W n (by omega)) HBL.out.size)
    go_simp
    refine hK.out _ _ trivial (fun _ => ?_)
    clear hK K hb'
    clear HBL HBB HFT HFB hmk
    exact cfd_1_3_5_10 n10 hQ HBBn HFTn HPUn HFBn HBLn (by omega) n3_10 (by omega)
  · have l1 := HBB.out.2
    have l3 := (HFT.out.lt FT rfl).2
    have l10 := HFB.out.1.lt
    have hsz := HBL.out.size
    have hb' := below_new W (.cells (madeCells #[.int .i64 0] n) 3)
    have HBBn := hide (cm1_below HBB.out hb')
    have HFTn := hide (g_own HFT.out hb')
    have HFBn := hide ((⟨HFB.out.1.below hb', HFB.out.2⟩ : _ ∧ _))
    have HBLn := hide (HBL.out.trans (hb'.mono HBL.out.size))
    have HPVn : Hid ((W.alloc (.cells (madeCells #[.int .i64 0] n) 3)).ownsRow w0.heap.size 3 1 (.slice (some ⟨W.heap.size, 0, none⟩) n n) n (ints (List.replicate n 0))) := hide (own_low9 (made_own W n (by omega)) HBL.out.size)
    go_simp
    refine hK.out _ _ trivial (fun _ => ?_)
    clear hK K hb'
    clear HBL HBB HFT HFB hmk
    exact cfd_1_3_7_10 n10 hQ HBBn HFTn HPVn HFBn HBLn (by omega) n3_10 (by omega)
set_option maxRecDepth 20000 in
set_option maxHeartbeats 4000000 in
theorem cfd_5_7 {Q : Exit → Act → World → Prop} {w0 W : World} {e : Option Addr} {n ce R PU PV : Nat} (n10 : n ≤ 10) (hQ : Hid (∀ FB FT PU PV B X, CfI w0 X FB e n ce FT PU PV (List.replicate n (-1)) (List.replicate n 0) (List.replicate n 0) → Q .normal ⟨#[.slice e n ce, undef, .slice none 0 0, .pointer (some ⟨R, 0, none⟩), .bool false, .int .i64 (n : Int), .pointer (some ⟨FB, 0, none⟩), undef, .slice e n ce, .bool true, .bool false, undef, .slice e n ce, .int .i64 (n : Int), .slice e n ce, .slice (some ⟨B, 0, none⟩) 1 1, .int .i64 (n : Int), .slice (some ⟨FT, 0, none⟩) n n, .int .i64 (n : Int), .slice (some ⟨PU, 0, none⟩) n n, .int .i64 (n : Int), .slice (some ⟨PV, 0, none⟩) n n, .agg #[.slice (some ⟨PU, 0, none⟩) n n, .slice (some ⟨PV, 0, none⟩) n n], .agg (fv e n ce FT PU PV), undef, undef, undef, undef, undef, undef, undef, undef, undef, undef, undef, undef, undef], []⟩ X)) (HPU : Hid (W.ownsRow w0.heap.size 3 1 (.slice (some ⟨PU, 0, none⟩) n n) n (ints (List.replicate n 0)))) (HPV : Hid (W.ownsRow w0.heap.size 3 1 (.slice (some ⟨PV, 0, none⟩) n n) n (ints (List.replicate n 0)))) (HBL : Hid (Below w0.heap.size w0 W)) (n5_7 : PU ≠ PV) :
    wpAnyH Try.prog .any ops4 (NoPanic Q) (fun _ => True) 5 #[true, false, true, false, true, true, true, true, true, false, false, false] ⟨#[.slice e n ce, undef, .slice none 0 0, .pointer (some ⟨R, 0, none⟩), .bool false, .int .i64 (n : Int), undef, undef, .slice e n ce, .bool true, .bool false, undef, .slice e n ce, .int .i64 (n : Int), .slice e n ce, undef, .int .i64 (n : Int), undef, .int .i64 (n : Int), .slice (some ⟨PU, 0, none⟩) n n, .int .i64 (n : Int), .slice (some ⟨PV, 0, none⟩) n n, .agg #[.slice (some ⟨PU, 0, none⟩) n n, .slice (some ⟨PV, 0, none⟩) n n], undef, undef, undef, undef, undef, undef, undef, undef, undef, undef, undef, undef, undef, undef], []⟩ W := by
  have hmk := makeI_run n (by omega)
  unfold ops4
  refine wpAnyH_ready (rs := [1, 10]) (by kernel_rfl) (by simp) ?_
  refine AllReadyH.cons (o := ⟨some 15, _, _, _, _, none⟩) rfl (fun K hK => ?_) (AllReadyH.cons (o := ⟨some 6, _, _, _, _, none⟩) rfl (fun K hK => ?_) (AllReadyH.nil))
  · have l5 := (HPU.out.lt PU rfl).2
    have l7 := (HPV.out.lt PV rfl).2
    have hsz := HBL.out.size
    have hb' := below_new W (.cells #[.int .i64 (-1)] 3)
    have HPUn := hide (g_own HPU.out hb')
    have HPVn := hide (g_own HPV.out hb')
    have HBLn := hide (HBL.out.trans (hb'.mono HBL.out.size))
    have HBBn := hide (cm1_new W)
    go_simp
    refine hK.out _ _ trivial (fun _ => ?_)
    clear hK K hb'
    clear HBL HPU HPV hmk
    exact cfd_1_5_7 n10 hQ HBBn HPUn HPVn HBLn n5_7
  · have l5 := (HPU.out.lt PU rfl).2
    have l7 := (HPV.out.lt PV rfl).2
    have hsz := HBL.out.size
    have hb' := below_new W (.cells #[.slice none 0 0, .slice none 0 0, .slice none 0 0, .slice none 0 0] 60)
    have HPUn := hide (g_own HPU.out hb')
    have HPVn := hide (g_own HPV.out hb')
    have HBLn := hide (HBL.out.trans (hb'.mono HBL.out.size))
    have HFBn := hide (⟨Z4.new W 60, hsz⟩ : _ ∧ _)
    go_simp
    refine hK.out _ _ trivial (fun _ => ?_)
    clear hK K hb'
    clear HBL HPU HPV hmk
    exact cfd_5_7_10 n10 hQ HPUn HPVn HFBn HBLn n5_7 (by omega) (by omega)
set_option maxRecDepth 20000 in
set_option maxHeartbeats 4000000 in
theorem cfd_5_10 {Q : Exit → Act → World → Prop} {w0 W : World} {e : Option Addr} {n ce R PU FB : Nat} (n10 : n ≤ 10) (hQ : Hid (∀ FB FT PU PV B X, CfI w0 X FB e n ce FT PU PV (List.replicate n (-1)) (List.replicate n 0) (List.replicate n 0) → Q .normal ⟨#[.slice e n ce, undef, .slice none 0 0, .pointer (some ⟨R, 0, none⟩), .bool false, .int .i64 (n : Int), .pointer (some ⟨FB, 0, none⟩), undef, .slice e n ce, .bool true, .bool false, undef, .slice e n ce, .int .i64 (n : Int), .slice e n ce, .slice (some ⟨B, 0, none⟩) 1 1, .int .i64 (n : Int), .slice (some ⟨FT, 0, none⟩) n n, .int .i64 (n : Int), .slice (some ⟨PU, 0, none⟩) n n, .int .i64 (n : Int), .slice (some ⟨PV, 0, none⟩) n n, .agg #[.slice (some ⟨PU, 0, none⟩) n n, .slice (some ⟨PV, 0, none⟩) n n], .agg (fv e n ce FT PU PV), undef, undef, undef, undef, undef, undef, undef, undef, undef, undef, undef, undef, undef], []⟩ X)) (HPU : Hid (W.ownsRow w0.heap.size 3 1 (.slice (some ⟨PU, 0, none⟩) n n) n (ints (List.replicate n 0)))) (HFB : Hid (Z4 W FB ∧ w0.heap.size ≤ FB)) (HBL : Hid (Below w0.heap.size w0 W)) (n5_10 : PU ≠ FB) :
    wpAnyH Try.prog .any ops4 (NoPanic Q) (fun _ => True) 6 #[true, false, true, false, true, true, true, false, false, false, true, false] ⟨#[.slice e n ce, undef, .slice none 0 0, .pointer (some ⟨R, 0, none⟩), .bool false, .int .i64 (n : Int), .pointer (some ⟨FB, 0, none⟩), undef, .slice e n ce, .bool true, .bool false, undef, .slice e n ce, .int .i64 (n : Int), .slice e n ce, undef, .int .i64 (n : Int), undef, .int .i64 (n : Int), .slice (some ⟨PU, 0, none⟩) n n, .int .i64 (n : Int), undef, undef, undef, undef, undef, undef, undef, undef, undef, undef, undef, undef, undef, undef, undef, undef], []⟩ W := by
  have hmk := makeI_run n (by omega)
  unfold ops4
  refine wpAnyH_ready (rs := [1, 7]) (by kernel_rfl) (by simp) ?_
  refine AllReadyH.cons (o := ⟨some 15, _, _, _, _, none⟩) rfl (fun K hK => ?_) (AllReadyH.cons (o := ⟨some 21, _, _, _, _, none⟩) rfl (fun K hK => ?_) (AllReadyH.nil))
  · have l5 := (HPU.out.lt PU rfl).2
    have l10 := HFB.out.1.lt
    have hsz := HBL.out.size
    have hb' := below_new W (.cells #[.int .i64 (-1)] 3)
    have HPUn := hide (g_own HPU.out hb')
    have HFBn := hide ((⟨HFB.out.1.below hb', HFB.out.2⟩ : _ ∧ _))
    have HBLn := hide (HBL.out.trans (hb'.mono HBL.out.size))
    have HBBn := hide (cm1_new W)
    go_simp
    refine hK.out _ _ trivial (fun _ => ?_)
    clear hK K hb'
    clear HBL HPU HFB hmk
    exact cfd_1_5_10 n10 hQ HBBn HPUn HFBn HBLn n5_10
  · have l5 := (HPU.out.lt PU rfl).2
    have l10 := HFB.out.1.lt
    have hsz := HBL.out.size
    have hb' := below_new W (.cells (madeCells #[.int .i64 0] n) 3)
    have HPUn := hide (g_own HPU.out hb')
    have HFBn := hide ((⟨HFB.out.1.below hb', HFB.out.2⟩ : _ ∧ _))
    have HBLn := hide (HBL.out.trans (hb'.mono HBL.out.size))
    have HPVn : Hid ((W.alloc (.cells (madeCells #[.int .i64 0] n) 3)).ownsRow w0.heap.size 3 1 (.slice (some ⟨W.heap.size, 0, none⟩) n n) n (ints (List.replicate n 0))) := hide (own_low9 (made_own W n (by omega)) HBL.out.size)
    go_simp
    refine hK.out _ _ trivial (fun _ => ?_)
    clear hK K hb'
    clear HBL HPU HFB hmk
    simp only [List.setIfInBounds_toArray, List.set_cons_zero, List.set_cons_succ]
    refine wpAnyH_take (i := 8) (oi := ⟨some 22, _, _, _, _, none⟩) (v := .agg #[.slice (some ⟨PU, 0, none⟩) n n, .slice (some ⟨W.heap.size, 0, none⟩) n n]) rfl (by kernel_rfl) (by kernel_rfl) (by kernel_rfl) (fun _ _ _ h => h) (Or.inl ⟨by rfl, fun w' hSw => by clear hSw; go_simp⟩) trivial ?_
    simp only [Act.put, List.setIfInBounds_toArray, List.set_cons_zero, List.set_cons_succ]
    exact cfd_5_7_10 n10 hQ HPUn HPVn HFBn HBLn (by omega) n5_10 (by omega)
set_option maxRecDepth 20000 in
set_option maxHeartbeats 4000000 in
theorem cfd_7_10 {Q : Exit → Act → World → Prop} {w0 W : World} {e : Option Addr} {n ce R PV FB : Nat} (n10 : n ≤ 10) (hQ : Hid (∀ FB FT PU PV B X, CfI w0 X FB e n ce FT PU PV (List.replicate n (-1)) (List.replicate n 0) (List.replicate n 0) → Q .normal ⟨#[.slice e n ce, undef, .slice none 0 0, .pointer (some ⟨R, 0, none⟩), .bool false, .int .i64 (n : Int), .pointer (some ⟨FB, 0, none⟩), undef, .slice e n ce, .bool true, .bool false, undef, .slice e n ce, .int .i64 (n : Int), .slice e n ce, .slice (some ⟨B, 0, none⟩) 1 1, .int .i64 (n : Int), .slice (some ⟨FT, 0, none⟩) n n, .int .i64 (n : Int), .slice (some ⟨PU, 0, none⟩) n n, .int .i64 (n : Int), .slice (some ⟨PV, 0, none⟩) n n, .agg #[.slice (some ⟨PU, 0, none⟩) n n, .slice (some ⟨PV, 0, none⟩) n n], .agg (fv e n ce FT PU PV), undef, undef, undef, undef, undef, undef, undef, undef, undef, undef, undef, undef, undef], []⟩ X)) (HPV : Hid (W.ownsRow w0.heap.size 3 1 (.slice (some ⟨PV, 0, none⟩) n n) n (ints (List.replicate n 0)))) (HFB : Hid (Z4 W FB ∧ w0.heap.size ≤ FB)) (HBL : Hid (Below w0.heap.size w0 W)) (n7_10 : PV ≠ FB) :
    wpAnyH Try.prog .any ops4 (NoPanic Q) (fun _ => True) 6 #[true, false, true, false, true, false, true, true, false, false, true, false] ⟨#[.slice e n ce, undef, .slice none 0 0, .pointer (some ⟨R, 0, none⟩), .bool false, .int .i64 (n : Int), .pointer (some ⟨FB, 0, none⟩), undef, .slice e n ce, .bool true, .bool false, undef, .slice e n ce, .int .i64 (n : Int), .slice e n ce, undef, .int .i64 (n : Int), undef, .int .i64 (n : Int), undef, .int .i64 (n : Int), .slice (some ⟨PV, 0, none⟩) n n, undef, undef, undef, undef, undef, undef, undef, undef, undef, undef, undef, undef, undef, undef, undef], []⟩ W := by
  have hmk := makeI_run n (by omega)
  unfold ops4
  refine wpAnyH_ready (rs := [1, 5]) (by kernel_rfl) (by simp) ?_
  refine AllReadyH.cons (o := ⟨some 15, _, _, _, _, none⟩) rfl (fun K hK => ?_) (AllReadyH.cons (o := ⟨some 19, _, _, _, _, none⟩) rfl (fun K hK => ?_) (AllReadyH.nil))
  · have l7 := (HPV.out.lt PV rfl).2
    have l10 := HFB.out.1.lt
    have hsz := HBL.out.size
    have hb' := below_new W (.cells #[.int .i64 (-1)] 3)
    have HPVn := hide (g_own HPV.out hb')
    have HFBn := hide ((⟨HFB.out.1.below hb', HFB.out.2⟩ : _ ∧ _))
    have HBLn := hide (HBL.out.trans (hb'.mono HBL.out.size))
    have HBBn := hide (cm1_new W)
    go_simp
    refine hK.out _ _ trivial (fun _ => ?_)
    clear hK K hb'
    clear HBL HPV HFB hmk
    exact cfd_1_7_10 n10 hQ HBBn HPVn HFBn HBLn n7_10
  · have l7 := (HPV.out.lt PV rfl).2
    have l10 := HFB.out.1.lt
    have hsz := HBL.out.size
    have hb' := below_new W (.cells (madeCells #[.int .i64 0] n) 3)
    have HPVn := hide (g_own HPV.out hb')
    have HFBn := hide ((⟨HFB.out.1.below hb', HFB.out.2⟩ : _ ∧ _))
    have HBLn := hide (HBL.out.trans (hb'.mono HBL.out.size))
    have HPUn : Hid ((W.alloc (.cells (madeCells #[.int .i64 0] n) 3)).ownsRow w0.heap.size 3 1 (.slice (some ⟨W.heap.size, 0, none⟩) n n) n (ints (List.replicate n 0))) := hide (own_low9 (made_own W n (by omega)) HBL.out.size)
    go_simp
    refine hK.out _ _ trivial (fun _ => ?_)
    clear hK K hb'
    clear HBL HPV HFB hmk
    simp only [List.setIfInBounds_toArray, List.set_cons_zero, List.set_cons_succ]
    refine wpAnyH_take (i := 8) (oi := ⟨some 22, _, _, _, _, none⟩) (v := .agg #[.slice (some ⟨W.heap.size, 0, none⟩) n n, .slice (some ⟨PV, 0, none⟩) n n]) rfl (by kernel_rfl) (by kernel_rfl) (by kernel_rfl) (fun _ _ _ h => h) (Or.inl ⟨by rfl, fun w' hSw => by clear hSw; go_simp⟩) trivial ?_
    simp only [Act.put, List.setIfInBounds_toArray, List.set_cons_zero, List.set_cons_succ]
    exact cfd_5_7_10 n10 hQ HPUn HPVn HFBn HBLn (by omega) (by omega) n7_10
set_option maxRecDepth 20000 in
set_option maxHeartbeats 4000000 in
theorem cfd_1_5 {Q : Exit → Act → World → Prop} {w0 W : World} {e : Option Addr} {n ce R B PU : Nat} (n10 : n ≤ 10) (hQ : Hid (∀ FB FT PU PV B X, CfI w0 X FB e n ce FT PU PV (List.replicate n (-1)) (List.replicate n 0) (List.replicate n 0) → Q .normal ⟨#[.slice e n ce, undef, .slice none 0 0, .pointer (some ⟨R, 0, none⟩), .bool false, .int .i64 (n : Int), .pointer (some ⟨FB, 0, none⟩), undef, .slice e n ce, .bool true, .bool false, undef, .slice e n ce, .int .i64 (n : Int), .slice e n ce, .slice (some ⟨B, 0, none⟩) 1 1, .int .i64 (n : Int), .slice (some ⟨FT, 0, none⟩) n n, .int .i64 (n : Int), .slice (some ⟨PU, 0, none⟩) n n, .int .i64 (n : Int), .slice (some ⟨PV, 0, none⟩) n n, .agg #[.slice (some ⟨PU, 0, none⟩) n n, .slice (some ⟨PV, 0, none⟩) n n], .agg (fv e n ce FT PU PV), undef, undef, undef, undef, undef, undef, undef, undef, undef, undef, undef, undef, undef], []⟩ X)) (HBB : Hid (W.cell? ⟨B, 0, none⟩ = some (.int .i64 (-1)) ∧ B < W.heap.size)) (HPU : Hid (W.ownsRow w0.heap.size 3 1 (.slice (some ⟨PU, 0, none⟩) n n) n (ints (List.replicate n 0)))) (HBL : Hid (Below w0.heap.size w0 W)) :
    wpAnyH Try.prog .any ops4 (NoPanic Q) (fun _ => True) 6 #[true, true, true, false, true, true, true, false, false, false, false, false] ⟨#[.slice e n ce, undef, .slice none 0 0, .pointer (some ⟨R, 0, none⟩), .bool false, .int .i64 (n : Int), undef, undef, .slice e n ce, .bool true, .bool false, undef, .slice e n ce, .int .i64 (n : Int), .slice e n ce, .slice (some ⟨B, 0, none⟩) 1 1, .int .i64 (n : Int), undef, .int .i64 (n : Int), .slice (some ⟨PU, 0, none⟩) n n, .int .i64 (n : Int), undef, undef, undef, undef, undef, undef, undef, undef, undef, undef, undef, undef, undef, undef, undef, undef], []⟩ W := by
  have hmk := makeI_run n (by omega)
  unfold ops4
  refine wpAnyH_ready (rs := [3, 7, 10]) (by kernel_rfl) (by simp) ?_
  refine AllReadyH.cons (o := ⟨some 17, _, _, _, _, none⟩) rfl (fun K hK => ?_) (AllReadyH.cons (o := ⟨some 21, _, _, _, _, none⟩) rfl (fun K hK => ?_) (AllReadyH.cons (o := ⟨some 6, _, _, _, _, none⟩) rfl (fun K hK => ?_) (AllReadyH.nil)))
  · have l1 := HBB.out.2
    have l5 := (HPU.out.lt PU rfl).2
    have hsz := HBL.out.size
    go_simp
    refine (rp_any n10 HBB.out.1 HBB.out.2).mono ?_
    rintro e' x1 ⟨rfl, hb', own'⟩
    have HBBn := hide (cm1_below HBB.out hb')
    have HPUn := hide (g_own HPU.out hb')
    have HBLn := hide (HBL.out.trans (hb'.mono HBL.out.size))
    have HFTn : Hid (x1.ownsRow w0.heap.size 3 1 (.slice (some ⟨W.heap.size, 0, none⟩) n n) n (ints (List.replicate n (-1)))) := hide (own_low9 own' HBL.out.size)
    refine hK.out _ _ trivial (fun _ => ?_)
    clear hK K hb' own'
    clear HBL HBB HPU hmk
    exact cfd_1_3_5 n10 hQ HBBn HFTn HPUn HBLn (by omega)
  · have l1 := HBB.out.2
    have l5 := (HPU.out.lt PU rfl).2
    have hsz := HBL.out.size
    have hb' := below_new W (.cells (madeCells #[.int .i64 0] n) 3)
    have HBBn := hide (cm1_below HBB.out hb')
    have HPUn := hide (g_own HPU.out hb')
    have HBLn := hide (HBL.out.trans (hb'.mono HBL.out.size))
    have HPVn : Hid ((W.alloc (.cells (madeCells #[.int .i64 0] n) 3)).ownsRow w0.heap.size 3 1 (.slice (some ⟨W.heap.size, 0, none⟩) n n) n (ints (List.replicate n 0))) := hide (own_low9 (made_own W n (by omega)) HBL.out.size)
    go_simp
    refine hK.out _ _ trivial (fun _ => ?_)
    clear hK K hb'
    clear HBL HBB HPU hmk
    simp only [List.setIfInBounds_toArray, List.set_cons_zero, List.set_cons_succ]
    refine wpAnyH_take (i := 8) (oi := ⟨some 22, _, _, _, _, none⟩) (v := .agg #[.slice (some ⟨PU, 0, none⟩) n n, .slice (some ⟨W.heap.size, 0, none⟩) n n]) rfl (by kernel_rfl) (by kernel_rfl) (by kernel_rfl) (fun _ _ _ h => h) (Or.inl ⟨by rfl, fun w' hSw => by clear hSw; go_simp⟩) trivial ?_
    simp only [Act.put, List.setIfInBounds_toArray, List.set_cons_zero, List.set_cons_succ]
    exact cfd_1_5_7 n10 hQ HBBn HPUn HPVn HBLn (by omega)
  · have l1 := HBB.out.2
    have l5 := (HPU.out.lt PU rfl).2
    have hsz := HBL.out.size
    have hb' := below_new W (.cells #[.slice none 0 0, .slice none 0 0, .slice none 0 0, .slice none 0 0] 60)
    have HBBn := hide (cm1_below HBB.out hb')
    have HPUn := hide (g_own HPU.out hb')
    have HBLn := hide (HBL.out.trans (hb'.mono HBL.out.size))
    have HFBn := hide (⟨Z4.new W 60, hsz⟩ : _ ∧ _)
    go_simp
    refine hK.out _ _ trivial (fun _ => ?_)
    clear hK K hb'
    clear HBL HBB HPU hmk
    exact cfd_1_5_10 n10 hQ HBBn HPUn HFBn HBLn (by omega)
set_option maxRecDepth 20000 in
set_option maxHeartbeats 4000000 in
theorem cfd_1_7 {Q : Exit → Act → World → Prop} {w0 W : World} {e : Option Addr} {n ce R B PV : Nat} (n10 : n ≤ 10) (hQ : Hid (∀ FB FT PU PV B X, CfI w0 X FB e n ce FT PU PV (List.replicate n (-1)) (List.replicate n 0) (List.replicate n 0) → Q .normal ⟨#[.slice e n ce, undef, .slice none 0 0, .pointer (some ⟨R, 0, none⟩), .bool false, .int .i64 (n : Int), .pointer (some ⟨FB, 0, none⟩), undef, .slice e n ce, .bool true, .bool false, undef, .slice e n ce, .int .i64 (n : Int), .slice e n ce, .slice (some ⟨B, 0, none⟩) 1 1, .int .i64 (n : Int), .slice (some ⟨FT, 0, none⟩) n n, .int .i64 (n : Int), .slice (some ⟨PU, 0, none⟩) n n, .int .i64 (n : Int), .slice (some ⟨PV, 0, none⟩) n n, .agg #[.slice (some ⟨PU, 0, none⟩) n n, .slice (some ⟨PV, 0, none⟩) n n], .agg (fv e n ce FT PU PV), undef, undef, undef, undef, undef, undef, undef, undef, undef, undef, undef, undef, undef], []⟩ X)) (HBB : Hid (W.cell? ⟨B, 0, none⟩ = some (.int .i64 (-1)) ∧ B < W.heap.size)) (HPV : Hid (W.ownsRow w0.heap.size 3 1 (.slice (some ⟨PV, 0, none⟩) n n) n (ints (List.replicate n 0)))) (HBL : Hid (Below w0.heap.size w0 W)) :
    wpAnyH Try.prog .any ops4 (NoPanic Q) (fun _ => True) 6 #[true, true, true, false, true, false, true, true, false, false, false, false] ⟨#[.slice e n ce, undef, .slice none 0 0, .pointer (some ⟨R, 0, none⟩), .bool false, .int .i64 (n : Int), undef, undef, .slice e n ce, .bool true, .bool false, undef, .slice e n ce, .int .i64 (n : Int), .slice e n ce, .slice (some ⟨B, 0, none⟩) 1 1, .int .i64 (n : Int), undef, .int .i64 (n : Int), undef, .int .i64 (n : Int), .slice (some ⟨PV, 0, none⟩) n n, undef, undef, undef, undef, undef, undef, undef, undef, undef, undef, undef, undef, undef, undef, undef], []⟩ W := by
  have hmk := makeI_run n (by omega)
  unfold ops4
  refine wpAnyH_ready (rs := [3, 5, 10]) (by kernel_rfl) (by simp) ?_
  refine AllReadyH.cons (o := ⟨some 17, _, _, _, _, none⟩) rfl (fun K hK => ?_) (AllReadyH.cons (o := ⟨some 19, _, _, _, _, none⟩) rfl (fun K hK => ?_) (AllReadyH.cons (o := ⟨some 6, _, _, _, _, none⟩) rfl (fun K hK => ?_) (AllReadyH.nil)))
  · have l1 := HBB.out.2
    have l7 := (HPV.out.lt PV rfl).2
    have hsz := HBL.out.size
    go_simp
    refine (rp_any n10 HBB.out.1 HBB.out.2).mono ?_
    rintro e' x1 ⟨rfl, hb', own'⟩
    have HBBn := hide (cm1_below HBB.out hb')
    have HPVn := hide (g_own HPV.out hb')
    have HBLn := hide (HBL.out.trans (hb'.mono HBL.out.size))
    have HFTn : Hid (x1.ownsRow w0.heap.size 3 1 (.slice (some ⟨W.heap.size, 0, none⟩) n n) n (ints (List.replicate n (-1)))) := hide (own_low9 own' HBL.out.size)
    refine hK.out _ _ trivial (fun _ => ?_)
    clear hK K hb' own'
    clear HBL HBB HPV hmk
    exact cfd_1_3_7 n10 hQ HBBn HFTn HPVn HBLn (by omega)
  · have l1 := HBB.out.2
    have l7 := (HPV.out.lt PV rfl).2
    have hsz := HBL.out.size
    have hb' := below_new W (.cells (madeCells #[.int .i64 0] n) 3)
    have HBBn := hide (cm1_below HBB.out hb')
    have HPVn := hide (g_own HPV.out hb')
    have HBLn := hide (HBL.out.trans (hb'.mono HBL.out.size))
    have HPUn : Hid ((W.alloc (.cells (madeCells #[.int .i64 0] n) 3)).ownsRow w0.heap.size 3 1 (.slice (some ⟨W.heap.size, 0, none⟩) n n) n (ints (List.replicate n 0))) := hide (own_low9 (made_own W n (by omega)) HBL.out.size)
    go_simp
    refine hK.out _ _ trivial (fun _ => ?_)
    clear hK K hb'
    clear HBL HBB HPV hmk
    simp only [List.setIfInBounds_toArray, List.set_cons_zero, List.set_cons_succ]
    refine wpAnyH_take (i := 8) (oi := ⟨some 22, _, _, _, _, none⟩) (v := .agg #[.slice (some ⟨W.heap.size, 0, none⟩) n n, .slice (some ⟨PV, 0, none⟩) n n]) rfl (by kernel_rfl) (by kernel_rfl) (by kernel_rfl) (fun _ _ _ h => h) (Or.inl ⟨by rfl, fun w' hSw => by clear hSw; go_simp⟩) trivial ?_
    simp only [Act.put, List.setIfInBounds_toArray, List.set_cons_zero, List.set_cons_succ]
    exact cfd_1_5_7 n10 hQ HBBn HPUn HPVn HBLn (by omega)
  · have l1 := HBB.out.2
    have l7 := (HPV.out.lt PV rfl).2
    have hsz := HBL.out.size
    have hb' := below_new W (.cells #[.slice none 0 0, .slice none 0 0, .slice none 0 0, .slice none 0 0] 60)
    have HBBn := hide (cm1_below HBB.out hb')
    have HPVn := hide (g_own HPV.out hb')
    have HBLn := hide (HBL.out.trans (hb'.mono HBL.out.size))
    have HFBn := hide (⟨Z4.new W 60, hsz⟩ : _ ∧ _)
    go_simp
    refine hK.out _ _ trivial (fun _ => ?_)
    clear hK K hb'
    clear HBL HBB HPV hmk
    exact cfd_1_7_10 n10 hQ HBBn HPVn HFBn HBLn (by omega)
set_option maxRecDepth 20000 in
set_option maxHeartbeats 4000000 in
theorem cfd_1_10 {Q : Exit → Act → World → Prop} {w0 W : World} {e : Option Addr} {n ce R B FB : Nat} (n10 : n ≤ 10) (hQ : Hid (∀ FB FT PU PV B X, CfI w0 X FB e n ce FT PU PV (List.replicate n (-1)) (List.replicate n 0) (List.replicate n 0) → Q .normal ⟨#[.slice e n ce, undef, .slice none 0 0, .pointer (some ⟨R, 0, none⟩), .bool false, .int .i64 (n : Int), .pointer (some ⟨FB, 0, none⟩), undef, .slice e n ce, .bool true, .bool false, undef, .slice e n ce, .int .i64 (n : Int), .slice e n ce, .slice (some ⟨B, 0, none⟩) 1 1, .int .i64 (n : Int), .slice (some ⟨FT, 0, none⟩) n n, .int .i64 (n : Int), .slice (some ⟨PU, 0, none⟩) n n, .int .i64 (n : Int), .slice (some ⟨PV, 0, none⟩) n n, .agg #[.slice (some ⟨PU, 0, none⟩) n n, .slice (some ⟨PV, 0, none⟩) n n], .agg (fv e n ce FT PU PV), undef, undef, undef, undef, undef, undef, undef, undef, undef, undef, undef, undef, undef], []⟩ X)) (HBB : Hid (W.cell? ⟨B, 0, none⟩ = some (.int .i64 (-1)) ∧ B < W.heap.size)) (HFB : Hid (Z4 W FB ∧ w0.heap.size ≤ FB)) (HBL : Hid (Below w0.heap.size w0 W)) :
    wpAnyH Try.prog .any ops4 (NoPanic Q) (fun _ => True) 6 #[true, true, true, false, true, false, true, false, false, false, true, false] ⟨#[.slice e n ce, undef, .slice none 0 0, .pointer (some ⟨R, 0, none⟩), .bool false, .int .i64 (n : Int), .pointer (some ⟨FB, 0, none⟩), undef, .slice e n ce, .bool true, .bool false, undef, .slice e n ce, .int .i64 (n : Int), .slice e n ce, .slice (some ⟨B, 0, none⟩) 1 1, .int .i64 (n : Int), undef, .int .i64 (n : Int), undef, .int .i64 (n : Int), undef, undef, undef, undef, undef, undef, undef, undef, undef, undef, undef, undef, undef, undef, undef, undef], []⟩ W := by
  have hmk := makeI_run n (by omega)
  unfold ops4
  refine wpAnyH_ready (rs := [3, 5, 7]) (by kernel_rfl) (by simp) ?_
  refine AllReadyH.cons (o := ⟨some 17, _, _, _, _, none⟩) rfl (fun K hK => ?_) (AllReadyH.cons (o := ⟨some 19, _, _, _, _, none⟩) rfl (fun K hK => ?_) (AllReadyH.cons (o := ⟨some 21, _, _, _, _, none⟩) rfl (fun K hK => ?_) (AllReadyH.nil)))
  · have l1 := HBB.out.2
    have l10 := HFB.out.1.lt
    have hsz := HBL.out.size
    go_simp
    refine (rp_any n10 HBB.out.1 HBB.out.2).mono ?_
    rintro e' x1 ⟨rfl, hb', own'⟩
    have HBBn := hide (cm1_below HBB.out hb')
    have HFBn := hide ((⟨HFB.out.1.below hb', HFB.out.2⟩ : _ ∧ _))
    have HBLn := hide (HBL.out.trans (hb'.mono HBL.out.size))
    have HFTn : Hid (x1.ownsRow w0.heap.size 3 1 (.slice (some ⟨W.heap.size, 0, none⟩) n n) n (ints (List.replicate n (-1)))) := hide (own_low9 own' HBL.out.size)
    refine hK.out _ _ trivial (fun _ => ?_)
    clear hK K hb' own'
    clear HBL HBB HFB hmk
    exact cfd_1_3_10 n10 hQ HBBn HFTn HFBn HBLn (by omega)
  · have l1 := HBB.out.2
    have l10 := HFB.out.1.lt
    have hsz := HBL.out.size
    have hb' := below_new W (.cells (madeCells #[.int .i64 0] n) 3)
    have HBBn := hide (cm1_below HBB.out hb')
    have HFBn := hide ((⟨HFB.out.1.below hb', HFB.out.2⟩ : _ ∧ _))
    have HBLn := hide (HBL.out.trans (hb'.mono HBL.out.size))
    have HPUn : Hid ((W.alloc (.cells (madeCells #[.int .i64 0] n) 3)).ownsRow w0.heap.size 3 1 (.slice (some ⟨W.heap.size, 0, none⟩) n n) n (ints (List.replicate n 0))) := hide (own_low9 (made_own W n (by omega)) HBL.out.size)
    go_simp
    refine hK.out _ _ trivial (fun _ => ?_)
    clear hK K hb'
    clear HBL HBB HFB hmk
    exact cfd_1_5_10 n10 hQ HBBn HPUn HFBn HBLn (by omega)
  · have l1 := HBB.out.2
    have l10 := HFB.out.1.lt
    have hsz := HBL.out.size
    have hb' := below_new W (.cells (madeCells #[.int .i64 0] n) 3)
    have HBBn := hide (cm1_below HBB.out hb')
    have HFBn := hide ((⟨HFB.out.1.below hb', HFB.out.2⟩ : _ ∧ _))
    have HBLn := hide (HBL.out.trans (hb'.mono HBL.out.size))
    have HPVn : Hid ((W.alloc (.cells (madeCells #[.int .i64 0] n) 3)).ownsRow w0.heap.size 3 1 (.slice (some ⟨W.heap.size, 0, none⟩) n n) n (ints (List.replicate n 0))) := hide (own_low9 (made_own W n (by omega)) HBL.out.size)
    go_simp
    refine hK.out _ _ trivial (fun _ => ?_)
    clear hK K hb'
    clear HBL HBB HFB hmk
    exact cfd_1_7_10 n10 hQ HBBn HPVn HFBn HBLn (by omega)
set_option maxRecDepth 20000 in
set_option maxHeartbeats 4000000 in
theorem cfd_1_3 {Q : Exit → Act → World → Prop} {w0 W : World} {e : Option Addr} {n ce R B FT : Nat} (n10 : n ≤ 10) (hQ : Hid (∀ FB FT PU PV B X, CfI w0 X FB e n ce FT PU PV (List.replicate n (-1)) (List.replicate n 0) (List.replicate n 0) → Q .normal ⟨#[.slice e n ce, undef, .slice none 0 0, .pointer (some ⟨R, 0, none⟩), .bool false, .int .i64 (n : Int), .pointer (some ⟨FB, 0, none⟩), undef, .slice e n ce, .bool true, .bool false, undef, .slice e n ce, .int .i64 (n : Int), .slice e n ce, .slice (some ⟨B, 0, none⟩) 1 1, .int .i64 (n : Int), .slice (some ⟨FT, 0, none⟩) n n, .int .i64 (n : Int), .slice (some ⟨PU, 0, none⟩) n n, .int .i64 (n : Int), .slice (some ⟨PV, 0, none⟩) n n, .agg #[.slice (some ⟨PU, 0, none⟩) n n, .slice (some ⟨PV, 0, none⟩) n n], .agg (fv e n ce FT PU PV), undef, undef, undef, undef, undef, undef, undef, undef, undef, undef, undef, undef, undef], []⟩ X)) (HBB : Hid (W.cell? ⟨B, 0, none⟩ = some (.int .i64 (-1)) ∧ B < W.heap.size)) (HFT : Hid (W.ownsRow w0.heap.size 3 1 (.slice (some ⟨FT, 0, none⟩) n n) n (ints (List.replicate n (-1))))) (HBL : Hid (Below w0.heap.size w0 W)) :
    wpAnyH Try.prog .any ops4 (NoPanic Q) (fun _ => True) 6 #[true, true, true, true, true, false, true, false, false, false, false, false] ⟨#[.slice e n ce, undef, .slice none 0 0, .pointer (some ⟨R, 0, none⟩), .bool false, .int .i64 (n : Int), undef, undef, .slice e n ce, .bool true, .bool false, undef, .slice e n ce, .int .i64 (n : Int), .slice e n ce, .slice (some ⟨B, 0, none⟩) 1 1, .int .i64 (n : Int), .slice (some ⟨FT, 0, none⟩) n n, .int .i64 (n : Int), undef, .int .i64 (n : Int), undef, undef, undef, undef, undef, undef, undef, undef, undef, undef, undef, undef, undef, undef, undef, undef], []⟩ W := by
  have hmk := makeI_run n (by omega)
  unfold ops4
  refine wpAnyH_ready (rs := [5, 7, 10]) (by kernel_rfl) (by simp) ?_
  refine AllReadyH.cons (o := ⟨some 19, _, _, _, _, none⟩) rfl (fun K hK => ?_) (AllReadyH.cons (o := ⟨some 21, _, _, _, _, none⟩) rfl (fun K hK => ?_) (AllReadyH.cons (o := ⟨some 6, _, _, _, _, none⟩) rfl (fun K hK => ?_) (AllReadyH.nil)))
  · have l1 := HBB.out.2
    have l3 := (HFT.out.lt FT rfl).2
    have hsz := HBL.out.size
    have hb' := below_new W (.cells (madeCells #[.int .i64 0] n) 3)
    have HBBn := hide (cm1_below HBB.out hb')
    have HFTn := hide (g_own HFT.out hb')
    have HBLn := hide (HBL.out.trans (hb'.mono HBL.out.size))
    have HPUn : Hid ((W.alloc (.cells (madeCells #[.int .i64 0] n) 3)).ownsRow w0.heap.size 3 1 (.slice (some ⟨W.heap.size, 0, none⟩) n n) n (ints (List.replicate n 0))) := hide (own_low9 (made_own W n (by omega)) HBL.out.size)
    go_simp
    refine hK.out _ _ trivial (fun _ => ?_)
    clear hK K hb'
    clear HBL HBB HFT hmk
    exact cfd_1_3_5 n10 hQ HBBn HFTn HPUn HBLn (by omega)
  · have l1 := HBB.out.2
    have l3 := (HFT.out.lt FT rfl).2
    have hsz := HBL.out.size
    have hb' := below_new W (.cells (madeCells #[.int .i64 0] n) 3)
    have HBBn := hide (cm1_below HBB.out hb')
    have HFTn := hide (g_own HFT.out hb')
    have HBLn := hide (HBL.out.trans (hb'.mono HBL.out.size))
    have HPVn : Hid ((W.alloc (.cells (madeCells #[.int .i64 0] n) 3)).ownsRow w0.heap.size 3 1 (.slice (some ⟨W.heap.size, 0, none⟩) n n) n (ints (List.replicate n 0))) := hide (own_low9 (made_own W n (by omega)) HBL.out.size)
    go_simp
    refine hK.out _ _ trivial (fun _ => ?_)
    clear hK K hb'
    clear HBL HBB HFT hmk
    exact cfd_1_3_7 n10 hQ HBBn HFTn HPVn HBLn (by omega)
  · have l1 := HBB.out.2
    have l3 := (HFT.out.lt FT rfl).2
    have hsz := HBL.out.size
    have hb' := below_new W (.cells #[.slice none 0 0, .slice none 0 0, .slice none 0 0, .slice none 0 0] 60)
    have HBBn := hide (cm1_below HBB.out hb')
    have HFTn := hide (g_own HFT.out hb')
    have HBLn := hide (HBL.out.trans (hb'.mono HBL.out.size))
    have HFBn := hide (⟨Z4.new W 60, hsz⟩ : _ ∧ _)
    go_simp
    refine hK.out _ _ trivial (fun _ => ?_)
    clear hK K hb'
    clear HBL HBB HFT hmk
    exact cfd_1_3_10 n10 hQ HBBn HFTn HFBn HBLn (by omega)
set_option maxRecDepth 20000 in
set_option maxHeartbeats 4000000 in
theorem cfd_5 {Q : Exit → Act → World → Prop} {w0 W : World} {e : Option Addr} {n ce R PU : Nat} (n10 : n ≤ 10) (hQ : Hid (∀ FB FT PU PV B X, CfI w0 X FB e n ce FT PU PV (List.replicate n (-1)) (List.replicate n 0) (List.replicate n 0) → Q .normal ⟨#[.slice e n ce, undef, .slice none 0 0, .pointer (some ⟨R, 0, none⟩), .bool false, .int .i64 (n : Int), .pointer (some ⟨FB, 0, none⟩), undef, .slice e n ce, .bool true, .bool false, undef, .slice e n ce, .int .i64 (n : Int), .slice e n ce, .slice (some ⟨B, 0, none⟩) 1 1, .int .i64 (n : Int), .slice (some ⟨FT, 0, none⟩) n n, .int .i64 (n : Int), .slice (some ⟨PU, 0, none⟩) n n, .int .i64 (n : Int), .slice (some ⟨PV, 0, none⟩) n n, .agg #[.slice (some ⟨PU, 0, none⟩) n n, .slice (some ⟨PV, 0, none⟩) n n], .agg (fv e n ce FT PU PV), undef, undef, undef, undef, undef, undef, undef, undef, undef, undef, undef, undef, undef], []⟩ X)) (HPU : Hid (W.ownsRow w0.heap.size 3 1 (.slice (some ⟨PU, 0, none⟩) n n) n (ints (List.replicate n 0)))) (HBL : Hid (Below w0.heap.size w0 W)) :
    wpAnyH Try.prog .any ops4 (NoPanic Q) (fun _ => True) 7 #[true, false, true, false, true, true, true, false, false, false, false, false] ⟨#[.slice e n ce, undef, .slice none 0 0, .pointer (some ⟨R, 0, none⟩), .bool false, .int .i64 (n : Int), undef, undef, .slice e n ce, .bool true, .bool false, undef, .slice e n ce, .int .i64 (n : Int), .slice e n ce, undef, .int .i64 (n : Int), undef, .int .i64 (n : Int), .slice (some ⟨PU, 0, none⟩) n n, .int .i64 (n : Int), undef, undef, undef, undef, undef, undef, undef, undef, undef, undef, undef, undef, undef, undef, undef, undef], []⟩ W := by
  have hmk := makeI_run n (by omega)
  unfold ops4
  refine wpAnyH_ready (rs := [1, 7, 10]) (by kernel_rfl) (by simp) ?_
  refine AllReadyH.cons (o := ⟨some 15, _, _, _, _, none⟩) rfl (fun K hK => ?_) (AllReadyH.cons (o := ⟨some 21, _, _, _, _, none⟩) rfl (fun K hK => ?_) (AllReadyH.cons (o := ⟨some 6, _, _, _, _, none⟩) rfl (fun K hK => ?_) (AllReadyH.nil)))
  · have l5 := (HPU.out.lt PU rfl).2
    have hsz := HBL.out.size
    have hb' := below_new W (.cells #[.int .i64 (-1)] 3)
    have HPUn := hide (g_own HPU.out hb')
    have HBLn := hide (HBL.out.trans (hb'.mono HBL.out.size))
    have HBBn := hide (cm1_new W)
    go_simp
    refine hK.out _ _ trivial (fun _ => ?_)
    clear hK K hb'
    clear HBL HPU hmk
    exact cfd_1_5 n10 hQ HBBn HPUn HBLn 
  · have l5 := (HPU.out.lt PU rfl).2
    have hsz := HBL.out.size
    have hb' := below_new W (.cells (madeCells #[.int .i64 0] n) 3)
    have HPUn := hide (g_own HPU.out hb')
    have HBLn := hide (HBL.out.trans (hb'.mono HBL.out.size))
    have HPVn : Hid ((W.alloc (.cells (madeCells #[.int .i64 0] n) 3)).ownsRow w0.heap.size 3 1 (.slice (some ⟨W.heap.size, 0, none⟩) n n) n (ints (List.replicate n 0))) := hide (own_low9 (made_own W n (by omega)) HBL.out.size)
    go_simp
    refine hK.out _ _ trivial (fun _ => ?_)
    clear hK K hb'
    clear HBL HPU hmk
    simp only [List.setIfInBounds_toArray, List.set_cons_zero, List.set_cons_succ]
    refine wpAnyH_take (i := 8) (oi := ⟨some 22, _, _, _, _, none⟩) (v := .agg #[.slice (some ⟨PU, 0, none⟩) n n, .slice (some ⟨W.heap.size, 0, none⟩) n n]) rfl (by kernel_rfl) (by kernel_rfl) (by kernel_rfl) (fun _ _ _ h => h) (Or.inl ⟨by rfl, fun w' hSw => by clear hSw; go_simp⟩) trivial ?_
    simp only [Act.put, List.setIfInBounds_toArray, List.set_cons_zero, List.set_cons_succ]
    exact cfd_5_7 n10 hQ HPUn HPVn HBLn (by omega)
  · have l5 := (HPU.out.lt PU rfl).2
    have hsz := HBL.out.size
    have hb' := below_new W (.cells #[.slice none 0 0, .slice none 0 0, .slice none 0 0, .slice none 0 0] 60)
    have HPUn := hide (g_own HPU.out hb')
    have HBLn := hide (HBL.out.trans (hb'.mono HBL.out.size))
    have HFBn := hide (⟨Z4.new W 60, hsz⟩ : _ ∧ _)
    go_simp
    refine hK.out _ _ trivial (fun _ => ?_)
    clear hK K hb'
    clear HBL HPU hmk
    exact cfd_5_10 n10 hQ HPUn HFBn HBLn (by omega)
set_option maxRecDepth 20000 in
set_option maxHeartbeats 4000000 in
theorem cfd_7 {Q : Exit → Act → World → Prop} {w0 W : World} {e : Option Addr} {n ce R PV : Nat} (n10 : n ≤ 10) (hQ : Hid (∀ FB FT PU PV B X, CfI w0 X FB e n ce FT PU PV (List.replicate n (-1)) (List.replicate n 0) (List.replicate n 0) → Q .normal ⟨#[.slice e n ce, undef, .slice none 0 0, .pointer (some ⟨R, 0, none⟩), .bool false, .int .i64 (n : Int), .pointer (some ⟨FB, 0, none⟩), undef, .slice e n ce, .bool true, .bool false, undef, .slice e n ce, .int .i64 (n : Int), .slice e n ce, .slice (some ⟨B, 0, none⟩) 1 1, .int .i64 (n : Int), .slice (some ⟨FT, 0, none⟩) n n, .int .i64 (n : Int), .slice (some ⟨PU, 0, none⟩) n n, .int .i64 (n : Int), .slice (some ⟨PV, 0, none⟩) n n, .agg #[.slice (some ⟨PU, 0, none⟩) n n, .slice (some ⟨PV, 0, none⟩) n n], .agg (fv e n ce FT PU PV), undef, undef, undef, undef, undef, undef, undef, undef, undef, undef, undef, undef, undef], []⟩ X)) (HPV : Hid (W.ownsRow w0.heap.size 3 1 (.slice (some ⟨PV, 0, none⟩) n n) n (ints (List.replicate n 0)))) (HBL : Hid (Below w0.heap.size w0 W)) :
    wpAnyH Try.prog .any ops4 (NoPanic Q) (fun _ => True) 7 #[true, false, true, false, true, false, true, true, false, false, false, false] ⟨#[.slice e n ce, undef, .slice none 0 0, .pointer (some ⟨R, 0, none⟩), .bool false, .int .i64 (n : Int), undef, undef, .slice e n ce, .bool true, .bool false, undef, .slice e n ce, .int .i64 (n : Int), .slice e n ce, undef, .int .i64 (n : Int), undef, .int .i64 (n : Int), undef, .int .i64 (n : Int), .slice (some ⟨PV, 0, none⟩) n n, undef, undef, undef, undef, undef, undef, undef, undef, undef, undef, undef, undef, undef, undef, undef], []⟩ W := by
  have hmk := makeI_run n (by omega)
  unfold ops4
  refine wpAnyH_ready (rs := [1, 5, 10]) (by kernel_rfl) (by simp) ?_
  refine AllReadyH.cons (o := ⟨some 15, _, _, _, _, none⟩) rfl (fun K hK => ?_) (AllReadyH.cons (o := ⟨some 19, _, _, _, _, none⟩) rfl (fun K hK => ?_) (AllReadyH.cons (o := ⟨some 6, _, _, _, _, none⟩) rfl (fun K hK => ?_) (AllReadyH.nil)))
  · have l7 := (HPV.out.lt PV rfl).2
    have hsz := HBL.out.size
    have hb' := below_new W (.cells #[.int .i64 (-1)] 3)
    have HPVn := hide (g_own HPV.out hb')
    have HBLn := hide (HBL.out.trans (hb'.mono HBL.out.size))
    have HBBn := hide (cm1_new W)
    go_simp
    refine hK.out _ _ trivial (fun _ => ?_)
    clear hK K hb'
    clear HBL HPV hmk
    exact cfd_1_7 n10 hQ HBBn HPVn HBLn 
  · have l7 := (HPV.out.lt PV rfl).2
    have hsz := HBL.out.size
    have hb' := below_new W (.cells (madeCells #[.int .i64 0] n) 3)
    have HPVn := hide (g_own HPV.out hb')
    have HBLn := hide (HBL.out.trans (hb'.mono HBL.out.size))
    have HPUn : Hid ((W.alloc (.cells (madeCells #[.int .i64 0] n) 3)).ownsRow w0.heap.size 3 1 (.slice (some ⟨W.heap.size, 0, none⟩) n n) n (ints (List.replicate n 0))) := hide (own_low9 (made_own W n (by omega)) HBL.out.size)
    go_simp
    refine hK.out _ _ trivial (fun _ => ?_)
    clear hK K hb'
    clear HBL HPV hmk
    simp only [List.setIfInBounds_toArray, List.set_cons_zero, List.set_cons_succ]
    refine wpAnyH_take (i := 8) (oi := ⟨some 22, _, _, _, _, none⟩) (v := .agg #[.slice (some ⟨W.heap.size, 0, none⟩) n n, .slice (some ⟨PV, 0, none⟩) n n]) rfl (by kernel_rfl) (by kernel_rfl) (by kernel_rfl) (fun _ _ _ h => h) (Or.inl ⟨by rfl, fun w' hSw => by clear hSw; go_simp⟩) trivial ?_
    simp only [Act.put, List.setIfInBounds_toArray, List.set_cons_zero, List.set_cons_succ]
    exact cfd_5_7 n10 hQ HPUn HPVn HBLn (by omega)
  · have l7 := (HPV.out.lt PV rfl).2
    have hsz := HBL.out.size
    have hb' := below_new W (.cells #[.slice none 0 0, .slice none 0 0, .slice none 0 0, .slice none 0 0] 60)
    have HPVn := hide (g_own HPV.out hb')
    have HBLn := hide (HBL.out.trans (hb'.mono HBL.out.size))
    have HFBn := hide (⟨Z4.new W 60, hsz⟩ : _ ∧ _)
    go_simp
    refine hK.out _ _ trivial (fun _ => ?_)
    clear hK K hb'
    clear HBL HPV hmk
    exact cfd_7_10 n10 hQ HPVn HFBn HBLn (by omega)
set_option maxRecDepth 20000 in
set_option maxHeartbeats 4000000 in
theorem cfd_10 {Q : Exit → Act → World → Prop} {w0 W : World} {e : Option Addr} {n ce R FB : Nat} (n10 : n ≤ 10) (hQ : Hid (∀ FB FT PU PV B X, CfI w0 X FB e n ce FT PU PV (List.replicate n (-1)) (List.replicate n 0) (List.replicate n 0) → Q .normal ⟨#[.slice e n ce, undef, .slice none 0 0, .pointer (some ⟨R, 0, none⟩), .bool false, .int .i64 (n : Int), .pointer (some ⟨FB, 0, none⟩), undef, .slice e n ce, .bool true, .bool false, undef, .slice e n ce, .int .i64 (n : Int), .slice e n ce, .slice (some ⟨B, 0, none⟩) 1 1, .int .i64 (n : Int), .slice (some ⟨FT, 0, none⟩) n n, .int .i64 (n : Int), .slice (some ⟨PU, 0, none⟩) n n, .int .i64 (n : Int), .slice (some ⟨PV, 0, none⟩) n n, .agg #[.slice (some ⟨PU, 0, none⟩) n n, .slice (some ⟨PV, 0, none⟩) n n], .agg (fv e n ce FT PU PV), undef, undef, undef, undef, undef, undef, undef, undef, undef, undef, undef, undef, undef], []⟩ X)) (HFB : Hid (Z4 W FB ∧ w0.heap.size ≤ FB)) (HBL : Hid (Below w0.heap.size w0 W)) :
    wpAnyH Try.prog .any ops4 (NoPanic Q) (fun _ => True) 7 #[true, false, true, false, true, false, true, false, false, false, true, false] ⟨#[.slice e n ce, undef, .slice none 0 0, .pointer (some ⟨R, 0, none⟩), .bool false, .int .i64 (n : Int), .pointer (some ⟨FB, 0, none⟩), undef, .slice e n ce, .bool true, .bool false, undef, .slice e n ce, .int .i64 (n : Int), .slice e n ce, undef, .int .i64 (n : Int), undef, .int .i64 (n : Int), undef, .int .i64 (n : Int), undef, undef, undef, undef, undef, undef, undef, undef, undef, undef, undef, undef, undef, undef, undef, undef], []⟩ W := by
  have hmk := makeI_run n (by omega)
  unfold ops4
  refine wpAnyH_ready (rs := [1, 5, 7]) (by kernel_rfl) (by simp) ?_
  refine AllReadyH.cons (o := ⟨some 15, _, _, _, _, none⟩) rfl (fun K hK => ?_) (AllReadyH.cons (o := ⟨some 19, _, _, _, _, none⟩) rfl (fun K hK => ?_) (AllReadyH.cons (o := ⟨some 21, _, _, _, _, none⟩) rfl (fun K hK => ?_) (AllReadyH.nil)))
  · have l10 := HFB.out.1.lt
    have hsz := HBL.out.size
    have hb' := below_new W (.cells #[.int .i64 (-1)] 3)
    have HFBn := hide ((⟨HFB.out.1.below hb', HFB.out.2⟩ : _ ∧ _))
    have HBLn := hide (HBL.out.trans (hb'.mono HBL.out.size))
    have HBBn := hide (cm1_new W)
    go_simp
    refine hK.out _ _ trivial (fun _ => ?_)
    clear hK K hb'
    clear HBL HFB hmk
    exact cfd_1_10 n10 hQ HBBn HFBn HBLn 
  · have l10 := HFB.out.1.lt
    have hsz := HBL.out.size
    have hb' := below_new W (.cells (madeCells #[.int .i64 0] n) 3)
    have HFBn := hide ((⟨HFB.out.1.below hb', HFB.out.2⟩ : _ ∧ _))
    have HBLn := hide (HBL.out.trans (hb'.mono HBL.out.size))
    have HPUn : Hid ((W.alloc (.cells (madeCells #[.int .i64 0] n) 3)).ownsRow w0.heap.size 3 1 (.slice (some ⟨W.heap.size, 0, none⟩) n n) n (ints (List.replicate n 0))) := hide (own_low9 (made_own W n (by omega)) HBL.out.size)
    go_simp
    refine hK.out _ _ trivial (fun _ => ?_)
    clear hK K hb'
    clear HBL HFB hmk
    exact cfd_5_10 n10 hQ HPUn HFBn HBLn (by omega)
  · have l10 := HFB.out.1.lt
    have hsz := HBL.out.size
    have hb' := below_new W (.cells (madeCells #[.int .i64 0] n) 3)
    have HFBn := hide ((⟨HFB.out.1.below hb', HFB.out.2⟩ : _ ∧ _))
    have HBLn := hide (HBL.out.trans (hb'.mono HBL.out.size))
    have HPVn : Hid ((W.alloc (.cells (madeCells #[.int .i64 0] n) 3)).ownsRow w0.heap.size 3 1 (.slice (some ⟨W.heap.size, 0, none⟩) n n) n (ints (List.replicate n 0))) := hide (own_low9 (made_own W n (by omega)) HBL.out.size)
    go_simp
    refine hK.out _ _ trivial (fun _ => ?_)
    clear hK K hb'
    clear HBL HFB hmk
    exact cfd_7_10 n10 hQ HPVn HFBn HBLn (by omega)
set_option maxRecDepth 20000 in
set_option maxHeartbeats 4000000 in
theorem cfd_1 {Q : Exit → Act → World → Prop} {w0 W : World} {e : Option Addr} {n ce R B : Nat} (n10 : n ≤ 10) (hQ : Hid (∀ FB FT PU PV B X, CfI w0 X FB e n ce FT PU PV (List.replicate n (-1)) (List.replicate n 0) (List.replicate n 0) → Q .normal ⟨#[.slice e n ce, undef, .slice none 0 0, .pointer (some ⟨R, 0, none⟩), .bool false, .int .i64 (n : Int), .pointer (some ⟨FB, 0, none⟩), undef, .slice e n ce, .bool true, .bool false, undef, .slice e n ce, .int .i64 (n : Int), .slice e n ce, .slice (some ⟨B, 0, none⟩) 1 1, .int .i64 (n : Int), .slice (some ⟨FT, 0, none⟩) n n, .int .i64 (n : Int), .slice (some ⟨PU, 0, none⟩) n n, .int .i64 (n : Int), .slice (some ⟨PV, 0, none⟩) n n, .agg #[.slice (some ⟨PU, 0, none⟩) n n, .slice (some ⟨PV, 0, none⟩) n n], .agg (fv e n ce FT PU PV), undef, undef, undef, undef, undef, undef, undef, undef, undef, undef, undef, undef, undef], []⟩ X)) (HBB : Hid (W.cell? ⟨B, 0, none⟩ = some (.int .i64 (-1)) ∧ B < W.heap.size)) (HBL : Hid (Below w0.heap.size w0 W)) :
    wpAnyH Try.prog .any ops4 (NoPanic Q) (fun _ => True) 7 #[true, true, true, false, true, false, true, false, false, false, false, false] ⟨#[.slice e n ce, undef, .slice none 0 0, .pointer (some ⟨R, 0, none⟩), .bool false, .int .i64 (n : Int), undef, undef, .slice e n ce, .bool true, .bool false, undef, .slice e n ce, .int .i64 (n : Int), .slice e n ce, .slice (some ⟨B, 0, none⟩) 1 1, .int .i64 (n : Int), undef, .int .i64 (n : Int), undef, .int .i64 (n : Int), undef, undef, undef, undef, undef, undef, undef, undef, undef, undef, undef, undef, undef, undef, undef, undef], []⟩ W := by
  have hmk := makeI_run n (by omega)
  unfold ops4
  refine wpAnyH_ready (rs := [3, 5, 7, 10]) (by kernel_rfl) (by simp) ?_
  refine AllReadyH.cons (o := ⟨some 17, _, _, _, _, none⟩) rfl (fun K hK => ?_) (AllReadyH.cons (o := ⟨some 19, _, _, _, _, none⟩) rfl (fun K hK => ?_) (AllReadyH.cons (o := ⟨some 21, _, _, _, _, none⟩) rfl (fun K hK => ?_) (AllReadyH.cons (o := ⟨some 6, _, _, _, _, none⟩) rfl (fun K hK => ?_) (AllReadyH.nil))))
  · have l1 := HBB.out.2
    have hsz := HBL.out.size
    go_simp
    refine (rp_any n10 HBB.out.1 HBB.out.2).mono ?_
    rintro e' x1 ⟨rfl, hb', own'⟩
    have HBBn := hide (cm1_below HBB.out hb')
    have HBLn := hide (HBL.out.trans (hb'.mono HBL.out.size))
    have HFTn : Hid (x1.ownsRow w0.heap.size 3 1 (.slice (some ⟨W.heap.size, 0, none⟩) n n) n (ints (List.replicate n (-1)))) := hide (own_low9 own' HBL.out.size)
    refine hK.out _ _ trivial (fun _ => ?_)
    clear hK K hb' own'
    clear HBL HBB hmk
    exact cfd_1_3 n10 hQ HBBn HFTn HBLn 
  · have l1 := HBB.out.2
    have hsz := HBL.out.size
    have hb' := below_new W (.cells (madeCells #[.int .i64 0] n) 3)
    have HBBn := hide (cm1_below HBB.out hb')
    have HBLn := hide (HBL.out.trans (hb'.mono HBL.out.size))
    have HPUn : Hid ((W.alloc (.cells (madeCells #[.int .i64 0] n) 3)).ownsRow w0.heap.size 3 1 (.slice (some ⟨W.heap.size, 0, none⟩) n n) n (ints (List.replicate n 0))) := hide (own_low9 (made_own W n (by omega)) HBL.out.size)
    go_simp
    refine hK.out _ _ trivial (fun _ => ?_)
    clear hK K hb'
    clear HBL HBB hmk
    exact cfd_1_5 n10 hQ HBBn HPUn HBLn 
  · have l1 := HBB.out.2
    have hsz := HBL.out.size
    have hb' := below_new W (.cells (madeCells #[.int .i64 0] n) 3)
    have HBBn := hide (cm1_below HBB.out hb')
    have HBLn := hide (HBL.out.trans (hb'.mono HBL.out.size))
    have HPVn : Hid ((W.alloc (.cells (madeCells #[.int .i64 0] n) 3)).ownsRow w0.heap.size 3 1 (.slice (some ⟨W.heap.size, 0, none⟩) n n) n (ints (List.replicate n 0))) := hide (own_low9 (made_own W n (by omega)) HBL.out.size)
    go_simp
    refine hK.out _ _ trivial (fun _ => ?_)
    clear hK K hb'
    clear HBL HBB hmk
    exact cfd_1_7 n10 hQ HBBn HPVn HBLn 
  · have l1 := HBB.out.2
    have hsz := HBL.out.size
    have hb' := below_new W (.cells #[.slice none 0 0, .slice none 0 0, .slice none 0 0, .slice none 0 0] 60)
    have HBBn := hide (cm1_below HBB.out hb')
    have HBLn := hide (HBL.out.trans (hb'.mono HBL.out.size))
    have HFBn := hide (⟨Z4.new W 60, hsz⟩ : _ ∧ _)
    go_simp
    refine hK.out _ _ trivial (fun _ => ?_)
    clear hK K hb'
    clear HBL HBB hmk
    exact cfd_1_10 n10 hQ HBBn HFBn HBLn 
set_option maxRecDepth 20000 in
set_option maxHeartbeats 4000000 in
theorem cfd_0 {Q : Exit → Act → World → Prop} {w0 W : World} {e : Option Addr} {n ce R  : Nat} (n10 : n ≤ 10) (hQ : Hid (∀ FB FT PU PV B X, CfI w0 X FB e n ce FT PU PV (List.replicate n (-1)) (List.replicate n 0) (List.replicate n 0) → Q .normal ⟨#[.slice e n ce, undef, .slice none 0 0, .pointer (some ⟨R, 0, none⟩), .bool false, .int .i64 (n : Int), .pointer (some ⟨FB, 0, none⟩), undef, .slice e n ce, .bool true, .bool false, undef, .slice e n ce, .int .i64 (n : Int), .slice e n ce, .slice (some ⟨B, 0, none⟩) 1 1, .int .i64 (n : Int), .slice (some ⟨FT, 0, none⟩) n n, .int .i64 (n : Int), .slice (some ⟨PU, 0, none⟩) n n, .int .i64 (n : Int), .slice (some ⟨PV, 0, none⟩) n n, .agg #[.slice (some ⟨PU, 0, none⟩) n n, .slice (some ⟨PV, 0, none⟩) n n], .agg (fv e n ce FT PU PV), undef, undef, undef, undef, undef, undef, undef, undef, undef, undef, undef, undef, undef], []⟩ X)) (HBL : Hid (Below w0.heap.size w0 W)) :
    wpAnyH Try.prog .any ops4 (NoPanic Q) (fun _ => True) 8 #[true, false, true, false, true, false, true, false, false, false, false, false] ⟨#[.slice e n ce, undef, .slice none 0 0, .pointer (some ⟨R, 0, none⟩), .bool false, .int .i64 (n : Int), undef, undef, .slice e n ce, .bool true, .bool false, undef, .slice e n ce, .int .i64 (n : Int), .slice e n ce, undef, .int .i64 (n : Int), undef, .int .i64 (n : Int), undef, .int .i64 (n : Int), undef, undef, undef, undef, undef, undef, undef, undef, undef, undef, undef, undef, undef, undef, undef, undef], []⟩ W := by
  have hmk := makeI_run n (by omega)
  unfold ops4
  refine wpAnyH_ready (rs := [1, 5, 7, 10]) (by kernel_rfl) (by simp) ?_
  refine AllReadyH.cons (o := ⟨some 15, _, _, _, _, none⟩) rfl (fun K hK => ?_) (AllReadyH.cons (o := ⟨some 19, _, _, _, _, none⟩) rfl (fun K hK => ?_) (AllReadyH.cons (o := ⟨some 21, _, _, _, _, none⟩) rfl (fun K hK => ?_) (AllReadyH.cons (o := ⟨some 6, _, _, _, _, none⟩) rfl (fun K hK => ?_) (AllReadyH.nil))))
  · have hsz := HBL.out.size
    have hb' := below_new W (.cells #[.int .i64 (-1)] 3)
    have HBLn := hide (HBL.out.trans (hb'.mono HBL.out.size))
    have HBBn := hide (cm1_new W)
    go_simp
    refine hK.out _ _ trivial (fun _ => ?_)
    clear hK K hb'
    clear HBL  hmk
    exact cfd_1 n10 hQ HBBn HBLn 
  · have hsz := HBL.out.size
    have hb' := below_new W (.cells (madeCells #[.int .i64 0] n) 3)
    have HBLn := hide (HBL.out.trans (hb'.mono HBL.out.size))
    have HPUn : Hid ((W.alloc (.cells (madeCells #[.int .i64 0] n) 3)).ownsRow w0.heap.size 3 1 (.slice (some ⟨W.heap.size, 0, none⟩) n n) n (ints (List.replicate n 0))) := hide (own_low9 (made_own W n (by omega)) HBL.out.size)
    go_simp
    refine hK.out _ _ trivial (fun _ => ?_)
    clear hK K hb'
    clear HBL  hmk
    exact cfd_5 n10 hQ HPUn HBLn 
  · have hsz := HBL.out.size
    have hb' := below_new W (.cells (madeCells #[.int .i64 0] n) 3)
    have HBLn := hide (HBL.out.trans (hb'.mono HBL.out.size))
    have HPVn : Hid ((W.alloc (.cells (madeCells #[.int .i64 0] n) 3)).ownsRow w0.heap.size 3 1 (.slice (some ⟨W.heap.size, 0, none⟩) n n) n (ints (List.replicate n 0))) := hide (own_low9 (made_own W n (by omega)) HBL.out.size)
    go_simp
    refine hK.out _ _ trivial (fun _ => ?_)
    clear hK K hb'
    clear HBL  hmk
    exact cfd_7 n10 hQ HPVn HBLn 
  · have hsz := HBL.out.size
    have hb' := below_new W (.cells #[.slice none 0 0, .slice none 0 0, .slice none 0 0, .slice none 0 0] 60)
    have HBLn := hide (HBL.out.trans (hb'.mono HBL.out.size))
    have HFBn := hide (⟨Z4.new W 60, hsz⟩ : _ ∧ _)
    go_simp
    refine hK.out _ _ trivial (fun _ => ?_)
    clear hK K hb'
    clear HBL  hmk
    exact cfd_10 n10 hQ HFBn HBLn 
end Go.Proofs.Ytcniegaogdggaaa
namespace Go.Proofs.Ytcniegaogdggaaa
open Go.RowKit

set_option maxRecDepth 20000 in
set_option maxHeartbeats 20000000 in
theorem cf_yes {e : Option Addr} {n ce : Nat} {C : List (List Int)} {w : World} (hg : Hu.costB C = true) (hl : C.length = n) (hc : CRow w e C) :
    Calls Try.prog 15 #[.slice e n ce] w fun e w' => ∃ FT PU PV, e = .returned (.tuple #[.slice (some ⟨FT, 0, none⟩) n n, .agg #[.slice (some ⟨PU, 0, none⟩) n n, .slice (some ⟨PV, 0, none⟩) n n], .bool true]) ∧ CfO w w' n FT PU PV C := by
  have gl := Hu.costB_len hg
  rw [hl] at gl
  obtain ⟨n1, n10⟩ := gl
  have hG := Hu.costB_good hg
  rw [hl] at hG
  have HG := hide hg
  have HN := hide hl
  have HGd := hide hG
  have bn0 := below_new w (.cells #[.slice none 0 0, .slice none 0 0] 29)
  have hc1 := hc.below bn0
  have HGC := hide (gc_eq (w := w.alloc (.cells #[.slice none 0 0, .slice none 0 0] 29)) (c := ce) HN (hide hc1) HG)
  have r0 : (w.alloc (.cells #[.slice none 0 0, .slice none 0 0] 29)).cell? ⟨w.heap.size, 0, none⟩ = some (.slice none 0 0) := by simp
  have r1 : (w.alloc (.cells #[.slice none 0 0, .slice none 0 0] 29)).cell? ⟨w.heap.size, 1, none⟩ = some (.slice none 0 0) := by simp
  have r2 : (w.alloc (.cells #[.slice none 0 0, .slice none 0 0] 29)).frozen? ⟨w.heap.size, 0, none⟩ = false := by simp
  have r3 : (w.alloc (.cells #[.slice none 0 0, .slice none 0 0] 29)).frozen? ⟨w.heap.size, 1, none⟩ = false := by simp
  have hs0 : (w.alloc (.cells #[.slice none 0 0, .slice none 0 0] 29)).heap.size = w.heap.size + 1 := World.size_alloc _ _
  obtain ⟨w0, hw0⟩ : ∃ w0, w0 = w.alloc (.cells #[.slice none 0 0, .slice none 0 0] 29) := ⟨_, rfl⟩
  rw [← hw0] at bn0 hc1 HGC r0 r1 r2 r3 hs0
  have HW0 := hide hw0.symm
  have HB0 := hide bn0
  have HC1 := hide hc1
  clear bn0 hc hc1 hw0 hg hl hG
  go_enter Try.func15, Try.ntmps15
  go_upto_region 1 with fail
  rw [HW0.out]
  clear HW0
  go_wp2_with fail
  refine HGC.out.mono ?_
  rintro e1 w1 ⟨rfl, hw1⟩
  obtain rfl : w0 = w1 := hw1.symm
  clear HGC
  have hmk := makeI_run n (by omega)
  go_upto_region 4 with fail
  go_cut [6, 14, 15, 16, 17, 18, 19, 20, 21, 22, 23] (fun s6 _ _ _ _ _ _ _ _ _ _ wc => ∃ FB FT PU PV, s6 = .pointer (some ⟨FB, 0, none⟩) ∧ Hid (CfI w0 wc FB e n ce FT PU PV (List.replicate n (-1)) (List.replicate n 0) (List.replicate n 0)))
  case first =>
    have HBL : Hid (Below w0.heap.size w0 w0.drew) := hide (Below.refl _ _).drew
    refine wp_region_noPanic ?_
    refine wp_region_held_drew (S := fun _ => True) (by kernel_rfl) trivial (fun hHeld => ?_)
    clear hHeld
    refine wpAnyH_take (i := 0) (oi := ⟨some 14, _, _, _, _, none⟩) (v := .slice e n ce) rfl (by kernel_rfl) (by kernel_rfl) (by kernel_rfl) (fun _ _ _ h => h) (Or.inl ⟨by rfl, fun w' hSw => by clear hSw; go_simp⟩) trivial ?_
    simp only [Act.put, List.setIfInBounds_toArray, List.set_cons_zero, List.set_cons_succ]
    refine wpAnyH_take (i := 2) (oi := ⟨some 16, _, _, _, _, none⟩) (v := .int .i64 (n : Int)) rfl (by kernel_rfl) (by kernel_rfl) (by kernel_rfl) (fun _ _ _ h => h) (Or.inl ⟨by rfl, fun w' hSw => by clear hSw; go_simp⟩) trivial ?_
    simp only [Act.put, List.setIfInBounds_toArray, List.set_cons_zero, List.set_cons_succ]
    refine wpAnyH_take (i := 4) (oi := ⟨some 18, _, _, _, _, none⟩) (v := .int .i64 (n : Int)) rfl (by kernel_rfl) (by kernel_rfl) (by kernel_rfl) (fun _ _ _ h => h) (Or.inl ⟨by rfl, fun w' hSw => by clear hSw; go_simp⟩) trivial ?_
    simp only [Act.put, List.setIfInBounds_toArray, List.set_cons_zero, List.set_cons_succ]
    refine wpAnyH_take (i := 6) (oi := ⟨some 20, _, _, _, _, none⟩) (v := .int .i64 (n : Int)) rfl (by kernel_rfl) (by kernel_rfl) (by kernel_rfl) (fun _ _ _ h => h) (Or.inl ⟨by rfl, fun w' hSw => by clear hSw; go_simp⟩) trivial ?_
    simp only [Act.put, List.setIfInBounds_toArray, List.set_cons_zero, List.set_cons_succ]
    refine cfd_0 n10 (hide fun FB FT PU PV B X HCF => ?_) HBL
    go_wp2_with fail
    go_meet
    case rel => exact ⟨FB, FT, PU, PV, rfl, hide HCF⟩
  case rest =>
    obtain ⟨FB, FT, PU, PV, rfl, HCF⟩ := hcut
    have HCF0 : Hid (CfI w0 wc FB e n ce FT PU PV (Hu.fitR n (Hu.fitTo C n 0).o 0) (Hu.tab n (Hu.fitTo C n 0).u) (Hu.tab n (Hu.fitTo C n 0).v)) := hide (by rw [fitR_zero]; show CfI w0 wc FB e n ce FT PU PV _ (Hu.tab n fun _ => 0) (Hu.tab n fun _ => 0); rw [tab_zero]; exact HCF.out)
    clear HCF hmk
    go_wp2_with fail
    go_loopw [7, 26] (fun _ s wr => ∃ (k : Nat), s = .int .i64 k ∧ k ≤ n ∧ Hid (CfI w0 wr FB e n ce FT PU PV (Hu.fitR n (Hu.fitTo C n k).o k) (Hu.tab n (Hu.fitTo C n k).u) (Hu.tab n (Hu.fitTo C n k).v))) (fun _ s _ => n - (intOf s).toNat)
    case atStart => exact ⟨0, rfl, Nat.zero_le _, HCF0⟩
    case round =>
      clear HCF0
      obtain ⟨k, rfl, hk, HCF⟩ := hrel
      by_cases hlt : k < n
      · have i0 : (0 : Int) ≤ (k : Int) := by omega
        have i1 : (k : Int) < (n : Int) := by omega
        have f0 := HCF.out.f0
        have f1 := HCF.out.f1
        have f2 := HCF.out.f2
        have f3 := HCF.out.f3
        have HAL := hide (al_any (ce := ce) HG.out HN.out hlt (Hu.fit_ou HGd.out k hk) HGd.out HC1.out HCF.out.b0 HCF.out.n1 HCF.out.n2 HCF.out.n3 HCF.out.ft HCF.out.pu HCF.out.pv)
        go_wp2_with fail
        refine HAL.out.mono ?_
        rintro e2 w2 ⟨rfl, h1, h2, h3, h4⟩
        have HCN : Hid (CfI w0 w2 FB e n ce FT PU PV (Hu.fitR n (Hu.fitTo C n (k + 1)).o (k + 1)) (Hu.tab n (Hu.fitTo C n (k + 1)).u) (Hu.tab n (Hu.fitTo C n (k + 1)).v)) := hide (HCF.out.more h4 h1 h2 h3)
        clear h1 h2 h3 h4 HAL HCF f0 f1 f2 f3
        go_wp2_with fail
        go_roundw
        case rel => exact ⟨k + 1, by go_num, by omega, HCN⟩
        case measure => simp only [intOf]; omega
      · have hke : k = n := by omega
        subst hke
        have f1 := HCF.out.f1
        have f2 := HCF.out.f2
        have f3 := HCF.out.f3
        have hR : w.heap.size < w0.heap.size := by omega
        have q0 := (HCF.out.b0.cell (p := ⟨w.heap.size, 0, none⟩) hR).trans r0
        have q1 := (HCF.out.b0.cell (p := ⟨w.heap.size, 1, none⟩) hR).trans r1
        have q2 := (HCF.out.b0.frozen (p := ⟨w.heap.size, 0, none⟩) hR).trans r2
        have q3 := (HCF.out.b0.frozen (p := ⟨w.heap.size, 1, none⟩) hR).trans r3
        have HEND := hide fun d : Nat => CfO.make (d := d) (HB0.out) HCF.out hs0 (.slice (some ⟨PU, 0, none⟩) k k) (.slice (some ⟨PV, 0, none⟩) k k)
        have hne : FB ≠ w.heap.size := by have := HCF.out.lo; omega
        go_wp2_with fail
        go_region
        go_wp2_with fail
        exact bodyPost_ret (v := .tuple #[.slice (some ⟨FT, 0, none⟩) k k, .agg #[.slice (some ⟨PU, 0, none⟩) k k, .slice (some ⟨PV, 0, none⟩) k k], .bool true]) (by simp [results, Try.results15, go_sem, *]) rfl ⟨FT, PU, PV, rfl, HEND.out 1⟩
end Go.Proofs.Ytcniegaogdggaaa
namespace Go.Proofs.Ytcniegaogdggaaa
open Go.RowKit

namespace Hu
/-- Where each load has its bin, each bin has its load. -/
theorem Ow.all {n : Nat} {o : Fn} (h : Ow n o n) : ∀ b, b < n → 0 ≤ o b := by
  intro b hb
  rcases h.is b hb with e | e
  · exfalso
    have hd : (b :: (List.range n).map (fun i => binOf o n i)).Nodup := by
      rw [List.nodup_cons]
      refine ⟨fun hm => ?_, ?_⟩
      · obtain ⟨i, hi, e'⟩ := List.mem_map.1 hm
        have := (binOf_is h (List.mem_range.1 hi)).2
        rw [e'] at this; omega
      · rw [List.nodup_iff_pairwise_ne, List.pairwise_map]
        refine List.Pairwise.imp_of_mem ?_ (List.nodup_iff_pairwise_ne.1 List.nodup_range)
        intro i j hi hj hij e'
        have h1 := (binOf_is h (List.mem_range.1 hi)).2
        have h2 := (binOf_is h (List.mem_range.1 hj)).2
        rw [e'] at h1; omega
    have := hd.length_le_of_subset (l₂ := List.range n) (fun x hx => by
      rcases List.mem_cons.1 hx with rfl | hx
      · exact List.mem_range.2 hb
      · obtain ⟨i, hi, rfl⟩ := List.mem_map.1 hx
        exact List.mem_range.2 (binOf_is h (List.mem_range.1 hi)).1)
    simp at this
    omega
  · exact e.1
def outK (o : Fn) (n k : Nat) : Fn := fun i => if binOf o n i < k then ((binOf o n i : Nat) : Int) else 0
theorem outK_set {o : Fn} {n k : Nat} (h : Ow n o n) (hk : k < n) {i : Nat} (hi : i < n) : upd (outK o n k) (o k).toNat (k : Int) i = outK o n (k + 1) i := by
  have h0 := h.all k hk
  by_cases e : i = (o k).toNat
  · have : binOf o n i = k := binOf_eq h hk (by omega)
    rw [e, upd_same, outK, ← e, this, if_pos (by omega)]
  · rw [upd_else _ _ e]
    have h2 := (binOf_is h hi).2
    have : binOf o n i ≠ k := fun e' => by rw [e'] at h2; omega
    simp only [outK, show (binOf o n i < k + 1 ↔ binOf o n i < k) by omega]
end Hu
/-- The model's fit before its loads: its variable, its prices, its owners so far. -/
structure LF (w0 wr : World) (M : Nat) (e : Option Addr) (n ce PU PV : Nat) (v : Value) (k : Nat) : Prop where
  b0 : Below w0.heap.size w0 wr
  c0 : wr.cell? ⟨M, 0, none⟩ = some (.slice e n ce)
  c1 : wr.cell? ⟨M, 1, none⟩ = some (.slice (some ⟨PU, 0, none⟩) n n)
  c2 : wr.cell? ⟨M, 2, none⟩ = some (.slice (some ⟨PV, 0, none⟩) n n)
  c3 : wr.cell? ⟨M, 3, none⟩ = some v
  z3 : wr.frozen? ⟨M, 3, none⟩ = false
  pu : wr.ownsRow w0.heap.size 3 1 (.slice (some ⟨PU, 0, none⟩) n n) n (ints (List.replicate n 0))
  pv : wr.ownsRow w0.heap.size 3 1 (.slice (some ⟨PV, 0, none⟩) n n) n (ints (List.replicate n 0))
  ow : wr.ownsRow w0.heap.size 3 1 v k (ints (List.replicate k (-1)))
  n1 : M ≠ PU
  n2 : M ≠ PV
  n3 : PU ≠ PV
  v0 : v.ownBlock ≠ some M
  v1 : v.ownBlock ≠ some PU
  v2 : v.ownBlock ≠ some PV
  lo : w0.heap.size ≤ M
  lt : M < wr.heap.size
theorem LF.push {w0 wr w3 : World} {M n ce PU PV k g cap : Nat} {e : Option Addr} {v : Value} {o : Obj} (h : LF w0 wr M e n ce PU PV v k) (own : w3.ownsRow w0.heap.size 3 1 (.slice (some ⟨g, 0, none⟩) (k + 1) cap) (k + 1) (ints (List.replicate k (-1)) ++ [.int .i64 (-1)])) (hg : (wr.alloc o).grownBy w3 v.ownBlock) (hat : v.ownBlock = some g ∨ g = wr.heap.size + 1) :
    w3.cell? ⟨M, 3, none⟩ = some v ∧ w3.frozen? ⟨M, 3, none⟩ = false ∧ LF w0 (w3.setCell ⟨M, 3, none⟩ (.slice (some ⟨g, 0, none⟩) (k + 1) cap)) M e n ce PU PV (.slice (some ⟨g, 0, none⟩) (k + 1) cap) (k + 1) := by
  have kp : ∀ b, b < wr.heap.size → some b ≠ v.ownBlock → w3.heap[b]? = wr.heap[b]? := fun b hb hne => (hg.block b (by simp; omega) hne).trans ((below_new wr o).block b hb)
  have hs3 : wr.heap.size ≤ w3.heap.size := Nat.le_trans (by simp) hg.size
  have lpu := (h.pu.lt PU rfl).2
  have lpv := (h.pv.lt PV rfl).2
  have hM := kp M h.lt (fun e => h.v0 e.symm)
  have cM : ∀ i vv, wr.cell? ⟨M, i, none⟩ = some vv → w3.cell? ⟨M, i, none⟩ = some vv := fun i vv hv => (World.cell?_of_block (w := wr) (a := ⟨M, i, none⟩) hM).trans hv
  have gM : g ≠ M := by
    rcases hat with e | e
    · intro h'; subst h'; exact h.v0 e
    · have := h.lt; omega
  have gU : g ≠ PU := by
    rcases hat with e | e
    · intro h'; subst h'; exact h.v1 e
    · omega
  have gV : g ≠ PV := by
    rcases hat with e | e
    · intro h'; subst h'; exact h.v2 e
    · omega
  have z3 : w3.frozen? ⟨M, 3, none⟩ = false := (World.frozen?_of_block (w := wr) (a := ⟨M, 3, none⟩) hM).trans h.z3
  have oth : ∀ b, b ≠ M → (w3.setCell ⟨M, 3, none⟩ (.slice (some ⟨g, 0, none⟩) (k + 1) cap)).heap[b]? = w3.heap[b]? := fun b hb => Below.heap_setCell _ _ _ _ hb
  have c3' := cM 3 _ h.c3
  have c0' := cM 0 _ h.c0
  have c1' := cM 1 _ h.c1
  have c2' := cM 2 _ h.c2
  have bw : Below w0.heap.size w0 w3 := h.b0.trans (((below_new wr o).mono h.b0.size).trans (grown_under' hg (h.ow.alloc _) (by have := h.b0.size; simp <;> omega) (by have := h.b0.size; simp <;> omega)))
  refine ⟨c3', z3, bw.setCell (p := ⟨M, 3, none⟩) h.lo _, by simp [go_sem, *], by simp [go_sem, *], by simp [go_sem, *], by simp [go_sem, *], by simp [go_sem, *], ?_, ?_, ?_, h.n1, h.n2, h.n3, by simp [Value.ownBlock]; exact gM, by simp [Value.ownBlock]; exact gU, by simp [Value.ownBlock]; exact gV, h.lo, by simpa using Nat.lt_of_lt_of_le h.lt hs3⟩
  · exact own_blk h.pu fun b hb => by simp [Value.ownBlock] at hb; subst hb; exact (oth _ (Ne.symm h.n1)).trans (kp _ lpu (fun e => h.v1 e.symm))
  · exact own_blk h.pv fun b hb => by simp [Value.ownBlock] at hb; subst hb; exact (oth _ (Ne.symm h.n2)).trans (kp _ lpv (fun e => h.v2 e.symm))
  · rw [List.replicate_succ', ints_snoc]
    exact own_blk own fun b hb => by simp [Value.ownBlock] at hb; subst hb; exact oth _ gM
theorem LF.start {w0 : World} {X n ce PU PV : Nat} {e : Option Addr} (t : TypeId) (hX : w0.heap.size = X) (hn : n ≤ 10) (h : (PU = X ∧ PV = X + 1) ∨ (PU = X + 1 ∧ PV = X)) :
    LF w0 (((w0.alloc (.cells (madeCells #[.int .i64 0] n) 3)).alloc (.cells (madeCells #[.int .i64 0] n) 3)).alloc (.cells #[.slice e n ce, .slice (some ⟨PU, 0, none⟩) n n, .slice (some ⟨PV, 0, none⟩) n n, .slice none 0 0] t)).drew (X + 1 + 1) e n ce PU PV (.slice none 0 0) 0 := by
  have b1 := below_new w0 (.cells (madeCells #[.int .i64 0] n) 3)
  have o1 := made_own w0 n (by omega)
  have s1 : (w0.alloc (.cells (madeCells #[.int .i64 0] n) 3)).heap.size = X + 1 := by rw [World.size_alloc, hX]
  generalize w0.alloc (.cells (madeCells #[.int .i64 0] n) 3) = w1 at *
  have b2 := below_new w1 (.cells (madeCells #[.int .i64 0] n) 3)
  have o2 := made_own w1 n (by omega)
  have s2 : (w1.alloc (.cells (madeCells #[.int .i64 0] n) 3)).heap.size = X + 1 + 1 := by rw [World.size_alloc, s1]
  generalize w1.alloc (.cells (madeCells #[.int .i64 0] n) 3) = w2 at *
  have b3 := (below_new w2 (.cells #[.slice e n ce, .slice (some ⟨PU, 0, none⟩) n n, .slice (some ⟨PV, 0, none⟩) n n, .slice none 0 0] t)).drew
  rw [s1] at o2
  rw [hX] at o1
  have p1 := own_low9 (g_own (g_own o1 (b2.mono (Nat.le_refl _))) b3) (Nat.le_refl _)
  have p2 := own_low9 (g_own o2 b3) (show X ≤ X + 1 by omega)
  have hq : w2.heap.size = X + 1 + 1 := s2
  have e0 : (w2.alloc (.cells #[.slice e n ce, .slice (some ⟨PU, 0, none⟩) n n, .slice (some ⟨PV, 0, none⟩) n n, .slice none 0 0] t)).cell? ⟨w2.heap.size, 0, none⟩ = some (.slice e n ce) := by simp
  have e1 : (w2.alloc (.cells #[.slice e n ce, .slice (some ⟨PU, 0, none⟩) n n, .slice (some ⟨PV, 0, none⟩) n n, .slice none 0 0] t)).cell? ⟨w2.heap.size, 1, none⟩ = some (.slice (some ⟨PU, 0, none⟩) n n) := by simp
  have e2 : (w2.alloc (.cells #[.slice e n ce, .slice (some ⟨PU, 0, none⟩) n n, .slice (some ⟨PV, 0, none⟩) n n, .slice none 0 0] t)).cell? ⟨w2.heap.size, 2, none⟩ = some (.slice (some ⟨PV, 0, none⟩) n n) := by simp
  have e3 : (w2.alloc (.cells #[.slice e n ce, .slice (some ⟨PU, 0, none⟩) n n, .slice (some ⟨PV, 0, none⟩) n n, .slice none 0 0] t)).cell? ⟨w2.heap.size, 3, none⟩ = some (.slice none 0 0) := by simp
  have e4 : (w2.alloc (.cells #[.slice e n ce, .slice (some ⟨PU, 0, none⟩) n n, .slice (some ⟨PV, 0, none⟩) n n, .slice none 0 0] t)).frozen? ⟨w2.heap.size, 3, none⟩ = false := by simp
  rw [hq] at e0 e1 e2 e3 e4
  have e5 : X + 1 + 1 < (w2.alloc (.cells #[.slice e n ce, .slice (some ⟨PU, 0, none⟩) n n, .slice (some ⟨PV, 0, none⟩) n n, .slice none 0 0] t)).drew.heap.size := by
    show X + 1 + 1 < (w2.alloc _).heap.size
    rw [World.size_alloc, hq]; omega
  have bw := b1.trans ((b2.mono (by omega)).trans (b3.mono (by omega)))
  rcases h with ⟨rfl, rfl⟩ | ⟨rfl, rfl⟩
  · exact ⟨bw, e0, e1, e2, e3, e4, by rw [hX]; exact p1, by rw [hX]; exact p2, World.ownsRow_nil _ _ _ _, by omega, by omega, by omega, by simp [Value.ownBlock], by simp [Value.ownBlock], by simp [Value.ownBlock], by omega, e5⟩
  · exact ⟨bw, e0, e1, e2, e3, e4, by rw [hX]; exact p2, by rw [hX]; exact p1, World.ownsRow_nil _ _ _ _, by omega, by omega, by omega, by simp [Value.ownBlock], by simp [Value.ownBlock], by simp [Value.ownBlock], by omega, e5⟩
/-- What the model's fit answers: three lists of their own memory, in a world behind w0. -/
structure MF (w0 wr : World) (M : Nat) (e : Option Addr) (n ce cap PU PV OW : Nat) (u v o : Hu.Fn) : Prop where
  b0 : Below w0.heap.size w0 wr
  c0 : wr.cell? ⟨M, 0, none⟩ = some (.slice e n ce)
  c1 : wr.cell? ⟨M, 1, none⟩ = some (.slice (some ⟨PU, 0, none⟩) n n)
  c2 : wr.cell? ⟨M, 2, none⟩ = some (.slice (some ⟨PV, 0, none⟩) n n)
  c3 : wr.cell? ⟨M, 3, none⟩ = some (.slice (some ⟨OW, 0, none⟩) n cap)
  pu : wr.ownsRow w0.heap.size 3 1 (.slice (some ⟨PU, 0, none⟩) n n) n (ints (Hu.tab n u))
  pv : wr.ownsRow w0.heap.size 3 1 (.slice (some ⟨PV, 0, none⟩) n n) n (ints (Hu.tab n v))
  ow : wr.ownsRow w0.heap.size 3 1 (.slice (some ⟨OW, 0, none⟩) n cap) n (ints (Hu.tab n o))
  nd : [M, PU, PV, OW].Nodup
  lo : w0.heap.size ≤ M
  lt : M < wr.heap.size
theorem MF.start {w0 wr : World} {M n ce PU PV : Nat} {e : Option Addr} {v : Value} (C : List (List Int)) (h : LF w0 wr M e n ce PU PV v n) (hn : 1 ≤ n) : ∃ OW cap, v = .slice (some ⟨OW, 0, none⟩) n cap ∧ MF w0 wr M e n ce cap PU PV OW (Hu.fitTo C n 0).u (Hu.fitTo C n 0).v (Hu.fitTo C n 0).o := by
  obtain ⟨OW, cap, rfl⟩ : ∃ OW cap, v = .slice (some ⟨OW, 0, none⟩) n cap := by
    rcases h.ow.2 with ⟨h', _⟩ | ⟨g, cap, cur, hv, _⟩
    · have := own_form h.ow
      obtain ⟨a, c, rfl⟩ := this
      rcases h.ow.2 with ⟨_, h2⟩ | ⟨g, cap, cur, hv, _⟩
      · omega
      · exact ⟨g, cap, hv⟩
    · exact ⟨g, cap, hv⟩
  have q0 : Hu.tab n (fun _ => (-1 : Int)) = List.replicate n (-1) := by
    apply List.ext_getElem
    · simp [Hu.tab]
    · intro i h1 h2; simp [Hu.tab]
  have n4 : OW ≠ M := fun e => h.v0 (by rw [e]; rfl)
  have n5 : OW ≠ PU := fun e => h.v1 (by rw [e]; rfl)
  have n6 : OW ≠ PV := fun e => h.v2 (by rw [e]; rfl)
  have n1 := h.n1
  have n2 := h.n2
  have n3 := h.n3
  refine ⟨OW, cap, rfl, h.b0, h.c0, h.c1, h.c2, h.c3, ?_, ?_, ?_, ?_, h.lo, h.lt⟩
  · show wr.ownsRow _ _ _ _ _ (ints (Hu.tab n fun _ => 0)); rw [tab_zero]; exact h.pu
  · show wr.ownsRow _ _ _ _ _ (ints (Hu.tab n fun _ => 0)); rw [tab_zero]; exact h.pv
  · show wr.ownsRow _ _ _ _ _ (ints (Hu.tab n fun _ => -1)); rw [q0]; exact h.ow
  · simp only [List.nodup_cons, List.mem_cons, List.not_mem_nil, or_false, not_or, List.nodup_nil, and_true, not_false_eq_true]
    omega
theorem MF.more {w0 w w' : World} {M n ce cap PU PV OW : Nat} {e : Option Addr} {u v o u' v' o' : Hu.Fn} (h : MF w0 w M e n ce cap PU PV OW u v o) (ho : Off3 w w' OW PU PV) (opu : w'.ownsRow w0.heap.size 3 1 (.slice (some ⟨PU, 0, none⟩) n n) n (ints (Hu.tab n u'))) (opv : w'.ownsRow w0.heap.size 3 1 (.slice (some ⟨PV, 0, none⟩) n n) n (ints (Hu.tab n v'))) (oow : w'.ownsRow w0.heap.size 3 1 (.slice (some ⟨OW, 0, none⟩) n cap) n (ints (Hu.tab n o'))) : MF w0 w' M e n ce cap PU PV OW u' v' o' := by
  have nd := h.nd
  simp only [List.nodup_cons, List.mem_cons, List.not_mem_nil, or_false, not_or, List.nodup_nil, and_true, not_false_eq_true] at nd
  have hb := ho.block M h.lt (by omega) (by omega) (by omega)
  exact ⟨ho.under h.b0 (h.ow.lt OW rfl).1 (h.pu.lt PU rfl).1 (h.pv.lt PV rfl).1, (World.cell?_of_block (w := w) (a := ⟨M, 0, none⟩) hb).trans h.c0, (World.cell?_of_block (w := w) (a := ⟨M, 1, none⟩) hb).trans h.c1, (World.cell?_of_block (w := w) (a := ⟨M, 2, none⟩) hb).trans h.c2, (World.cell?_of_block (w := w) (a := ⟨M, 3, none⟩) hb).trans h.c3, opu, opv, oow, h.nd, h.lo, Nat.lt_of_lt_of_le h.lt ho.size⟩
theorem MF.below {w0 w w' : World} {M n ce cap PU PV OW : Nat} {e : Option Addr} {u v o : Hu.Fn} (h : MF w0 w M e n ce cap PU PV OW u v o) (hb : Below w.heap.size w w') : MF w0 w' M e n ce cap PU PV OW u v o :=
  ⟨h.b0.trans (hb.mono h.b0.size), (hb.cell (p := ⟨M, 0, none⟩) h.lt).trans h.c0, (hb.cell (p := ⟨M, 1, none⟩) h.lt).trans h.c1, (hb.cell (p := ⟨M, 2, none⟩) h.lt).trans h.c2, (hb.cell (p := ⟨M, 3, none⟩) h.lt).trans h.c3, g_own h.pu hb, g_own h.pv hb, g_own h.ow hb, h.nd, h.lo, Nat.lt_of_lt_of_le h.lt hb.size⟩
theorem MF.grown {w0 w w' : World} {M n ce cap PU PV OW OT : Nat} {e : Option Addr} {u v o : Hu.Fn} (h : MF w0 w M e n ce cap PU PV OW u v o) (hb : w.grownBy w' (some OT)) (l0 : w0.heap.size ≤ OT) (l1 : M < OT) (l2 : PU < OT) (l3 : PV < OT) (l4 : OW < OT) : MF w0 w' M e n ce cap PU PV OW u v o :=
  have bk : ∀ b, b < OT → b < w.heap.size → w'.heap[b]? = w.heap[b]? := fun b h1 h2 => hb.block b h2 (by simp; omega)
  have bM := bk M l1 h.lt
  ⟨h.b0.trans ⟨hb.os, hb.tape, hb.output, hb.size, fun b hb' => bk b (by omega) (Nat.lt_of_lt_of_le hb' h.b0.size)⟩, (World.cell?_of_block (w := w) (a := ⟨M, 0, none⟩) bM).trans h.c0, (World.cell?_of_block (w := w) (a := ⟨M, 1, none⟩) bM).trans h.c1, (World.cell?_of_block (w := w) (a := ⟨M, 2, none⟩) bM).trans h.c2, (World.cell?_of_block (w := w) (a := ⟨M, 3, none⟩) bM).trans h.c3,
   own_blk h.pu (fun g hg => bk g (by simp [Value.ownBlock] at hg; omega) (h.pu.lt g hg).2), own_blk h.pv (fun g hg => bk g (by simp [Value.ownBlock] at hg; omega) (h.pv.lt g hg).2), own_blk h.ow (fun g hg => bk g (by simp [Value.ownBlock] at hg; omega) (h.ow.lt g hg).2), h.nd, h.lo, Nat.lt_of_lt_of_le h.lt hb.size⟩
theorem CfO.of {w w0 wr : World} {FT PU PV n d : Nat} {C : List (List Int)} (hb : Below w.heap.size w w0) (b0 : Below w0.heap.size w0 wr) (hs : w0.heap.size = w.heap.size + 1) (oft : wr.ownsRow w0.heap.size 3 1 (.slice (some ⟨FT, 0, none⟩) n n) n (ints (Hu.fitL C n))) (opu : wr.ownsRow w0.heap.size 3 1 (.slice (some ⟨PU, 0, none⟩) n n) n (ints (Hu.loadsL C n))) (opv : wr.ownsRow w0.heap.size 3 1 (.slice (some ⟨PV, 0, none⟩) n n) n (ints (Hu.binsL C n))) (n1 : FT ≠ PU) (n2 : FT ≠ PV) (n3 : PU ≠ PV) (a b : Value) :
    CfO w (((wr.drewN d).setCell ⟨w.heap.size, 0, none⟩ a).setCell ⟨w.heap.size, 1, none⟩ b) n FT PU PV C := by
  have hd := below_drewN (Below.refl wr.heap.size wr) d
  have ob : ∀ g, g ≠ w.heap.size → (((wr.drewN d).setCell ⟨w.heap.size, 0, none⟩ a).setCell ⟨w.heap.size, 1, none⟩ b).heap[g]? = (wr.drewN d).heap[g]? := fun g hg => (Below.heap_setCell _ _ _ _ hg).trans (Below.heap_setCell _ _ _ _ hg)
  have l1 := (oft.lt FT rfl).1
  have l2 := (opu.lt PU rfl).1
  have l3 := (opv.lt PV rfl).1
  refine ⟨((hb.trans ((b0.mono (by omega)).trans (hd.mono (Nat.le_trans hb.size b0.size)))).setCell (p := ⟨w.heap.size, 0, none⟩) (Nat.le_refl _) _).setCell (p := ⟨w.heap.size, 1, none⟩) (Nat.le_refl _) _, ?_, ?_, ?_, n1, n2, n3⟩
  · exact own_low9 (own_blk (g_own oft hd) fun g hg => ob g (by simp [Value.ownBlock] at hg; omega)) (by omega)
  · exact own_low9 (own_blk (g_own opu hd) fun g hg => ob g (by simp [Value.ownBlock] at hg; omega)) (by omega)
  · exact own_low9 (own_blk (g_own opv hd) fun g hg => ob g (by simp [Value.ownBlock] at hg; omega)) (by omega)
set_option maxRecDepth 20000 in
set_option maxHeartbeats 8000000 in
theorem lfit_any {e : Option Addr} {n ce : Nat} {C : List (List Int)} {w : World} (hg : Hu.costB C = true) (hl : C.length = n) (hc : CRow w e C) :
    Calls Try.prog 42 #[.slice e n ce] w fun e w' => ∃ FT PU PV, e = .returned (.tuple #[.slice (some ⟨FT, 0, none⟩) n n, .agg #[.slice (some ⟨PU, 0, none⟩) n n, .slice (some ⟨PV, 0, none⟩) n n]]) ∧ CfO w w' n FT PU PV C := by
  have gl := Hu.costB_len hg
  rw [hl] at gl
  obtain ⟨n1, n10⟩ := gl
  have hG := Hu.costB_good hg
  rw [hl] at hG
  have HG := hide hg
  have HN := hide hl
  have HGd := hide hG
  have bn0 := below_new w (.cells #[.slice none 0 0, .slice none 0 0] 29)
  have hc1 := hc.below bn0
  have r0 : (w.alloc (.cells #[.slice none 0 0, .slice none 0 0] 29)).cell? ⟨w.heap.size, 0, none⟩ = some (.slice none 0 0) := by simp
  have r1 : (w.alloc (.cells #[.slice none 0 0, .slice none 0 0] 29)).cell? ⟨w.heap.size, 1, none⟩ = some (.slice none 0 0) := by simp
  have r2 : (w.alloc (.cells #[.slice none 0 0, .slice none 0 0] 29)).frozen? ⟨w.heap.size, 0, none⟩ = false := by simp
  have r3 : (w.alloc (.cells #[.slice none 0 0, .slice none 0 0] 29)).frozen? ⟨w.heap.size, 1, none⟩ = false := by simp
  have hs0 : (w.alloc (.cells #[.slice none 0 0, .slice none 0 0] 29)).heap.size = w.heap.size + 1 := World.size_alloc _ _
  obtain ⟨w0, hw0⟩ : ∃ w0, w0 = w.alloc (.cells #[.slice none 0 0, .slice none 0 0] 29) := ⟨_, rfl⟩
  rw [← hw0] at bn0 hc1 r0 r1 r2 r3 hs0
  have HW0 := hide hw0.symm
  have HB0 := hide bn0
  have HC1 := hide hc1
  clear bn0 hc hc1 hw0 hg hl hG
  have hmk := makeI_run n (by omega)
  go_enter Try.func42, Try.ntmps42
  go_upto_region 1 with fail
  rw [HW0.out]
  clear HW0
  go_upto_region 2 with fail
  go_cut [5, 12, 13, 14, 15, 16, 17, 18, 19] (fun s5 _ _ _ _ _ _ _ _ wc => ∃ M PU PV, s5 = .pointer (some ⟨M, 0, none⟩) ∧ Hid (LF w0 wc M e n ce PU PV (.slice none 0 0) 0))
  case first =>
    have HL1 := hide (LF.start (e := e) (ce := ce) (n := n) (PU := w.heap.size + 1) (PV := w.heap.size + 1 + 1) 76 hs0 n10 (Or.inl ⟨rfl, rfl⟩))
    have HL2 := hide (LF.start (e := e) (ce := ce) (n := n) (PU := w.heap.size + 1 + 1) (PV := w.heap.size + 1) 76 hs0 n10 (Or.inr ⟨rfl, rfl⟩))
    go_region
    all_goals go_wp2_with fail
    all_goals go_meet
    all_goals first | exact ⟨_, _, _, rfl, HL1⟩ | exact ⟨_, _, _, rfl, HL2⟩
  case rest =>
    obtain ⟨M, PU, PV, rfl, HLF0⟩ := hcut
    go_wp2_with fail
    go_loopw [22] (fun s wr => ∃ (k : Nat) (v : Value), s = .int .i64 k ∧ k ≤ n ∧ Hid (LF w0 wr M e n ce PU PV v k)) (fun s _ => n - (intOf s).toNat)
    case atStart => exact ⟨0, _, rfl, Nat.zero_le _, HLF0⟩
    case round =>
      clear HLF0
      obtain ⟨k, v, rfl, hk, HL⟩ := hrel
      by_cases hlt : k < n
      · have i1 : (k : Int) < (n : Int) := by omega
        have c3 := HL.out.c3
        obtain ⟨g3, cap3, w3, hr3, own3, hg3, hat3⟩ := push_9 (t := 27) (x := .int .i64 (-1)) Try.underlying27 infoI rfl rfl (by decide) HL.out.ow (by omega) HL.out.b0.size
        obtain ⟨q3, y3, L3⟩ := HL.out.push own3 hg3 hat3
        have HL3 := hide L3
        have hov := own_one HL.out.ow
        clear HL L3 own3 hg3 hat3
        go_wp2_with (first | (at_builtin; refine Lib.wpList_append_run _ rfl _ _ _ _ rfl _ _ rfl rfl _ _ (hr3 _) ?_))
        go_roundw
        case rel => exact ⟨k + 1, _, by go_num, by omega, HL3⟩
        case measure => simp only [intOf]; omega
      · have i1 : ¬ (k : Int) < (n : Int) := by omega
        have hke : k = n := by omega
        obtain ⟨OW, cap, rfl, hMF⟩ := MF.start C (hke ▸ HL.out) n1
        have HMF0 := hide hMF
        clear HL hMF hke hk hlt
        go_wp2_with fail
        clear i1
        go_loopw [6, 36] (fun _ s wr => ∃ (k : Nat), s = .int .i64 k ∧ k ≤ n ∧ Hid (MF w0 wr M e n ce cap PU PV OW (Hu.fitTo C n k).u (Hu.fitTo C n k).v (Hu.fitTo C n k).o)) (fun _ s _ => n - (intOf s).toNat)
        case atStart => exact ⟨0, rfl, Nat.zero_le _, HMF0⟩
        case round =>
          clear HMF0
          obtain ⟨k, rfl, hk, HF⟩ := hrel
          by_cases hlt : k < n
          · have i0 : (0 : Int) ≤ (k : Int) := by omega
            have i1 : (k : Int) < (n : Int) := by omega
            have HSK := hide (seek_any HG.out HN.out hlt (Hu.fit_ou HGd.out k hk) HGd.out HC1.out HF.out.b0 HF.out.nd HF.out.lt HF.out.c0 HF.out.c1 HF.out.c2 HF.out.c3 HF.out.pu HF.out.pv HF.out.ow)
            go_wp2_with fail
            refine HSK.out.mono ?_
            rintro e2 w2 ⟨rfl, h1, h2, h3, h4⟩
            have HCN : Hid (MF w0 w2 M e n ce cap PU PV OW (Hu.fitTo C n (k + 1)).u (Hu.fitTo C n (k + 1)).v (Hu.fitTo C n (k + 1)).o) := hide (HF.out.more h4 h1 h2 h3)
            clear h1 h2 h3 h4 HSK HF
            go_wp2_with fail
            go_roundw
            case rel => exact ⟨k + 1, by go_num, by omega, HCN⟩
            case measure => simp only [intOf]; omega
          · have i1 : ¬ (k : Int) < (n : Int) := by omega
            have hke : k = n := by omega
            subst hke
            have HOA := hide (Hu.fit_ou HGd.out k (Nat.le_refl _)).ow
            have HFL : Hid (∀ i, i < k → Hu.outK (Hu.fitTo C k k).o k k i = ((Hu.binOf (Hu.fitTo C k k).o k i : Nat) : Int)) := hide fun i hi => by rw [Hu.outK, if_pos (Hu.binOf_is HOA.out hi).1]
            have bO := below_new wr (.cells (madeCells #[.int .i64 0] k) 3)
            have HOO : Hid ((wr.alloc (.cells (madeCells #[.int .i64 0] k) 3)).ownsRow w0.heap.size 3 1 (.slice (some ⟨wr.heap.size, 0, none⟩) k k) k (ints (Hu.tab k (Hu.outK (Hu.fitTo C k k).o k 0)))) := hide (by
              have : Hu.tab k (Hu.outK (Hu.fitTo C k k).o k 0) = List.replicate k 0 := by rw [← tab_zero]; exact tab_congr fun i _ => by simp [Hu.outK]
              rw [this]
              exact own_low9 (made_own wr k (by omega)) HF.out.b0.size)
            have hM := HF.out.lt
            have lU := (HF.out.pu.lt PU rfl).2
            have lV := (HF.out.pv.lt PV rfl).2
            have lW := (HF.out.ow.lt OW rfl).2
            have HF5 := hide (HF.out.below bO)
            have l0 := HF.out.b0.size
            have c3 := (bO.cell (p := ⟨M, 3, none⟩) hM).trans HF.out.c3
            have hmk' := makeI_run k (by omega)
            have HGR0 : Hid ((wr.alloc (.cells (madeCells #[.int .i64 0] k) 3)).grownBy (wr.alloc (.cells (madeCells #[.int .i64 0] k) 3)) (some wr.heap.size)) := hide (World.grownBy.refl _ _)
            go_wp2_with fail
            generalize wr.alloc (.cells (madeCells #[.int .i64 0] k) 3) = W5 at *
            obtain ⟨OT, hOT⟩ : ∃ OT, OT = wr.heap.size := ⟨_, rfl⟩
            rw [← hOT] at HOO HGR0 hM lU lV lW l0 ⊢
            clear hOT hmk hmk' HF c3 i1 bO
            go_loopw [8, 9, 50] (fun _ _ s wi => ∃ (q : Nat), s = .int .i64 q ∧ q ≤ k ∧ Hid (wi.ownsRow w0.heap.size 3 1 (.slice (some ⟨OT, 0, none⟩) k k) k (ints (Hu.tab k (Hu.outK (Hu.fitTo C k k).o k q)))) ∧ Hid (W5.grownBy wi (some OT))) (fun _ _ s _ => k - (intOf s).toNat)
            case atStart => exact ⟨0, rfl, Nat.zero_le _, HOO, HGR0⟩
            case round =>
              clear HOO HGR0
              obtain ⟨q, rfl, hq, HO, HGR⟩ := hrel
              have HFq := hide (HF5.out.grown HGR.out l0 hM lU lV lW)
              by_cases hlt2 : q < k
              · have i0 : (0 : Int) ≤ (q : Int) := by omega
                have i1 : (q : Int) < (k : Int) := by omega
                have h0 := HOA.out.all q hlt2
                obtain ⟨j, ej⟩ : ∃ j : Nat, (Hu.fitTo C k k).o q = (j : Int) := ⟨((Hu.fitTo C k k).o q).toNat, by omega⟩
                have ej' : ((Hu.fitTo C k k).o q).toNat = j := by omega
                have hj : j < k := by
                  rcases HOA.out.is q hlt2 with e | e <;> omega
                have co : wr.cell? ⟨OW, q, none⟩ = some (.int .i64 (j : Int)) := by rw [HFq.out.ow.cellAt q (by omega), ints_get _ q (by rw [Hu.tab_len]; exact hlt2), Hu.tab_get _ hlt2, ej]
                obtain ⟨x0, c0⟩ : ∃ x, wr.cell? ⟨OT, j, none⟩ = some (.int .i64 x) := ⟨_, by rw [HO.out.cellAt j (by omega), ints_get _ j (by rw [Hu.tab_len]; exact hj)]⟩
                have z0 := HO.out.frozenAt j
                obtain ⟨st1, st2⟩ := HO.out.stored j (.int .i64 (q : Int))
                have HST : Hid ((wr.setCell ⟨OT, j, none⟩ (.int .i64 (q : Int))).ownsRow w0.heap.size 3 1 (.slice (some ⟨OT, 0, none⟩) k k) k (ints (Hu.tab k (Hu.outK (Hu.fitTo C k k).o k (q + 1))))) := hide (by
                  rw [ints_set, tab_set, ← ej', tab_congr (fun i hi => Hu.outK_set HOA.out hlt2 hi)] at st1
                  exact ej' ▸ st1)
                have HG2 : Hid (W5.grownBy (wr.setCell ⟨OT, j, none⟩ (.int .i64 (q : Int))) (some OT)) := hide ⟨st2.os.trans HGR.out.os, st2.tape.trans HGR.out.tape, st2.output.trans HGR.out.output, Nat.le_trans HGR.out.size st2.size, fun b hb hne => (st2.block b (Nat.lt_of_lt_of_le hb HGR.out.size) hne).trans (HGR.out.block b hb hne)⟩
                have j0 : (0 : Int) ≤ (j : Int) := by omega
                have j1 : (j : Int) < (k : Int) := by omega
                clear HO HGR HFq st1 st2 ej ej' h0
                go_wp2_with fail
                go_roundw
                case rel => exact ⟨q + 1, by go_num, by omega, HST, HG2⟩
                case measure => simp only [intOf]; omega
              · have i1 : ¬ (q : Int) < (k : Int) := by omega
                have hqe : q = k := by omega
                subst hqe
                have c1 := HFq.out.c1
                have c2 := HFq.out.c2
                have hR : w.heap.size < w0.heap.size := by omega
                have hRM : M ≠ w.heap.size := by have := HFq.out.lo; omega
                have q0 := (HFq.out.b0.cell (p := ⟨w.heap.size, 0, none⟩) hR).trans r0
                have q1 := (HFq.out.b0.cell (p := ⟨w.heap.size, 1, none⟩) hR).trans r1
                have q2 := (HFq.out.b0.frozen (p := ⟨w.heap.size, 0, none⟩) hR).trans r2
                have q3 := (HFq.out.b0.frozen (p := ⟨w.heap.size, 1, none⟩) hR).trans r3
                have HFT : Hid (wr.ownsRow w0.heap.size 3 1 (.slice (some ⟨OT, 0, none⟩) q q) q (ints (Hu.fitL C q))) := hide (by
                  have := HO.out
                  rw [tab_congr HFL.out] at this
                  exact this)
                have nd := HFq.out.nd
                simp only [List.nodup_cons, List.mem_cons, List.not_mem_nil, or_false, not_or, List.nodup_nil, and_true, not_false_eq_true] at nd
                have HEND := hide fun d : Nat => CfO.of (d := d) (C := C) HB0.out HFq.out.b0 hs0 HFT.out HFq.out.pu HFq.out.pv (by omega) (by omega) (by omega) (.slice (some ⟨PU, 0, none⟩) q q) (.slice (some ⟨PV, 0, none⟩) q q)
                clear HFq HO HGR HFT nd r0 r1 r2 r3
                go_wp2_with fail
                go_region
                go_wp2_with fail
                exact bodyPost_ret (v := .tuple #[.slice (some ⟨OT, 0, none⟩) q q, .agg #[.slice (some ⟨PU, 0, none⟩) q q, .slice (some ⟨PV, 0, none⟩) q q]]) (by simp [results, Try.results42, go_sem, *]) rfl ⟨OT, PU, PV, rfl, HEND.out 1⟩
end Go.Proofs.Ytcniegaogdggaaa
namespace Go.Proofs.Ytcniegaogdggaaa
open Go.RowKit

/-- What CheapestFit leaves: three lists of their own memory, apart from one another. -/
structure CfW (w w' : World) (v p q : Value) (n : Nat) (fs us vs : List Int) : Prop where
  b : Below w.heap.size w w'
  o0 : w'.ownsRow w.heap.size 3 1 v n (ints fs)
  o1 : w'.ownsRow w.heap.size 3 1 p n (ints us)
  o2 : w'.ownsRow w.heap.size 3 1 q n (ints vs)
  d01 : ∀ g, v.ownBlock = some g → p.ownBlock ≠ some g
  d02 : ∀ g, v.ownBlock = some g → q.ownBlock ≠ some g
  d12 : ∀ g, p.ownBlock = some g → q.ownBlock ≠ some g
def cfN (C : List (List Int)) : Nat := if Hu.costB C then C.length else 0
def cfA (C : List (List Int)) : List Int := if Hu.costB C then Hu.fitL C C.length else []
def cfB (C : List (List Int)) : List Int := if Hu.costB C then Hu.loadsL C C.length else []
def cfC (C : List (List Int)) : List Int := if Hu.costB C then Hu.binsL C C.length else []
theorem cfA_len (C : List (List Int)) : (cfA C).length = cfN C := by unfold cfA cfN; split <;> simp [Hu.fitL, Hu.tab]
theorem cfB_len (C : List (List Int)) : (cfB C).length = cfN C := by unfold cfB cfN; split <;> simp [Hu.loadsL, Hu.tab]
theorem cfC_len (C : List (List Int)) : (cfC C).length = cfN C := by unfold cfC cfN; split <;> simp [Hu.binsL, Hu.tab]
theorem CfO.w {w w' : World} {n FT PU PV : Nat} {C : List (List Int)} (h : CfO w w' n FT PU PV C) (hn : C.length = n) (hg : Hu.costB C = true) : CfW w w' (.slice (some ⟨FT, 0, none⟩) n n) (.slice (some ⟨PU, 0, none⟩) n n) (.slice (some ⟨PV, 0, none⟩) n n) (cfN C) (cfA C) (cfB C) (cfC C) := by
  unfold cfN cfA cfB cfC
  rw [hg, hn]
  refine ⟨h.b, h.ft, h.pu, h.pv, fun g hg => ?_, fun g hg => ?_, fun g hg => ?_⟩
  · simp [Value.ownBlock] at hg ⊢; have := h.n1; omega
  · simp [Value.ownBlock] at hg ⊢; have := h.n2; omega
  · simp [Value.ownBlock] at hg ⊢; have := h.n3; omega
theorem cfw_no {w w' : World} {C : List (List Int)} (hg : Hu.costB C = false) (hb : Below w.heap.size w w') : CfW w w' (.slice none 0 0) (.slice none 0 0) (.slice none 0 0) (cfN C) (cfA C) (cfB C) (cfC C) := by
  unfold cfN cfA cfB cfC
  rw [hg]
  exact ⟨hb, World.ownsRow_nil _ _ _ _, World.ownsRow_nil _ _ _ _, World.ownsRow_nil _ _ _ _, fun g hg => by simp [Value.ownBlock] at hg, fun g hg => by simp [Value.ownBlock] at hg, fun g hg => by simp [Value.ownBlock] at hg⟩
set_option maxHeartbeats 4000000 in
theorem scf_yes {e : Option Addr} {n ce : Nat} {C : List (List Int)} {w : World} (hg : Hu.costB C = true) (hl : C.length = n) (hc : CRow w e C) :
    Calls Try.prog 14 #[.slice e n ce] w fun e w' => ∃ FT PU PV, e = .returned (.tuple #[.slice (some ⟨FT, 0, none⟩) n n, .agg #[.slice (some ⟨PU, 0, none⟩) n n, .slice (some ⟨PV, 0, none⟩) n n], .bool true]) ∧ CfO w w' n FT PU PV C := by
  have gl := Hu.costB_len hg
  rw [hl] at gl
  obtain ⟨n1, n10⟩ := gl
  have HG := hide hg
  have HN := hide hl
  have bn0 := below_new w (.cells #[.slice none 0 0, .slice none 0 0] 29)
  have hc1 := hc.below bn0
  have r0 : (w.alloc (.cells #[.slice none 0 0, .slice none 0 0] 29)).cell? ⟨w.heap.size, 0, none⟩ = some (.slice none 0 0) := by simp
  have r1 : (w.alloc (.cells #[.slice none 0 0, .slice none 0 0] 29)).cell? ⟨w.heap.size, 1, none⟩ = some (.slice none 0 0) := by simp
  have r2 : (w.alloc (.cells #[.slice none 0 0, .slice none 0 0] 29)).frozen? ⟨w.heap.size, 0, none⟩ = false := by simp
  have r3 : (w.alloc (.cells #[.slice none 0 0, .slice none 0 0] 29)).frozen? ⟨w.heap.size, 1, none⟩ = false := by simp
  have hs0 : (w.alloc (.cells #[.slice none 0 0, .slice none 0 0] 29)).heap.size = w.heap.size + 1 := World.size_alloc _ _
  have HGC := hide (sgc_eq (w := w.alloc (.cells #[.slice none 0 0, .slice none 0 0] 29)) (c := ce) HN (by omega) (hide hc1) HG)
  obtain ⟨w0, hw0⟩ : ∃ w0, w0 = w.alloc (.cells #[.slice none 0 0, .slice none 0 0] 29) := ⟨_, rfl⟩
  rw [← hw0] at bn0 hc1 r0 r1 r2 r3 hs0 HGC
  have HW0 := hide hw0.symm
  have HB0 := hide bn0
  have HLF := hide (lfit_any (ce := ce) HG.out HN.out hc1)
  clear bn0 hc hc1 hw0 hg hl
  go_enter Try.func14, Try.ntmps14
  go_upto_region 1 with fail
  rw [HW0.out]
  clear HW0
  go_wp2_with fail
  refine HGC.out.mono ?_
  rintro e1 w1 ⟨rfl, hw1⟩
  obtain rfl : w0 = w1 := hw1.symm
  clear HGC
  go_wp2_with fail
  refine HLF.out.mono ?_
  rintro e2 w2 ⟨FT, PU, PV, rfl, hO⟩
  have hR : w.heap.size < w0.heap.size := by omega
  have bZ := below_new w2 (.cells #[.slice (some ⟨PU, 0, none⟩) n n, .slice (some ⟨PV, 0, none⟩) n n] 29)
  have hb2 := hO.b
  have bw := hb2.trans (bZ.mono hb2.size)
  have q0 := (bw.cell (p := ⟨w.heap.size, 0, none⟩) hR).trans r0
  have q1 := (bw.cell (p := ⟨w.heap.size, 1, none⟩) hR).trans r1
  have q2 := (bw.frozen (p := ⟨w.heap.size, 0, none⟩) hR).trans r2
  have q3 := (bw.frozen (p := ⟨w.heap.size, 1, none⟩) hR).trans r3
  have hne : w2.heap.size ≠ w.heap.size := by have := hb2.size; omega
  have HEND := hide fun d : Nat => CfO.of (d := d) (C := C) HB0.out bw hs0 (g_own hO.ft bZ) (g_own hO.pu bZ) (g_own hO.pv bZ) hO.n1 hO.n2 hO.n3 (.slice (some ⟨PU, 0, none⟩) n n) (.slice (some ⟨PV, 0, none⟩) n n)
  clear hO bZ hb2 bw r0 r1 r2 r3 HLF
  go_wp2_with fail
  go_region
  go_wp2_with fail
  exact bodyPost_ret (v := .tuple #[.slice (some ⟨FT, 0, none⟩) n n, .agg #[.slice (some ⟨PU, 0, none⟩) n n, .slice (some ⟨PV, 0, none⟩) n n], .bool true]) (by simp [results, Try.results14, go_sem, *]) rfl ⟨FT, PU, PV, rfl, HEND.out 1⟩
set_option maxHeartbeats 2000000 in
theorem scf_w {e : Option Addr} {n ce : Nat} {C : List (List Int)} {w : World} (HN : Hid (C.length = n)) (hl1 : n ≤ 1048576) (HC : Hid (CRow w e C)) :
    Calls Try.prog 14 #[.slice e n ce] w fun e w' => ∃ v p q, e = .returned (.tuple #[v, .agg #[p, q], .bool (Hu.costB C)]) ∧ CfW w w' v p q (cfN C) (cfA C) (cfB C) (cfC C) := by
  cases hg : Hu.costB C
  · have HG := hide hg
    have bn0 := below_new w (.cells #[.slice none 0 0, .slice none 0 0] 29)
    have HC1 := hide (HC.out.below bn0)
    have HEND := hide fun (d : Nat) (a b : Value) => cfw_no (C := C) hg (((below_drewN bn0 d).setCell (p := ⟨w.heap.size, 0, none⟩) (Nat.le_refl _) a).setCell (p := ⟨w.heap.size, 1, none⟩) (Nat.le_refl _) b)
    have HENZ := hide (cfw_no (C := C) hg bn0)
    clear hg bn0
    go_enter Try.func14, Try.ntmps14
    go_wp2_with fail
    refine (sgc_eq HN hl1 HC1 HG).mono ?_
    rintro e w1 ⟨rfl, rfl⟩
    go_wp2_with fail
    exact bodyPost_ret (v := .tuple #[.slice none 0 0, .agg #[.slice none 0 0, .slice none 0 0], .bool false]) (by simp [results, Try.results14, go_sem, *]) rfl ⟨_, _, _, rfl, by first | exact HENZ.out | exact HEND.out 0 _ _ | exact HEND.out 1 _ _⟩
  · refine (scf_yes hg HN.out HC.out).mono ?_
    rintro e w' ⟨FT, PU, PV, rfl, h⟩
    exact ⟨_, _, _, rfl, h.w HN.out hg⟩
set_option maxHeartbeats 2000000 in
theorem cf_w {e : Option Addr} {n ce : Nat} {C : List (List Int)} {w : World} (HN : Hid (C.length = n)) (HC : Hid (CRow w e C)) :
    Calls Try.prog 15 #[.slice e n ce] w fun e w' => ∃ v p q, e = .returned (.tuple #[v, .agg #[p, q], .bool (Hu.costB C)]) ∧ CfW w w' v p q (cfN C) (cfA C) (cfB C) (cfC C) := by
  cases hg : Hu.costB C
  · have HG := hide hg
    have bn0 := below_new w (.cells #[.slice none 0 0, .slice none 0 0] 29)
    have HC1 := hide (HC.out.below bn0)
    have HEND := hide fun (d : Nat) (a b : Value) => cfw_no (C := C) hg (((below_drewN bn0 d).setCell (p := ⟨w.heap.size, 0, none⟩) (Nat.le_refl _) a).setCell (p := ⟨w.heap.size, 1, none⟩) (Nat.le_refl _) b)
    have HENZ := hide (cfw_no (C := C) hg bn0)
    clear hg bn0
    go_enter Try.func15, Try.ntmps15
    go_wp2_with fail
    refine (gc_eq HN HC1 HG).mono ?_
    rintro e w1 ⟨rfl, rfl⟩
    go_wp2_with fail
    exact bodyPost_ret (v := .tuple #[.slice none 0 0, .agg #[.slice none 0 0, .slice none 0 0], .bool false]) (by simp [results, Try.results15, go_sem, *]) rfl ⟨_, _, _, rfl, by first | exact HENZ.out | exact HEND.out 0 _ _ | exact HEND.out 1 _ _⟩
  · refine (cf_yes hg HN.out HC.out).mono ?_
    rintro e w' ⟨FT, PU, PV, rfl, h⟩
    exact ⟨_, _, _, rfl, h.w HN.out hg⟩
end Go.Proofs.Ytcniegaogdggaaa
namespace Go.Proofs.Ytcniegaogdggaaa
open Go.RowKit

/-- An answer of CheapestFit in memory from lo on, its prices in a variable. -/
structure An (W : World) (lo B : Nat) (v p q : Value) (n : Nat) (fs us vs : List Int) : Prop where
  o0 : W.ownsRow lo 3 1 v n (ints fs)
  o1 : W.ownsRow lo 3 1 p n (ints us)
  o2 : W.ownsRow lo 3 1 q n (ints vs)
  bx : PBox W B p q
  d01 : ∀ g, v.ownBlock = some g → p.ownBlock ≠ some g
  d02 : ∀ g, v.ownBlock = some g → q.ownBlock ≠ some g
  d12 : ∀ g, p.ownBlock = some g → q.ownBlock ≠ some g
  b0 : v.ownBlock ≠ some B
  b1 : p.ownBlock ≠ some B
  b2 : q.ownBlock ≠ some B
  lo : lo ≤ B
theorem CfW.an {w w' : World} {v p q : Value} {n : Nat} {fs us vs : List Int} (h : CfW w w' v p q n fs us vs) (t : TypeId) : An (w'.alloc (.cells #[p, q] t)) w.heap.size w'.heap.size v p q n fs us vs :=
  have bn := below_new w' (.cells #[p, q] t)
  ⟨g_own h.o0 bn, g_own h.o1 bn, g_own h.o2 bn, PBox.new w' p q t, h.d01, h.d02, h.d12, ne_of_lt_opt h.o0 (Nat.le_refl _), ne_of_lt_opt h.o1 (Nat.le_refl _), ne_of_lt_opt h.o2 (Nat.le_refl _), h.b.size⟩
theorem An.below {W W' : World} {lo B n : Nat} {v p q : Value} {fs us vs : List Int} (h : An W lo B v p q n fs us vs) (hb : Below W.heap.size W W') : An W' lo B v p q n fs us vs :=
  ⟨g_own h.o0 hb, g_own h.o1 hb, g_own h.o2 hb, h.bx.below hb, h.d01, h.d02, h.d12, h.b0, h.b1, h.b2, h.lo⟩
theorem An.rng {W W' : World} {lo B n a b : Nat} {v p q : Value} {fs us vs : List Int} (h : An W lo B v p q n fs us vs) (hr : Rng a b W W') (hd : b ≤ lo) : An W' lo B v p q n fs us vs :=
  have k : ∀ g, lo ≤ g → g < W.heap.size → W'.heap[g]? = W.heap[g]? := fun g h1 h2 => hr.2.2.2.2 g h2 (Or.inr (by omega))
  ⟨own_blk h.o0 fun g hg => k g (h.o0.lt g hg).1 (h.o0.lt g hg).2, own_blk h.o1 fun g hg => k g (h.o1.lt g hg).1 (h.o1.lt g hg).2, own_blk h.o2 fun g hg => k g (h.o2.lt g hg).1 (h.o2.lt g hg).2, h.bx.keep9 hr.2.2.2.1 (k B h.lo h.bx.2.2), h.d01, h.d02, h.d12, h.b0, h.b1, h.b2, h.lo⟩
/-- Behind the marks: what is held of the answer. -/
structure Hn (W : World) (B : Nat) (v p q : Value) (n : Nat) : Prop where
  h0 : HeldV W v n 1
  h1 : HeldV W p n (1 + n)
  h2 : HeldV W q n (1 + n + n)
  bx : PBox W B p q
theorem Hn.below {W W' : World} {B n : Nat} {v p q : Value} (h : Hn W B v p q n) (hb : Below W.heap.size W W') : Hn W' B v p q n := ⟨h.h0.below hb, h.h1.below hb, h.h2.below hb, h.bx.below hb⟩
theorem An.mark1 {W W' : World} {lo B n : Nat} {v p q : Value} {fs us vs : List Int} (h : An W lo B v p q n fs us vs) (hg : W.grownBy W' v.ownBlock) (hl : lo ≤ W.heap.size) : W'.ownsRow lo 3 1 p n (ints us) ∧ W'.ownsRow lo 3 1 q n (ints vs) ∧ PBox W' B p q ∧ Below lo W W' :=
  ⟨own_blk h.o1 fun g hg' => hg.block g (h.o1.lt g hg').2 (fun e => h.d01 g e.symm hg'), own_blk h.o2 fun g hg' => hg.block g (h.o2.lt g hg').2 (fun e => h.d02 g e.symm hg'), h.bx.keep9 hg.size (hg.block B h.bx.2.2 (fun e => h.b0 e.symm)), ⟨hg.os, hg.tape, hg.output, hg.size, fun b hb => hg.block b (by omega) (fun e => by have := (h.o0.lt b e.symm).1; omega)⟩⟩
theorem mark2 {W W' : World} {lo B n : Nat} {v p q : Value} {us vs : List Int} {k1 k2 : Int} (H0 : HeldV W v n 1) (o1 : W.ownsRow lo 3 1 p n (ints us)) (o2 : W.ownsRow lo 3 1 q n (ints vs)) (bx : PBox W B p q) (d01 : ∀ g, v.ownBlock = some g → p.ownBlock ≠ some g) (d02 : ∀ g, v.ownBlock = some g → q.ownBlock ≠ some g) (b1 : p.ownBlock ≠ some B) (b2 : q.ownBlock ≠ some B) (h1 : HeldV W' p n k1) (h2 : HeldV W' q n k2) (e1 : k1 = 1 + n) (e2 : k2 = 1 + n + n) (ho : OffV9 W W' p q) (hl : lo ≤ W.heap.size) : Hn W' B v p q n ∧ Below lo W W' := by
  subst e1
  subst e2
  refine ⟨⟨?_, h1, h2, bx.keep9 ho.size (ho.block B bx.2.2 (fun e => b1 e.symm) (fun e => b2 e.symm))⟩, ho.os, ho.tape, ho.output, ho.size, fun b hb => ho.block b (by omega) (fun e => by have := (o1.lt b e.symm).1; omega) (fun e => by have := (o2.lt b e.symm).1; omega)⟩
  rcases H0 with h | ⟨g, cap, rfl, hl', hc⟩
  · exact Or.inl h
  · exact Or.inr ⟨g, cap, rfl, Nat.lt_of_lt_of_le hl' ho.size, fun j hj => (World.cell?_of_block (w := W) (a := ⟨g, j, none⟩) (ho.block g hl' (fun e => d01 g rfl e.symm) (fun e => d02 g rfl e.symm))).trans (hc j hj)⟩
theorem cfN_le (C : List (List Int)) : cfN C ≤ 10 := by
  unfold cfN
  split
  · rename_i h; exact (Hu.costB_len h).2
  · omega
set_option maxHeartbeats 1000000 in
theorem lCf9_long {a0 : Option Addr} {n0 c0 : Nat} {w : World} (hm : n0 ≤ maxLen) (h : 1048576 < n0) :
    Calls Try.prog 4 #[.slice a0 n0 c0] w fun e w' => e = .returned (.bool true) ∧ Below w.heap.size w w' := by
  go_enter Try.func4, Try.ntmps4
  go_wp2_with fail
  refine (szC_long (by omega) (by omega) hm (by omega)).mono ?_
  rintro e w1 ⟨rfl, rfl⟩
  go_wp2_with fail
  go_ret
  exact ⟨rfl, Below.refl _ _⟩
set_option maxRecDepth 100000 in
set_option maxHeartbeats 16000000 in
theorem lCf9_main {a0 : Option Addr} {l c0 : Nat} {C : List (List Int)} {w : World} (HL : Hid (C.length = l)) (hl : l ≤ 1048576) (HF : Hid (CFits C)) (HC : Hid (CRow w a0 C)) :
    Calls Try.prog 4 #[.slice a0 l c0] w fun e w' => e = .returned (.bool true) ∧ Below w.heap.size w w' := by
  have HSI := hide fun (W : World) (x : Nat) (r : CRow W (some ⟨x, 0, none⟩) C) => scf_w (w := W) (ce := l) HL hl (hide r)
  have HRI := hide fun (W : World) (x : Nat) (r : CRow W (some ⟨x, 0, none⟩) C) => cf_w (w := W) (ce := l) HL (hide r)
  have HLA := hide (cfA_len C)
  have HLB := hide (cfB_len C)
  have HLC := hide (cfC_len C)
  have hN := cfN_le C
  generalize cfA C = FA at *
  generalize cfB C = FB at *
  generalize cfC C = FC at *
  generalize cfN C = N at *
  generalize Hu.costB C = T at *
  have hneT : (T != T) = false := by simp
  have hn1 : ¬ (1 : Int) + (N : Int) < 0 := by omega
  have hn2 : ¬ (1 : Int) + (N : Int) + (N : Int) + (N : Int) < 0 := by omega
  have hnm : ((1 : Int) + (N : Int) + (N : Int) + (N : Int) != (1 : Int) + (N : Int) + (N : Int) + (N : Int)) = false := by simp
  go_enter Try.func4, Try.ntmps4
  go_wp2_with fail
  refine (szC_any HL.out (by omega) (by omega) (by omega) HF.out HC.out).mono ?_
  rintro e w0 ⟨r, rfl, hr1, hr2, hw0⟩
  obtain rfl : w = w0 := hw0.symm
  rcases hr2 with rfl | ⟨hr0, hsh⟩
  · go_wp2_with fail
    go_ret
    exact ⟨rfl, Below.refl _ _⟩
  have HSh := hide hsh
  have hr3 : ¬ r < 0 := by omega
  clear hsh
  go_wp2_with fail
  refine (toC_own HL.out hl HSh.out HC.out).mono ?_
  rintro e w1 ⟨rfl, hb1, o1⟩
  have R1 := hide o1.row
  have HB1 := hide hb1
  clear o1 hb1
  go_wp2_with fail
  refine (HSI.out _ _ R1.out).mono ?_
  rintro e w2 ⟨v5, p5, q5, rfl, h2⟩
  obtain ⟨av5, cv5, rfl⟩ := own_form h2.o0
  obtain ⟨ap5, cp5, rfl⟩ := own_form h2.o1
  obtain ⟨aq5, cq5, rfl⟩ := own_form h2.o2
  have A2 := hide (h2.an 29)
  have bn2 := below_new w2 (.cells #[.slice ap5 N cp5, .slice aq5 N cq5] 29)
  have HB2 := hide ((HB1.out.trans (h2.b.mono HB1.out.size)).trans (bn2.mono (HB1.out.trans (h2.b.mono HB1.out.size)).size))
  clear h2 bn2 HB1 R1
  go_wp2_with fail
  generalize w2.alloc (.cells #[.slice ap5 N cp5, .slice aq5 N cq5] 29) = W2 at *
  generalize w2.heap.size = B5 at *
  refine (toC_own HL.out hl HSh.out (HC.out.below HB2.out)).mono ?_
  rintro e w3 ⟨rfl, hb3, o3⟩
  have hz3 := hb3.size
  have O3 := hide o3
  have R3 := hide o3.row
  have V3 := hide hb3
  have HB3 := hide (HB2.out.trans (hb3.mono HB2.out.size))
  have hz2 := HB2.out.size
  clear o3 hb3 HB2
  go_wp2_with fail
  refine (HRI.out _ _ R3.out).mono ?_
  rintro e w4 ⟨v9, p9, q9, rfl, h4⟩
  obtain ⟨av9, cv9, rfl⟩ := own_form h4.o0
  obtain ⟨ap9, cp9, rfl⟩ := own_form h4.o1
  obtain ⟨aq9, cq9, rfl⟩ := own_form h4.o2
  have P4 := hide (h4.an 29)
  have b4 := h4.b.trans ((below_new w4 (.cells #[.slice ap9 N cp9, .slice aq9 N cq9] 29)).mono h4.b.size)
  have O4 := hide (O3.out.below b4)
  have V4 := hide (V3.out.trans (b4.mono hz3))
  have HB4 := hide (HB3.out.trans (b4.mono HB3.out.size))
  have hz4 := b4.size
  clear h4 b4 O3 R3 V3 HB3
  go_wp2_with fail
  generalize w4.alloc (.cells #[.slice ap9 N cp9, .slice aq9 N cq9] 29) = W4 at *
  generalize w4.heap.size = B9 at *
  refine (eqV_any HLA.out (by omega) P4.out.o0 (A2.out.below V4.out).o0).mono ?_
  rintro e w5 ⟨rfl, hb5⟩
  have P5 := hide (P4.out.below hb5)
  have O5 := hide (O4.out.below hb5)
  have V5 := hide (V4.out.trans (hb5.mono V4.out.size))
  have HB5 := hide (HB4.out.trans (hb5.mono HB4.out.size))
  obtain ⟨x0, x1, _⟩ := P5.out.bx
  obtain ⟨y0, y1, _⟩ := (A2.out.below V5.out).bx
  clear hb5 P4 O4 V4 HB4
  go_wp2_with fail
  refine (eqPrV_any HLB.out HLC.out (by omega) P5.out.o1 P5.out.o2 (A2.out.below V5.out).o1 (A2.out.below V5.out).o2).mono ?_
  rintro e w6 ⟨rfl, hb6⟩
  have P6 := hide (P5.out.below hb6)
  have O6 := hide (O5.out.below hb6)
  have V6 := hide (V5.out.trans (hb6.mono V5.out.size))
  have HB6 := hide (HB5.out.trans (hb6.mono HB5.out.size))
  clear hb6 P5 O5 V5 HB5 x0 x1 y0 y1
  go_wp2_with fail
  refine (toC_own HL.out hl HSh.out (HC.out.below HB6.out)).mono ?_
  rintro e w7 ⟨rfl, hb7, o7⟩
  have S7 := hide o7.row
  have P7 := hide (P6.out.below hb7)
  have O7 := hide (O6.out.below hb7)
  have V7 := hide (V6.out.trans (hb7.mono V6.out.size))
  have HB7 := hide (HB6.out.trans (hb7.mono HB6.out.size))
  clear hb7 o7 P6 O6 V6 HB6
  go_wp2_with fail
  refine (eqC_b HL.out hl HSh.out O7.out.row S7.out).mono ?_
  rintro e w8 ⟨rfl, hb8⟩
  have P8 := hide (P7.out.below hb8)
  have O8 := hide (O7.out.below hb8)
  have V8 := hide (V7.out.trans (hb8.mono V7.out.size))
  have HB8 := hide (HB7.out.trans (hb8.mono HB7.out.size))
  clear hb8 S7 P7 O7 V7 HB7
  go_wp2_with fail
  refine (markC_any HL hl HSh O8.out).mono ?_
  rintro e w9 ⟨k, rfl, hk0, hr9⟩
  have hk1 : ¬ k < 0 := by omega
  have P9 := hide (P8.out.rng hr9 (Nat.le_refl _))
  have V9 := hide (V8.out.trans (hr9.below (Nat.le_refl _) V8.out.size))
  have HB9 := hide (HB8.out.trans (hr9.below hz2 HB8.out.size))
  clear hr9 P8 O8 V8 HB8
  go_wp2_with fail
  refine (eqV_any HLA.out (by omega) P9.out.o0 (A2.out.below V9.out).o0).mono ?_
  rintro e w10 ⟨rfl, hb10⟩
  have P10 := hide (P9.out.below hb10)
  have V10 := hide (V9.out.trans (hb10.mono V9.out.size))
  have HB10 := hide (HB9.out.trans (hb10.mono HB9.out.size))
  obtain ⟨x0, x1, _⟩ := P10.out.bx
  obtain ⟨y0, y1, _⟩ := (A2.out.below V10.out).bx
  clear hb10 P9 V9 HB9
  go_wp2_with fail
  refine (eqPrV_any HLB.out HLC.out (by omega) P10.out.o1 P10.out.o2 (A2.out.below V10.out).o1 (A2.out.below V10.out).o2).mono ?_
  rintro e w11 ⟨rfl, hb11⟩
  have P11 := hide (P10.out.below hb11)
  have V11 := hide (V10.out.trans (hb11.mono V10.out.size))
  have HB11 := hide (HB10.out.trans (hb11.mono HB10.out.size))
  clear hb11 P10 V10 HB10 x0 x1 y0 y1
  go_wp2_with fail
  refine (markV_any HLA.out (by omega) (by omega) (by omega) P11.out.o0).mono ?_
  rintro e w12 ⟨rfl, hh12, hg12⟩
  obtain ⟨m1, m2, m3, m4⟩ := P11.out.mark1 hg12 (Nat.le_trans P11.out.lo (Nat.le_of_lt P11.out.bx.2.2))
  have H12 := hide hh12
  have M1 := hide m1
  have M2 := hide m2
  have M3 := hide m3
  have D1 := hide P11.out.d01
  have D2 := hide P11.out.d02
  have D3 := hide P11.out.d12
  have D4 := hide P11.out.b1
  have D5 := hide P11.out.b2
  have LO := hide (Nat.le_trans (Nat.le_trans P11.out.lo (Nat.le_of_lt P11.out.bx.2.2)) m4.size)
  have V12 := hide (V11.out.trans (m4.mono (by omega)))
  have HB12 := hide (HB11.out.trans (m4.mono (by omega)))
  obtain ⟨x0, x1, _⟩ := m3
  clear hh12 hg12 m1 m2 m4 P11 V11 HB11
  go_wp2_with fail
  refine (markPrV_any HLB.out HLC.out (by omega) (by omega) (by omega) M1.out M2.out D3.out).mono ?_
  rintro e w13 ⟨rfl, hh1, hh2, ho⟩
  obtain ⟨hH, m4⟩ := mark2 H12.out M1.out M2.out M3.out D1.out D2.out D4.out D5.out hh1 hh2 rfl rfl ho LO.out
  have H13 := hide hH
  have V13 := hide (V12.out.trans (m4.mono (by omega)))
  have HB13 := hide (HB12.out.trans (m4.mono (by omega)))
  clear hh1 hh2 ho hH m4 H12 M1 M2 M3 D1 D2 D3 D4 D5 LO V12 HB12 x0 x1
  go_wp2_with fail
  refine (heldV_any (by omega) (by omega) (by omega) H13.out.h0).mono ?_
  rintro e wz ⟨rfl, hwz⟩
  obtain rfl : w13 = wz := hwz.symm
  obtain ⟨x0, x1, _⟩ := H13.out.bx
  go_wp2_with fail
  refine (heldPrV_any (by omega) (by omega) (by omega) H13.out.h1 H13.out.h2).mono ?_
  rintro e w14 ⟨rfl, hb14⟩
  have H14 := hide (H13.out.below hb14)
  have V14 := hide (V13.out.trans (hb14.mono V13.out.size))
  have HB14 := hide (HB13.out.trans (hb14.mono HB13.out.size))
  clear hb14 H13 V13 HB13 x0 x1
  go_wp2_with fail
  refine (toC_own HL.out hl HSh.out (HC.out.below HB14.out)).mono ?_
  rintro e w15 ⟨rfl, hb15, o15⟩
  have R15 := hide o15.row
  have H15 := hide (H14.out.below hb15)
  have V15 := hide (V14.out.trans (hb15.mono V14.out.size))
  have HB15 := hide (HB14.out.trans (hb15.mono HB14.out.size))
  clear hb15 o15 H14 V14 HB14
  go_wp2_with fail
  refine (HRI.out _ _ R15.out).mono ?_
  rintro e w16 ⟨v6, p6, q6, rfl, h6⟩
  obtain ⟨av6, cv6, rfl⟩ := own_form h6.o0
  obtain ⟨ap6, cp6, rfl⟩ := own_form h6.o1
  obtain ⟨aq6, cq6, rfl⟩ := own_form h6.o2
  have P16 := hide (h6.an 29)
  have b16 := h6.b.trans ((below_new w16 (.cells #[.slice ap6 N cp6, .slice aq6 N cq6] 29)).mono h6.b.size)
  have H16 := hide (H15.out.below b16)
  have V16 := hide (V15.out.trans (b16.mono V15.out.size))
  have HB16 := hide (HB15.out.trans (b16.mono HB15.out.size))
  clear h6 b16 R15 H15 V15 HB15
  go_wp2_with fail
  generalize w16.alloc (.cells #[.slice ap6 N cp6, .slice aq6 N cq6] 29) = W16 at *
  generalize w16.heap.size = B16 at *
  refine (eqV_any HLA.out (by omega) P16.out.o0 (A2.out.below V16.out).o0).mono ?_
  rintro e w17 ⟨rfl, hb17⟩
  have P17 := hide (P16.out.below hb17)
  have H17 := hide (H16.out.below hb17)
  have V17 := hide (V16.out.trans (hb17.mono V16.out.size))
  have HB17 := hide (HB16.out.trans (hb17.mono HB16.out.size))
  obtain ⟨x0, x1, _⟩ := P17.out.bx
  obtain ⟨y0, y1, _⟩ := (A2.out.below V17.out).bx
  clear hb17 P16 H16 V16 HB16
  go_wp2_with fail
  refine (eqPrV_any HLB.out HLC.out (by omega) P17.out.o1 P17.out.o2 (A2.out.below V17.out).o1 (A2.out.below V17.out).o2).mono ?_
  rintro e w18 ⟨rfl, hb18⟩
  have H18 := hide (H17.out.below hb18)
  have HB18 := hide (HB17.out.trans (hb18.mono HB17.out.size))
  clear hb18 P17 H17 V17 HB17 x0 x1 y0 y1
  go_wp2_with fail
  refine (heldV_any (by omega) (by omega) (by omega) H18.out.h0).mono ?_
  rintro e wz ⟨rfl, hwz⟩
  obtain rfl : w18 = wz := hwz.symm
  obtain ⟨x0, x1, _⟩ := H18.out.bx
  go_wp2_with fail
  refine (heldPrV_any (by omega) (by omega) (by omega) H18.out.h1 H18.out.h2).mono ?_
  rintro e w19 ⟨rfl, hb19⟩
  have HB19 := hide (HB18.out.trans (hb19.mono HB18.out.size))
  clear hb19 H18 HB18 x0 x1
  go_wp2_with fail
  go_ret
  exact ⟨rfl, HB19.out⟩
theorem lCf9_walk {a0 : Option Addr} {c0 : Nat} {C : List (List Int)} {w : World} (hm0 : C.length ≤ maxLen) (hf0 : CFits C) (ha0 : CRow w a0 C) :
    Calls Try.prog 4 #[.slice a0 C.length c0] w fun e w' => e = .returned (.bool true) ∧ Below w.heap.size w w' := by
  by_cases h0 : C.length ≤ 1048576
  rotate_left
  · exact lCf9_long hm0 (by omega)
  exact lCf9_main (hide rfl) h0 (hide hf0) (hide ha0)
end Go.Proofs.Ytcniegaogdggaaa
