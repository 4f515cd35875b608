/-
  What packed and numbersIn of the program answer.
-/
import Derived.Test.YtoalcmfpbjmapaaIv12
import Derived.Test.YtoalcmfpbjmapaaIq12
namespace Go.Proofs.Ytoalcmfpbjmapaa
open Go.RowKit

theorem infoSet : ∃ i, Try.prog.info? 53 = some i ∧ i.zero = some (.slice none 0 0) ∧ i.size = 1 ∧ i.bytes = 24 := by
  have h : (Try.prog.info? 53).map (fun i => (i.zero, i.size, i.bytes)) = some (some (.slice none 0 0), 1, 24) := by kernel_rfl
  obtain ⟨i, hi, hzz⟩ := Option.map_eq_some_iff.1 h
  simp only [Prod.mk.injEq] at hzz
  exact ⟨i, hi, hzz.1, hzz.2.1, hzz.2.2⟩
/-- A box more, nothing in it. -/
theorem LL.pushNil {W : World} {base : Nat} {v : Value} {us : List Value} {B : List (List (Int × Int))} (h : LL W base 53 51 2 ite v us B) (hn : B.length ≤ 1000) (hb : base ≤ W.heap.size) :
    ∃ G cap w1, (∀ ty, (Builtin.append_ #[49, 49] ty #[v, .slice (some ⟨W.heap.size, 0, none⟩) 1 1]).run Try.prog (W.alloc (.cells #[.slice none 0 0] 53)) = .ok (.slice (some ⟨G, 0, none⟩) (B.length + 1) cap) w1) ∧
      LL w1 base 53 51 2 ite (.slice (some ⟨G, 0, none⟩) (B.length + 1) cap) (us ++ [nilS]) (B ++ [[]]) ∧ Below base W w1 ∧ ∀ b, b < W.heap.size → some b ≠ v.ownBlock → w1.heap[b]? = W.heap[b]? := by
  obtain ⟨G, cap, w1, r1, o1, g1, f1⟩ := push_9 (x := .slice none 0 0) Try.underlying49 infoSet rfl rfl (by omega) h.1 (by omega) hb
  have k1 : ∀ b, b < W.heap.size → some b ≠ v.ownBlock → w1.heap[b]? = W.heap[b]? := fun b hb' hne => (g1.block b (by simp; omega) hne).trans ((below_alloc W _).block b hb')
  have z1 : W.heap.size ≤ w1.heap.size := Nat.le_trans (by simp) g1.size
  have hG : (Value.slice (some ⟨G, 0, none⟩) (B.length + 1) cap).ownBlock = some G := rfl
  refine ⟨G, cap, w1, r1, h.snoc (r := []) o1 k1 (fun g e => ?_) (World.ownsRow_nil _ _ _ _) (fun g e => by cases e), ⟨g1.os, g1.tape, g1.output, z1, fun b hb' => k1 b (by omega) (fun e => by have := (h.1.lt b e.symm).1; omega)⟩, k1⟩
  rw [hG] at e; cases e
  rcases f1 with f1 | f1
  · exact Or.inl f1
  · exact Or.inr (by omega)
set_option maxRecDepth 100000 in
set_option maxHeartbeats 4000000 in
theorem pkd_any {a : Option Addr} {n c : Nat} {xs : List (Int × Int)} {w : World} (hx : xs.length = n) (hn : n ≤ 900) (hd : xs.Nodup) (hsz : ∀ x ∈ xs, 1 ≤ x.2 ∧ x.2 ≤ 20) (ha : FRow w a xs)
    (HNI : Hid (∀ (v : Value) (us : List Value) (W : World), Below w.heap.size w W → LL W w.heap.size 53 51 2 ite v us (It.fill xs) → Calls Try.prog 52 #[v] W fun e w' => ∃ v' us', e = .returned v' ∧ LL w' W.heap.size 22 3 1 ints v' us' (It.nums (It.fill xs)) ∧ Below W.heap.size W w')) :
    Calls Try.prog 33 #[.slice a n c] w fun e w' => ∃ v us, e = .returned v ∧ LL w' w.heap.size 22 3 1 ints v us (It.nums (It.fill xs)) ∧ Below w.heap.size w w' := by
  have HA := hide ha
  have HX := hide hx
  have HD := hide hd
  have HSZ := hide hsz
  have HFI := hide (It.fi_all hsz)
  clear hx hd hsz ha
  go_enter Try.func33, Try.ntmps33
  go_wp2_with fail
  go_loopw [3, 5, 6, 9] (fun s3 _ _ s9 wr => ∃ (j : Nat) (us : List Value), s9 = .int .i64 j ∧ j ≤ n ∧ Hid (LL wr w.heap.size 53 51 2 ite s3 us (It.fillTo xs j)) ∧ Hid (Below w.heap.size w wr)) (fun _ _ _ s9 _ => n - (intOf s9).toNat)
  case atStart => exact ⟨0, [], rfl, Nat.zero_le _, hide (LL.nil _ _ _ _ _ _), hide (Below.refl _ _)⟩
  case round =>
    obtain ⟨j, us, rfl, hj, HL, HB⟩ := hrel
    by_cases hlt : j < n
    · have hjl : j < xs.length := by rw [HX.out]; exact hlt
      obtain ⟨q, o, rfl, hq, r1, r2⟩ := HA.out.at (i := j) hjl
      have k1 := (HB.out.cell (p := ⟨q, o + j * 2, none⟩) hq).trans r1
      have k2 := (HB.out.cell (p := ⟨q, o + j * 2 + 1, none⟩) hq).trans r2
      have i0 : (0 : Int) ≤ (j : Int) := by omega
      have i1 : (j : Int) < (n : Int) := by omega
      have hmem : xs.getD j (0, 0) ∈ xs := by simp [hjl]
      obtain ⟨x4, x5⟩ := HSZ.out _ hmem
      have FIj := HFI.out j (by omega)
      have HST := hide (It.fillTo_succ hjl)
      have HNEW := hide fun i hi => It.fi_new HD.out FIj hjl (i := i) hi
      generalize hxe : xs.getD j (0, 0) = x at *
      obtain ⟨x, y⟩ := x
      simp only at *
      generalize hBe : It.fillTo xs j = B at *
      have hfew := FIj.few
      have HFJ := hide FIj
      obtain ⟨a3, c3, e3⟩ := own_form2 HL.out.1
      subst e3
      obtain ⟨N, hN⟩ : ∃ N, B.length = N := ⟨_, rfl⟩
      have HN := hide hN
      have HLN := hide HL.out
      rw [hN] at HLN hfew ⊢
      have HBSZ : Hid (∀ i, i < N → ∀ z ∈ B.getD i [], 1 ≤ z.2 ∧ z.2 ≤ 20) := hide fun i hi z hz => HSZ.out z (List.mem_of_mem_take ((HFJ.out.box i (by rw [HN.out]; exact hi)).2.2.2 z hz))
      have HB9 : Hid (∀ i, i < N → (B.getD i []).length ≤ 900) := hide fun i hi => by have := (HFJ.out.box i (by rw [HN.out]; exact hi)).1; omega
      clear r1 r2 hmem FIj hxe hBe hN HL
      go_upto_region 5 with fail
      have BA := below_alloc wr (.cells #[.int .i64 x, .int .i64 y] 51)
      have hQ0 : (wr.alloc (.cells #[.int .i64 x, .int .i64 y] 51)).cell? ⟨wr.heap.size, 0, none⟩ = some (.int .i64 x) := by simp
      have hQ1 : (wr.alloc (.cells #[.int .i64 x, .int .i64 y] 51)).cell? ⟨wr.heap.size, 1, none⟩ = some (.int .i64 y) := by simp
      obtain ⟨G0, cap0, hv0⟩ : ∃ G cap, (Value.slice a3 N c3 = .slice (some ⟨G, 0, none⟩) N cap ∨ N = 0) := by
        by_cases h0 : N = 0
        · exact ⟨0, 0, Or.inr h0⟩
        · have ho := HLN.out.1
          rw [HN.out] at ho
          obtain ⟨G, cap, e, _, _⟩ := ho.form (by omega)
          exact ⟨G, cap, Or.inl e⟩
      have HIF := hide (ifT_any (HLN.out.below BA) HN.out (by omega) HB9.out HBSZ.out hQ1 hv0)
      obtain ⟨A, hA⟩ : ∃ A, (if It.atI B y < N then (It.atI B y : Int) else -1) = A := ⟨_, rfl⟩
      rw [hA] at HIF
      have HAA := hide hA
      have hQl : wr.heap.size < (wr.alloc (.cells #[.int .i64 x, .int .i64 y] 51)).heap.size := by simp
      have HQ := hide fun (W : World) (h : Below (wr.alloc (.cells #[.int .i64 x, .int .i64 y] 51)).heap.size (wr.alloc (.cells #[.int .i64 x, .int .i64 y] 51)) W) => (⟨(h.cell (p := ⟨wr.heap.size, 0, none⟩) hQl).trans hQ0, (h.cell (p := ⟨wr.heap.size, 1, none⟩) hQl).trans hQ1⟩ : W.cell? ⟨wr.heap.size, 0, none⟩ = _ ∧ W.cell? ⟨wr.heap.size, 1, none⟩ = _)
      have HBA := hide BA
      have HVQ : Hid (some wr.heap.size ≠ (Value.slice a3 N c3).ownBlock) := hide fun e => by have := (HLN.out.1.lt _ e.symm).2; omega
      clear BA hQ0 hQ1 hA k1 k2 hQl HNI
      go_wp2_with fail
      refine HIF.out.mono ?_
      rintro e w2 ⟨rfl, hb2⟩
      obtain ⟨c0, c1⟩ := HQ.out _ hb2
      have B2 := hide (HB.out.trans ((HBA.out.trans (hb2.mono HBA.out.size)).mono HB.out.size))
      have HL2 := hide ((HLN.out.below HBA.out).below hb2)
      clear hb2 HIF HQ HBA HLN HB
      by_cases hat : It.atI B y < N
      · obtain ⟨i, hiA⟩ : ∃ i, It.atI B y = i := ⟨_, rfl⟩
        have HAT := hide hiA
        rw [hiA] at hat
        obtain rfl : A = (i : Int) := by rw [← HAA.out, HAT.out, if_pos hat]
        obtain ⟨G, cap, e3⟩ : ∃ G cap, Value.slice a3 N c3 = .slice (some ⟨G, 0, none⟩) N cap := by
          rcases hv0 with h | h
          · exact ⟨_, _, h⟩
          · omega
        cases e3
        have HEB : Hid (It.ext B i = B) := hide (by unfold It.ext; rw [if_pos (by rw [HN.out]; exact hat)])
        have HEX := hide (It.fi_ext HFJ.out i)
        have hiB : i < B.length := by rw [HN.out]; exact hat
        rw [HEB.out] at HEX
        have HLB := HN
        have hiN := hat
        have HNM := hide (HNEW.out i hiB)
        have HLG := HL2
        have HBG := B2
        have hneg : ¬ (i : Int) < 0 := by omega
        clear hiA hv0
        have HAD := hide (addT_any (x := x) (y := y) (w := w2.drew) (HLG.out.below ((Below.refl _ _).drew)) HLB.out hiN (by have := (HEX.out i hiB).1; omega) HNM.out (by have := HBG.out.size; exact this))
        have HPL : Hid (It.fillTo xs (j + 1) = (B).set i ((B).getD i [] ++ [(x, y)])) := hide (by rw [HST.out]; unfold It.place; rw [HAT.out, HEB.out])
        have BD := hide (HBG.out.drew)
        have j0 : (0 : Int) ≤ (i : Int) := by omega
        have j1 : (i : Int) < ((N : Nat) : Int) := by omega
        clear HLG HNM HEX HBG
        go_upto_region 9 with fail
        go_region_with (first
          | (go_at_call 51; refine HAD.out.mono ?_; rintro e w5 ⟨rfl, us5, hl5, hb5⟩))
        all_goals
          have HL5 := hide hl5
          have HB5 := hide (BD.out.trans hb5)
          clear hl5 hb5
          go_wp2_with fail
          go_roundw
          case rel => exact ⟨j + 1, us5, by go_num, by omega, hide (by rw [HPL.out]; exact HL5.out), HB5⟩
          case measure => simp only [intOf]; omega
      · have HAT : Hid (It.atI B y = N) := hide (by have := It.at_le B y; rw [HN.out] at this; omega)
        obtain rfl : A = -1 := by rw [← HAA.out, if_neg hat]
        obtain ⟨i, rfl⟩ : ∃ i, N = i := ⟨_, rfl⟩
        have HEB : Hid (It.ext B N = B ++ [[]]) := hide (by unfold It.ext; rw [if_neg (by rw [HN.out]; omega)])
        have HEX := hide (It.fi_ext HFJ.out N)
        rw [HEB.out] at HEX
        have HLB : Hid ((B ++ [[]]).length = N + 1) := hide (by rw [List.length_append, HN.out]; rfl)
        have hiB : N < (B ++ [[]]).length := by rw [HLB.out]; omega
        have hiN : N < N + 1 := by omega
        have HNM : Hid (¬ (x, y) ∈ (B ++ [[]]).getD N []) := hide (by
          have : (B ++ [[]]).getD N [] = [] := by rw [← HN.out]; simp
          rw [this]; simp)
        obtain ⟨G, cap, w3, p1, l3, b3, kk⟩ := HL2.out.pushNil (by rw [HN.out]; omega) B2.out.size
        rw [HN.out] at p1 l3
        have HLG := hide l3
        have HBG := hide (B2.out.trans b3)
        have hQw : wr.heap.size < w2.heap.size := World.block_lt_of_cell? w2 _ c0
        have hkQ := kk wr.heap.size hQw HVQ.out
        have c0' := (World.cell?_of_block (w := w2) (a := ⟨wr.heap.size, 0, none⟩) hkQ).trans c0
        have c1' := (World.cell?_of_block (w := w2) (a := ⟨wr.heap.size, 1, none⟩) hkQ).trans c1
        clear l3 b3 HL2 B2 hv0 kk hkQ
        go_upto_region 8 with fail
        go_upto_region 9 with (at_builtin; refine Lib.wpList_append_run _ rfl (.tmp 20) (.tmp 21) 49 49 rfl _ _ rfl rfl _ _ (p1 _) ?_)
        clear p1
        have HAD := hide (addT_any (x := x) (y := y) (w := w3.drew) (HLG.out.below ((Below.refl _ _).drew)) HLB.out hiN (by have := (HEX.out N hiB).1; omega) HNM.out (by have := HBG.out.size; exact this))
        have HPL : Hid (It.fillTo xs (j + 1) = ((B ++ [[]])).set N (((B ++ [[]])).getD N [] ++ [(x, y)])) := hide (by rw [HST.out]; unfold It.place; rw [HAT.out, HEB.out])
        have BD := hide (HBG.out.drew)
        have j0 : (0 : Int) ≤ (N : Int) := by omega
        have j1 : (N : Int) < ((N + 1 : Nat) : Int) := by omega
        clear HLG HNM HEX HBG
        go_upto_region 9 with fail
        go_region_with (first
          | (go_at_call 51; refine HAD.out.mono ?_; rintro e w5 ⟨rfl, us5, hl5, hb5⟩))
        all_goals
          have HL5 := hide hl5
          have HB5 := hide (BD.out.trans hb5)
          clear hl5 hb5
          go_wp2_with fail
          go_roundw
          case rel => exact ⟨j + 1, us5, by go_num, by omega, hide (by rw [HPL.out]; exact HL5.out), HB5⟩
          case measure => simp only [intOf]; omega
    · have hke : j = n := by omega
      subst hke
      have HE : Hid (LL wr w.heap.size 53 51 2 ite u3 us (It.fill xs)) := hide (by
        have := HL.out
        rwa [It.fillTo_all xs (by rw [HX.out]; exact Nat.le_refl _)] at this)
      have HC := hide (HNI.out u3 us wr HB.out HE.out)
      clear HL HNI
      go_wp2_with fail
      refine HC.out.mono ?_
      rintro e w1 ⟨v', us', rfl, hl1, hb1⟩
      go_wp2_with fail
      go_ret
      exact ⟨v', us', rfl, ⟨own_low2 hl1.1 HB.out.size, fun i hi => own_low2 (hl1.2.1 i hi) HB.out.size, hl1.2.2⟩, HB.out.trans (hb1.mono HB.out.size)⟩
end Go.Proofs.Ytoalcmfpbjmapaa
