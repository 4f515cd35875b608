/-
  In one: Iw12, Ir12, Is12, Shelf, Ii12, Ix12, Pc, Pd, Pe, Pf1, Iy12, Jh12, Q, R, S, Hs, Ht, Jd12, Id12, Ha.
-/
import Derived.Test.YtnchkgblpnompaaX2
import Derived.BigQuiet
import Derived.Deep.DeepCutAuto
import Derived.Test.YtnchkgblpnompaaChecked
import Derived.Shelf.SlSortCmp.InsertionK
import Derived.Shelf.Bits.Mul64
import Derived.Shelf.Slices.SearchI
import Derived.Test.YtnchkgblpnompaaX1
import Derived.OwnWalk
import Derived.Laws.AppendOwn
import Derived.WalkMore
import Derived.Deep.AppendLies
import Derived.Laws.AppendOwnNone
namespace Go.Proofs.Ytnchkgblpnompaa
open Go.RowKit

theorem infoSet : ∃ i, Try.prog.info? 63 = some i ∧ i.zero = some (.slice none 0 0) ∧ i.size = 1 ∧ i.bytes = 24 := by
  have h : (Try.prog.info? 63).map (fun i => (i.zero, i.size, i.bytes)) = some (some (.slice none 0 0), 1, 24) := by kernel_rfl
  obtain ⟨i, hi, hzz⟩ := Option.map_eq_some_iff.1 h
  simp only [Prod.mk.injEq] at hzz
  exact ⟨i, hi, hzz.1, hzz.2.1, hzz.2.2⟩
/-- A box more, nothing in it. -/
theorem LL.pushNil {W : World} {base : Nat} {v : Value} {us : List Value} {B : List (List (Int × Int))} (h : LL W base 63 61 2 ite v us B) (hn : B.length ≤ 1000) (hb : base ≤ W.heap.size) :
    ∃ G cap w1, (∀ ty, (Builtin.append_ #[59, 59] ty #[v, .slice (some ⟨W.heap.size, 0, none⟩) 1 1]).run Try.prog (W.alloc (.cells #[.slice none 0 0] 63)) = .ok (.slice (some ⟨G, 0, none⟩) (B.length + 1) cap) w1) ∧
      LL w1 base 63 61 2 ite (.slice (some ⟨G, 0, none⟩) (B.length + 1) cap) (us ++ [nilS]) (B ++ [[]]) ∧ Below base W w1 ∧ ∀ b, b < W.heap.size → some b ≠ v.ownBlock → w1.heap[b]? = W.heap[b]? := by
  obtain ⟨G, cap, w1, r1, o1, g1, f1⟩ := push_9 (x := .slice none 0 0) Try.underlying59 infoSet rfl rfl (by omega) h.1 (by omega) hb
  have k1 : ∀ b, b < W.heap.size → some b ≠ v.ownBlock → w1.heap[b]? = W.heap[b]? := fun b hb' hne => (g1.block b (by simp; omega) hne).trans ((below_alloc W _).block b hb')
  have z1 : W.heap.size ≤ w1.heap.size := Nat.le_trans (by simp) g1.size
  have hG : (Value.slice (some ⟨G, 0, none⟩) (B.length + 1) cap).ownBlock = some G := rfl
  refine ⟨G, cap, w1, r1, h.snoc (r := []) o1 k1 (fun g e => ?_) (World.ownsRow_nil _ _ _ _) (fun g e => by cases e), ⟨g1.os, g1.tape, g1.output, z1, fun b hb' => k1 b (by omega) (fun e => by have := (h.1.lt b e.symm).1; omega)⟩, k1⟩
  rw [hG] at e; cases e
  rcases f1 with f1 | f1
  · exact Or.inl f1
  · exact Or.inr (by omega)
set_option maxRecDepth 100000 in
set_option maxHeartbeats 4000000 in
theorem pkd_any {a : Option Addr} {n c : Nat} {xs : List (Int × Int)} {w : World} (hx : xs.length = n) (hn : n ≤ 900) (hd : xs.Nodup) (hsz : ∀ x ∈ xs, 1 ≤ x.2 ∧ x.2 ≤ 20) (ha : FRow w a xs)
    (HNI : Hid (∀ (v : Value) (us : List Value) (W : World), Below w.heap.size w W → LL W w.heap.size 63 61 2 ite v us (It.fill xs) → Calls Try.prog 50 #[v] W fun e w' => ∃ v' us', e = .returned v' ∧ LL w' W.heap.size 23 3 1 ints v' us' (It.nums (It.fill xs)) ∧ Below W.heap.size W w')) :
    Calls Try.prog 26 #[.slice a n c] w fun e w' => ∃ v us, e = .returned v ∧ LL w' w.heap.size 23 3 1 ints v us (It.nums (It.fill xs)) ∧ Below w.heap.size w w' := by
  have HA := hide ha
  have HX := hide hx
  have HD := hide hd
  have HSZ := hide hsz
  have HFI := hide (It.fi_all hsz)
  clear hx hd hsz ha
  go_enter Try.func26, Try.ntmps26
  go_wp2_with fail
  go_loopw [3, 5, 6, 9] (fun s3 _ _ s9 wr => ∃ (j : Nat) (us : List Value), s9 = .int .i64 j ∧ j ≤ n ∧ Hid (LL wr w.heap.size 63 61 2 ite s3 us (It.fillTo xs j)) ∧ Hid (Below w.heap.size w wr)) (fun _ _ _ s9 _ => n - (intOf s9).toNat)
  case atStart => exact ⟨0, [], rfl, Nat.zero_le _, hide (LL.nil _ _ _ _ _ _), hide (Below.refl _ _)⟩
  case round =>
    obtain ⟨j, us, rfl, hj, HL, HB⟩ := hrel
    by_cases hlt : j < n
    · have hjl : j < xs.length := by rw [HX.out]; exact hlt
      obtain ⟨q, o, rfl, hq, r1, r2⟩ := HA.out.at (i := j) hjl
      have k1 := (HB.out.cell (p := ⟨q, o + j * 2, none⟩) hq).trans r1
      have k2 := (HB.out.cell (p := ⟨q, o + j * 2 + 1, none⟩) hq).trans r2
      have i0 : (0 : Int) ≤ (j : Int) := by omega
      have i1 : (j : Int) < (n : Int) := by omega
      have hmem : xs.getD j (0, 0) ∈ xs := by simp [hjl]
      obtain ⟨x4, x5⟩ := HSZ.out _ hmem
      have FIj := HFI.out j (by omega)
      have HST := hide (It.fillTo_succ hjl)
      have HNEW := hide fun i hi => It.fi_new HD.out FIj hjl (i := i) hi
      generalize hxe : xs.getD j (0, 0) = x at *
      obtain ⟨x, y⟩ := x
      simp only at *
      generalize hBe : It.fillTo xs j = B at *
      have hfew := FIj.few
      have HFJ := hide FIj
      obtain ⟨a3, c3, e3⟩ := own_form2 HL.out.1
      subst e3
      obtain ⟨N, hN⟩ : ∃ N, B.length = N := ⟨_, rfl⟩
      have HN := hide hN
      have HLN := hide HL.out
      rw [hN] at HLN hfew ⊢
      have HBSZ : Hid (∀ i, i < N → ∀ z ∈ B.getD i [], 1 ≤ z.2 ∧ z.2 ≤ 20) := hide fun i hi z hz => HSZ.out z (List.mem_of_mem_take ((HFJ.out.box i (by rw [HN.out]; exact hi)).2.2.2 z hz))
      have HB9 : Hid (∀ i, i < N → (B.getD i []).length ≤ 900) := hide fun i hi => by have := (HFJ.out.box i (by rw [HN.out]; exact hi)).1; omega
      clear r1 r2 hmem FIj hxe hBe hN HL
      go_upto_region 5 with fail
      have BA := below_alloc wr (.cells #[.int .i64 x, .int .i64 y] 61)
      have hQ0 : (wr.alloc (.cells #[.int .i64 x, .int .i64 y] 61)).cell? ⟨wr.heap.size, 0, none⟩ = some (.int .i64 x) := by simp
      have hQ1 : (wr.alloc (.cells #[.int .i64 x, .int .i64 y] 61)).cell? ⟨wr.heap.size, 1, none⟩ = some (.int .i64 y) := by simp
      obtain ⟨G0, cap0, hv0⟩ : ∃ G cap, (Value.slice a3 N c3 = .slice (some ⟨G, 0, none⟩) N cap ∨ N = 0) := by
        by_cases h0 : N = 0
        · exact ⟨0, 0, Or.inr h0⟩
        · have ho := HLN.out.1
          rw [HN.out] at ho
          obtain ⟨G, cap, e, _, _⟩ := ho.form (by omega)
          exact ⟨G, cap, Or.inl e⟩
      have HIF := hide (ifT_any (HLN.out.below BA) HN.out (by omega) HB9.out HBSZ.out hQ1 hv0)
      obtain ⟨A, hA⟩ : ∃ A, (if It.atI B y < N then (It.atI B y : Int) else -1) = A := ⟨_, rfl⟩
      rw [hA] at HIF
      have HAA := hide hA
      have hQl : wr.heap.size < (wr.alloc (.cells #[.int .i64 x, .int .i64 y] 61)).heap.size := by simp
      have HQ := hide fun (W : World) (h : Below (wr.alloc (.cells #[.int .i64 x, .int .i64 y] 61)).heap.size (wr.alloc (.cells #[.int .i64 x, .int .i64 y] 61)) W) => (⟨(h.cell (p := ⟨wr.heap.size, 0, none⟩) hQl).trans hQ0, (h.cell (p := ⟨wr.heap.size, 1, none⟩) hQl).trans hQ1⟩ : W.cell? ⟨wr.heap.size, 0, none⟩ = _ ∧ W.cell? ⟨wr.heap.size, 1, none⟩ = _)
      have HBA := hide BA
      have HVQ : Hid (some wr.heap.size ≠ (Value.slice a3 N c3).ownBlock) := hide fun e => by have := (HLN.out.1.lt _ e.symm).2; omega
      clear BA hQ0 hQ1 hA k1 k2 hQl HNI
      go_wp2_with fail
      refine HIF.out.mono ?_
      rintro e w2 ⟨rfl, hb2⟩
      obtain ⟨c0, c1⟩ := HQ.out _ hb2
      have B2 := hide (HB.out.trans ((HBA.out.trans (hb2.mono HBA.out.size)).mono HB.out.size))
      have HL2 := hide ((HLN.out.below HBA.out).below hb2)
      clear hb2 HIF HQ HBA HLN HB
      by_cases hat : It.atI B y < N
      · obtain ⟨i, hiA⟩ : ∃ i, It.atI B y = i := ⟨_, rfl⟩
        have HAT := hide hiA
        rw [hiA] at hat
        obtain rfl : A = (i : Int) := by rw [← HAA.out, HAT.out, if_pos hat]
        obtain ⟨G, cap, e3⟩ : ∃ G cap, Value.slice a3 N c3 = .slice (some ⟨G, 0, none⟩) N cap := by
          rcases hv0 with h | h
          · exact ⟨_, _, h⟩
          · omega
        cases e3
        have HEB : Hid (It.ext B i = B) := hide (by unfold It.ext; rw [if_pos (by rw [HN.out]; exact hat)])
        have HEX := hide (It.fi_ext HFJ.out i)
        have hiB : i < B.length := by rw [HN.out]; exact hat
        rw [HEB.out] at HEX
        have HLB := HN
        have hiN := hat
        have HNM := hide (HNEW.out i hiB)
        have HLG := HL2
        have HBG := B2
        have hneg : ¬ (i : Int) < 0 := by omega
        clear hiA hv0
        have HAD := hide (addT_any (x := x) (y := y) (w := w2.drew) (HLG.out.below ((Below.refl _ _).drew)) HLB.out hiN (by have := (HEX.out i hiB).1; omega) HNM.out (by have := HBG.out.size; exact this))
        have HPL : Hid (It.fillTo xs (j + 1) = (B).set i ((B).getD i [] ++ [(x, y)])) := hide (by rw [HST.out]; unfold It.place; rw [HAT.out, HEB.out])
        have BD := hide (HBG.out.drew)
        have j0 : (0 : Int) ≤ (i : Int) := by omega
        have j1 : (i : Int) < ((N : Nat) : Int) := by omega
        clear HLG HNM HEX HBG
        go_upto_region 9 with fail
        go_region_with (first
          | (go_at_call 49; refine HAD.out.mono ?_; rintro e w5 ⟨rfl, us5, hl5, hb5⟩))
        all_goals
          have HL5 := hide hl5
          have HB5 := hide (BD.out.trans hb5)
          clear hl5 hb5
          go_wp2_with fail
          go_roundw
          case rel => exact ⟨j + 1, us5, by go_num, by omega, hide (by rw [HPL.out]; exact HL5.out), HB5⟩
          case measure => simp only [intOf]; omega
      · have HAT : Hid (It.atI B y = N) := hide (by have := It.at_le B y; rw [HN.out] at this; omega)
        obtain rfl : A = -1 := by rw [← HAA.out, if_neg hat]
        obtain ⟨i, rfl⟩ : ∃ i, N = i := ⟨_, rfl⟩
        have HEB : Hid (It.ext B N = B ++ [[]]) := hide (by unfold It.ext; rw [if_neg (by rw [HN.out]; omega)])
        have HEX := hide (It.fi_ext HFJ.out N)
        rw [HEB.out] at HEX
        have HLB : Hid ((B ++ [[]]).length = N + 1) := hide (by rw [List.length_append, HN.out]; rfl)
        have hiB : N < (B ++ [[]]).length := by rw [HLB.out]; omega
        have hiN : N < N + 1 := by omega
        have HNM : Hid (¬ (x, y) ∈ (B ++ [[]]).getD N []) := hide (by
          have : (B ++ [[]]).getD N [] = [] := by rw [← HN.out]; simp
          rw [this]; simp)
        obtain ⟨G, cap, w3, p1, l3, b3, kk⟩ := HL2.out.pushNil (by rw [HN.out]; omega) B2.out.size
        rw [HN.out] at p1 l3
        have HLG := hide l3
        have HBG := hide (B2.out.trans b3)
        have hQw : wr.heap.size < w2.heap.size := World.block_lt_of_cell? w2 _ c0
        have hkQ := kk wr.heap.size hQw HVQ.out
        have c0' := (World.cell?_of_block (w := w2) (a := ⟨wr.heap.size, 0, none⟩) hkQ).trans c0
        have c1' := (World.cell?_of_block (w := w2) (a := ⟨wr.heap.size, 1, none⟩) hkQ).trans c1
        clear l3 b3 HL2 B2 hv0 kk hkQ
        go_upto_region 8 with fail
        go_upto_region 9 with (at_builtin; refine Lib.wpList_append_run _ rfl (.tmp 20) (.tmp 21) 59 59 rfl _ _ rfl rfl _ _ (p1 _) ?_)
        clear p1
        have HAD := hide (addT_any (x := x) (y := y) (w := w3.drew) (HLG.out.below ((Below.refl _ _).drew)) HLB.out hiN (by have := (HEX.out N hiB).1; omega) HNM.out (by have := HBG.out.size; exact this))
        have HPL : Hid (It.fillTo xs (j + 1) = ((B ++ [[]])).set N (((B ++ [[]])).getD N [] ++ [(x, y)])) := hide (by rw [HST.out]; unfold It.place; rw [HAT.out, HEB.out])
        have BD := hide (HBG.out.drew)
        have j0 : (0 : Int) ≤ (N : Int) := by omega
        have j1 : (N : Int) < ((N + 1 : Nat) : Int) := by omega
        clear HLG HNM HEX HBG
        go_upto_region 9 with fail
        go_region_with (first
          | (go_at_call 49; refine HAD.out.mono ?_; rintro e w5 ⟨rfl, us5, hl5, hb5⟩))
        all_goals
          have HL5 := hide hl5
          have HB5 := hide (BD.out.trans hb5)
          clear hl5 hb5
          go_wp2_with fail
          go_roundw
          case rel => exact ⟨j + 1, us5, by go_num, by omega, hide (by rw [HPL.out]; exact HL5.out), HB5⟩
          case measure => simp only [intOf]; omega
    · have hke : j = n := by omega
      subst hke
      have HE : Hid (LL wr w.heap.size 63 61 2 ite u3 us (It.fill xs)) := hide (by
        have := HL.out
        rwa [It.fillTo_all xs (by rw [HX.out]; exact Nat.le_refl _)] at this)
      have HC := hide (HNI.out u3 us wr HB.out HE.out)
      clear HL HNI
      go_wp2_with fail
      refine HC.out.mono ?_
      rintro e w1 ⟨v', us', rfl, hl1, hb1⟩
      go_wp2_with fail
      go_ret
      exact ⟨v', us', rfl, ⟨own_low2 hl1.1 HB.out.size, fun i hi => own_low2 (hl1.2.1 i hi) HB.out.size, hl1.2.2⟩, HB.out.trans (hb1.mono HB.out.size)⟩
end Go.Proofs.Ytnchkgblpnompaa
namespace Go.Proofs.Ytnchkgblpnompaa
open Go.RowKit

/-- What is there when a number is put into box i. -/
structure St12 (W : World) (b0 G cap gl capl n i : Nat) (us : List Value) (B : List (List (Int × Int))) (x : Int × Int) (ar : Option Addr) (len cr : Nat) (a1 : Option Addr) (c1 : Nat) (w1 : World) (g2 cap2 : Nat) (w2 : World) : Prop where
  row : us.getD i nilS = .slice ar len cr
  c0 : (W.alloc (.cells #[] 3)).cell? ⟨G, i, none⟩ = some (.slice ar len cr)
  r1 : ∀ ty, (Builtin.append_ #[23, 23] ty #[.slice (some ⟨W.heap.size, 0, none⟩) 0 0, .slice ar len cr]).run Try.prog (W.alloc (.cells #[] 3)) = .ok (.slice a1 len c1) w1
  r2 : ∀ ty, (Builtin.append_ #[23, 23] ty #[.slice a1 len c1, .slice (some ⟨w1.heap.size, 0, none⟩) 1 1]).run Try.prog (w1.alloc (.cells #[.int .i64 x.1] 3)) = .ok (.slice (some ⟨g2, 0, none⟩) (len + 1) cap2) w2
  c2 : w2.cell? ⟨G, i, none⟩ = some (.slice ar len cr)
  f2 : w2.frozen? ⟨G, i, none⟩ = false
  c3 : (w2.setCell ⟨G, i, none⟩ (.slice (some ⟨g2, 0, none⟩) (len + 1) cap2)).cell? ⟨gl, i, none⟩ = some (.int .i64 (It.rm (B.getD i [])))
  f3 : (w2.setCell ⟨G, i, none⟩ (.slice (some ⟨g2, 0, none⟩) (len + 1) cap2)).frozen? ⟨gl, i, none⟩ = false
  fs : FS ((w2.setCell ⟨G, i, none⟩ (.slice (some ⟨g2, 0, none⟩) (len + 1) cap2)).setCell ⟨gl, i, none⟩ (.int .i64 (It.rm (B.getD i []) - x.2))) b0 (.slice (some ⟨G, 0, none⟩) n cap) (.slice (some ⟨gl, 0, none⟩) n capl) (us.set i (.slice (some ⟨g2, 0, none⟩) (len + 1) cap2)) (B.set i (B.getD i [] ++ [x]))
  b3 : Below b0 W (w2.setCell ⟨G, i, none⟩ (.slice (some ⟨g2, 0, none⟩) (len + 1) cap2))
  b4 : Below b0 W ((w2.setCell ⟨G, i, none⟩ (.slice (some ⟨g2, 0, none⟩) (len + 1) cap2)).setCell ⟨gl, i, none⟩ (.int .i64 (It.rm (B.getD i []) - x.2)))
theorem FS.store {W : World} {b0 G cap gl capl n i : Nat} {us : List Value} {B : List (List (Int × Int))} {x : Int × Int} (h : FS W b0 (.slice (some ⟨G, 0, none⟩) n cap) (.slice (some ⟨gl, 0, none⟩) n capl) us B) (hn : B.length = n) (hi : i < n) (h9 : (B.getD i []).length ≤ 900) :
    ∃ ar len cr a1 c1 w1 g2 cap2 w2, St12 W b0 G cap gl capl n i us B x ar len cr a1 c1 w1 g2 cap2 w2 := by
  obtain ⟨hL, hO, hb, hA⟩ := h
  subst hn
  have hlen := It.nums_len B
  have hi' : i < (It.nums B).length := by rw [hlen]; exact hi
  have ho := hL.2.1 i hi'
  rw [It.nums_at] at ho
  have hL' := hL
  rw [← hlen] at hL'
  have hc := hL'.cell hi'
  obtain ⟨ar, cr, e, hr⟩ := own_row rfl ho
  have hlm : ((B.getD i []).map Prod.fst).length = (B.getD i []).length := by simp
  obtain ⟨a1, c1, w1, r1, o1, b1⟩ := cl_run12 (c := cr) (w := W) (n := ((B.getD i []).map Prod.fst).length) rfl (by rw [hlm]; omega) hr
  obtain ⟨g2, cap2, w2, r2, o2, gr2, f2⟩ := push_9 (x := .int .i64 x.1) Try.underlying23 infoI rfl rfl (by omega) o1 (by rw [hlm]; omega) b1.size
  have hGl : G < W.heap.size := (hL.1.lt G rfl).2
  have hgl : gl < W.heap.size := (hO.lt gl rfl).2
  have k1 : ∀ b, b < W.heap.size → w2.heap[b]? = W.heap[b]? := fun b hb' => ((gr2.block b (by have := b1.size; simp; omega) (fun e' => by have := (o1.lt b e'.symm).1; omega)).trans ((below_alloc w1 _).block b (by have := b1.size; omega))).trans (b1.block b hb')
  have z2 : W.heap.size ≤ w2.heap.size := Nat.le_trans b1.size (Nat.le_trans (by simp) gr2.size)
  have hne : G ≠ gl := fun e' => (hA gl rfl).1 (by rw [e']; rfl)
  have fr2 : w2.frozen? ⟨G, i, none⟩ = false := (World.frozen?_of_block (w := W) (a := ⟨G, i, none⟩) (k1 G hGl)).trans (hL'.1.frozenAt i)
  have far : ∀ b, b ≠ G → (w2.setCell ⟨G, i, none⟩ (.slice (some ⟨g2, 0, none⟩) (((B.getD i []).map Prod.fst).length + 1) cap2)).heap[b]? = w2.heap[b]? := fun b hb' => Below.heap_setCell w2 ⟨G, i, none⟩ _ b hb'
  have hO3 : (w2.setCell ⟨G, i, none⟩ (.slice (some ⟨g2, 0, none⟩) (((B.getD i []).map Prod.fst).length + 1) cap2)).ownsRow b0 3 1 (.slice (some ⟨gl, 0, none⟩) B.length capl) B.length (ints (It.rooms B)) := own_keep2 hO fun g hv hl => by
    obtain rfl : gl = g := by simpa [Value.ownBlock] using hv
    exact (far gl (Ne.symm hne)).trans (k1 gl hgl)
  have hf2 : W.heap.size ≤ g2 := by
    rcases f2 with f2 | f2
    · exact (o1.lt g2 f2).1
    · have := b1.size; omega
  have L3 := hL'.put (W' := w2) (u' := .slice (some ⟨g2, 0, none⟩) (((B.getD i []).map Prod.fst).length + 1) cap2) (r' := (B.getD i []).map Prod.fst ++ [x.1]) hi' (fun b hb' _ => k1 b hb') z2 (by
      rw [List.length_append, ints_snoc]; exact own_low2 o2 hb) (fun g e' => by
      have : g2 = g := by simpa [Value.ownBlock] using e'
      exact Or.inr (by omega))
  rw [hlen] at L3
  have b3 : Below b0 W (w2.setCell ⟨G, i, none⟩ (.slice (some ⟨g2, 0, none⟩) (((B.getD i []).map Prod.fst).length + 1) cap2)) := by
    have : Below b0 W w2 := ⟨(gr2.os.trans b1.os), (gr2.tape.trans b1.tape), (gr2.output.trans b1.output), z2, fun b hb' => k1 b (by omega)⟩
    exact this.setCell (p := ⟨G, i, none⟩) (hL.1.lt G rfl).1 _
  refine ⟨ar, _, cr, a1, c1, w1, g2, cap2, w2, e, ?_, r1, r2, ?_, fr2, ?_, hO3.frozenAt i, ⟨?_, ?_, ?_, fun g e' => ?_⟩, b3, b3.setCell (p := ⟨gl, i, none⟩) (hO.lt gl rfl).1 _⟩
  · exact ((below_alloc W _).cell (p := ⟨G, i, none⟩) hGl).trans (hc.trans (by rw [e]))
  · exact (World.cell?_of_block (w := W) (a := ⟨G, i, none⟩) (k1 G hGl)).trans (hc.trans (by rw [e]))
  · rw [hO3.cellAt i (by omega), ints_get _ i (by rw [It.rooms_len]; exact hi), It.rooms_at hi]
  · rw [It.nums_set, List.map_append]
    refine L3.keep2 fun g _ hc' => Below.heap_setCell _ ⟨gl, i, none⟩ _ g ?_
    show g ≠ gl
    intro e'
    subst e'
    rcases hc' with hc' | ⟨j, hj, hc'⟩
    · exact hne (by simpa [Value.ownBlock] using hc')
    · rw [List.length_set, hlen] at hj
      rw [getD_set' (by rw [hL.len, hlen]; exact hi)] at hc'
      split at hc'
      · have : g2 = g := by simpa [Value.ownBlock] using hc'
        omega
      · exact (hA g rfl).2 j hj hc'
  · have := (hO3.stored i (.int .i64 (It.rm (B.getD i []) - x.2))).1
    rw [ints_set] at this
    rw [List.length_set, It.rooms_set, It.rm_snoc]; exact this
  · have := b3.size; simp; simp at this; omega
  · obtain rfl : gl = g := by simpa [Value.ownBlock] using e'
    refine ⟨by simpa [Value.ownBlock] using hne, fun j hj => ?_⟩
    rw [List.length_set] at hj
    rw [getD_set' (by rw [hL.len, hlen]; exact hi)]
    split
    · intro e2
      have : g2 = gl := by simpa [Value.ownBlock] using e2
      omega
    · exact (hA gl rfl).2 j hj
end Go.Proofs.Ytnchkgblpnompaa
namespace Go.Proofs.Ytnchkgblpnompaa
open Go.RowKit

set_option maxRecDepth 100000 in
set_option maxHeartbeats 1000000 in
theorem ln_any {n : Nat} {w : World} (hn : n ≤ 1000) :
    Calls Try.prog 30 #[.int .i64 n] w fun e w' => ∃ a c, e = .returned (.slice a n c) ∧ ARow w' a ((List.range n).map fun (i : Nat) => (i : Int)) ∧ Below w.heap.size w w' := by
  go_enter Try.func30, Try.ntmps30
  go_wp2_with fail
  go_loopw [3, 4] (fun v s wr => ∃ k : Nat, s = .int .i64 k ∧ k ≤ n ∧ Hid (wr.ownsRow w.heap.size 3 1 v k (ints ((List.range k).map fun (i : Nat) => (i : Int)))) ∧ Hid (Below w.heap.size w wr)) (fun _ s _ => n - (intOf s).toNat)
  case atStart => exact ⟨0, rfl, Nat.zero_le _, hide (World.ownsRow_nil _ _ _ _), hide (Below.refl _ _)⟩
  case round =>
    obtain ⟨k, rfl, hk, HO, HB⟩ := hrel
    by_cases hlt : k < n
    · have i1 : (k : Int) < (n : Int) := by omega
      obtain ⟨av, cv, hv⟩ := own_form2 HO.out
      subst hv
      obtain ⟨v', w', hr, own', hg⟩ := push_int (x := (k : Int)) HO.out (by omega) HB.out.size
      have HO' : Hid (w'.ownsRow w.heap.size 3 1 v' (k + 1) (ints ((List.range (k + 1)).map fun (i : Nat) => (i : Int)))) := hide (by rw [List.range_succ, List.map_append, List.map_cons, List.map_nil, ints_snoc]; exact own')
      have HB' := hide (HB.out.trans (grown_under' hg HO.out (Nat.le_refl _) HB.out.size))
      clear own' hg HO
      go_wp2_with (first | (at_builtin; refine Lib.wpList_append_run _ rfl _ _ _ _ rfl _ _ rfl rfl _ _ (hr _) ?_))
      go_roundw
      case rel => exact ⟨k + 1, by go_num, by omega, HO', HB'⟩
      case measure => simp only [intOf]; omega
    · have hke : k = n := by omega
      subst hke
      obtain ⟨av, cv, hv, hr⟩ := own_row (by simp) HO.out
      subst hv
      have HR := hide hr
      clear hr HO
      go_wp2_with fail
      go_ret
      exact ⟨av, cv, rfl, HR.out, HB.out⟩
set_option maxRecDepth 100000 in
set_option maxHeartbeats 8000000 in
theorem lf_any {a ao : Option Addr} {n m c d : Nat} {l : List Int} {xs : List (Int × Int)} {w : World} (hx : l.length = n) (_hn : n ≤ 900) (hm : xs.length = m) (hm9 : m ≤ 900) (hxs : ∀ x ∈ xs, 0 ≤ x.1 ∧ x.1 < (n : Int) ∧ l.getD x.1.toNat 0 = x.2) (hsz : ∀ x ∈ xs, 1 ≤ x.2 ∧ x.2 ≤ 20) (ha : ARow w a l) (ho : ARow w ao (xs.map Prod.fst)) :
    Calls Try.prog 29 #[.slice a n c, .slice ao m d] w fun e w' => ∃ v us, e = .returned v ∧ LL w' w.heap.size 23 3 1 ints v us (It.nums (It.fill xs)) ∧ Below w.heap.size w w' := by
  have HA := hide fun (W : World) (h : Below w.heap.size w W) => ha.below h
  have HO := hide fun (W : World) (h : Below w.heap.size w W) => ho.below h
  have HX := hide hx
  have HM := hide hm
  have HXS := hide hxs
  have HSZ := hide hsz
  have HFI := hide (It.fi_all hsz)
  clear hx hm hxs hsz ha ho
  go_enter Try.func29, Try.ntmps29
  go_wp2_with fail
  go_loopw [5, 6, 8, 9, 12] (fun s5 s6 _ _ s12 wr => ∃ (j : Nat) (us : List Value), s12 = .int .i64 j ∧ j ≤ m ∧ Hid (FS wr w.heap.size s5 s6 us (It.fillTo xs j)) ∧ Hid (Below w.heap.size w wr)) (fun _ _ _ _ s12 _ => m - (intOf s12).toNat)
  case atStart => exact ⟨0, [], rfl, Nat.zero_le _, hide (FS.nil _ _ (Nat.le_refl _)), hide (Below.refl _ _)⟩
  case round =>
    obtain ⟨j, us, rfl, hj, HFS, HB⟩ := hrel
    by_cases hlt : j < m
    · have i0 : (0 : Int) ≤ (j : Int) := by omega
      have i1 : (j : Int) < (m : Int) := by omega
      have hjl : j < xs.length := by rw [HM.out]; exact hlt
      obtain ⟨bo, oo, eo, q1⟩ := (HO.out _ HB.out).at (i := j) (by simpa using hjl)
      subst eo
      have hmem : xs.getD j (0, 0) ∈ xs := by simp [hjl]
      obtain ⟨x1, x2, x3⟩ := HXS.out _ hmem
      obtain ⟨x4, x5⟩ := HSZ.out _ hmem
      have FIj := HFI.out j (by omega)
      have HST := hide (It.fillTo_succ hjl)
      rw [show (xs.map Prod.fst).getD j 0 = (xs.getD j (0, 0)).1 by simp [hjl]] at q1
      generalize hxe : xs.getD j (0, 0) = x at *
      obtain ⟨xk, xs2⟩ := x
      simp only at *
      obtain ⟨xi, rfl⟩ : ∃ xi : Nat, xk = (xi : Int) := ⟨xk.toNat, by omega⟩
      rw [Int.toNat_natCast] at x3
      generalize hBe : It.fillTo xs j = B at *
      have hfew := FIj.few
      have HFJ := hide FIj
      obtain ⟨a5, c5, e5⟩ := own_form2 HFS.out.1.1
      obtain ⟨a6, c6, e6⟩ := own_form2 HFS.out.2.1
      subst e5 e6
      rw [It.nums_len] at HFS ⊢
      obtain ⟨N, hN⟩ : ∃ N, B.length = N := ⟨_, rfl⟩
      have HN := hide hN
      rw [hN] at HFS hfew ⊢
      have hxi : xi < n := by omega
      have y0 : (0 : Int) ≤ (xi : Int) := by omega
      have y1 : (xi : Int) < (n : Int) := by omega
      clear hxe hBe hmem FIj hN
      go_wp2_with fail
      go_loopw [9] (fun s9 wq => ∃ i : Nat, s9 = .int .i64 i ∧ i ≤ N ∧ Hid (∀ t, t < i → ¬ xs2 ≤ It.rm (B.getD t [])) ∧ Hid (FS wq w.heap.size (.slice a5 N c5) (.slice a6 N c6) us B) ∧ Hid (Below w.heap.size w wq)) (fun s9 _ => N - (intOf s9).toNat)
      case atStart => exact ⟨0, rfl, Nat.zero_le _, hide fun t ht => absurd ht (Nat.not_lt_zero _), HFS, HB⟩
      case round =>
        clear HFS HB q1
        obtain ⟨i, rfl, hi, HNO, HFS, HB⟩ := hrel
        obtain ⟨bl, ol, el, ql⟩ := (HA.out _ HB.out).at (i := xi) (by rw [HX.out]; exact hxi)
        subst el
        rw [x3] at ql
        by_cases hiN : i < N
        · have own5 := HFS.out.1.1
          rw [It.nums_len, HN.out] at own5
          obtain ⟨G, cap, e5, _, _⟩ := own5.form (by omega)
          cases e5
          have own6 := HFS.out.2.1
          rw [HN.out] at own6
          obtain ⟨gl, capl, e6, _, _⟩ := own6.form (by omega)
          cases e6
          have hiB : i < (It.ext B i).length := It.ext_at (by rw [HN.out]; omega)
          have q6 : wr.cell? ⟨gl, i, none⟩ = some (.int .i64 (It.rm (B.getD i []))) := by rw [own6.cellAt i (by omega), ints_get _ i (by rw [It.rooms_len, HN.out]; exact hiN), It.rooms_at (by rw [HN.out]; exact hiN)]
          have j0 : (0 : Int) ≤ (i : Int) := by omega
          have j1 : (i : Int) < (N : Int) := by omega
          clear own6 own5
          by_cases hrm : It.rm (B.getD i []) < xs2
          · have HN1 : Hid (∀ t, t < i + 1 → ¬ xs2 ≤ It.rm (B.getD t [])) := hide fun t ht => by
              by_cases e : t = i
              · subst e; omega
              · exact HNO.out t (by omega)
            generalize It.rm (B.getD i []) = rr at *
            clear HNO
            go_upto_region 7 with fail
            go_quiet (fail)
            have HF2 := hide (HFS.out.below (below_drewN (Below.refl _ _) nq))
            have HB2 := hide (below_drewN HB.out nq)
            go_wp2_with fail
            go_roundw
            case rel => exact ⟨i + 1, by go_num, by omega, HN1, HF2, HB2⟩
            case measure => simp only [intOf]; omega
          · have HAT : Hid (It.atI B xs2 = i) := hide (It.at_yes (by rw [HN.out]; exact hiN) (by omega) HNO.out)
            have HEB : Hid (It.ext B i = B) := hide (by unfold It.ext; rw [if_pos (by rw [HN.out]; exact hiN)])
            have HEX := hide (It.fi_ext HFJ.out i)
            rw [HEB.out] at HEX hiB
            have HLN := HN
            have hine : ((i : Int) == (N : Int)) = false := by simp; omega
            have hine' : ¬ (i : Int) = (N : Int) := by omega
            generalize hrg : It.rm (B.getD i []) = rg at q6 hrm
            clear hrg
            go_upto_region 7 with fail
            go_quiet (fail)
            have HF2 := hide (HFS.out.below (below_drewN (Below.refl _ _) nq))
            have HBW := hide (below_drewN HB.out nq)
            clear q6 ql
            obtain ⟨ar, len, cr, a1, c1, w1, g2, cap2, w2, hS⟩ := FS.store (x := ((xi : Int), xs2)) HF2.out HLN.out hiN (by have := (HEX.out i hiB).1; omega)
            obtain ⟨r0, r1⟩ := (HEX.out i hiB).2
            have hr2 := r1.1
            have BW3 := hide (HBW.out.trans (hS.b3.mono (Nat.le_refl _)))
            have BW4 := hide (HBW.out.trans (hS.b4.mono (Nat.le_refl _)))
            obtain ⟨bl3, ol3, el3, ql3⟩ := (HA.out _ BW3.out).at (i := xi) (by rw [HX.out]; exact hxi)
            cases el3
            rw [x3] at ql3
            have hfs := hS.fs
            have HFS4 := hide (hfs.below ((Below.refl _ _).drew))
            clear hfs
            have k0 := hS.c0
            have k1 := hS.r1
            have k2 := hS.r2
            have k3 := hS.c2
            have k4 := hS.f2
            have k5 := hS.c3
            have k6 := hS.f3
            have HPL : Hid (It.fillTo xs (j + 1) = (B).set i ((B).getD i [] ++ [((xi : Int), xs2)])) := hide (by rw [HST.out]; unfold It.place; rw [HAT.out, HEB.out])
            generalize hrr : It.rm (B.getD i []) = rr at *
            have hws : IntKind.i64.wrap (rr - xs2) = rr - xs2 := by rw [IntKind.wrap_i64]; omega
            have j0 : (0 : Int) ≤ (i : Int) := by omega
            have j1 : (i : Int) < ((N : Nat) : Int) := by omega
            clear hS HF2 HBW r1 hrr HNO HFS HB
            go_upto_region 12 with fail
            go_upto_region 13 with (first | (at_builtin; refine Lib.wpList_append_run _ rfl (.tmp 45) (.tmp 49) 23 23 rfl _ _ rfl rfl _ _ (k1 _) ?_) | (at_builtin; refine Lib.wpList_append_run _ rfl (.tmp 50) (.tmp 52) 23 23 rfl _ _ rfl rfl _ _ (k2 _) ?_))
            clear k0 k1 k2 k3 k4
            go_region
            have BW5 := hide (BW4.out.drew)
            go_wp2_with fail
            go_roundw
            case rel => exact ⟨j + 1, _, by go_num, by omega, hide (by rw [HPL.out]; exact HFS4.out), BW5⟩
            case measure => simp only [intOf]; omega
        · obtain rfl : i = N := by omega
          have hii : ((i : Int) == (i : Int)) = true := by simp
          have hil : ¬ (i : Int) < (i : Int) := by omega
          have HAT : Hid (It.atI B xs2 = i) := hide (by rw [← HN.out]; exact It.at_no (fun t ht => HNO.out t (by rw [HN.out] at ht; exact ht)))
          have HEB : Hid (It.ext B i = B ++ [[]]) := hide (by unfold It.ext; rw [if_neg (by rw [HN.out]; omega)])
          have hiB : i < (It.ext B i).length := It.ext_at (by rw [HN.out]; omega)
          have HEX := hide (It.fi_ext HFJ.out i)
          rw [HEB.out] at HEX hiB
          have HLN : Hid ((B ++ [[]]).length = i + 1) := hide (by rw [List.length_append, HN.out]; rfl)
          go_upto_region 7 with fail
          go_quiet (fail)
          have HFq := hide (HFS.out.below (below_drewN (Below.refl _ _) nq))
          have HBq := hide (below_drewN HB.out nq)
          obtain ⟨G, cap, v1, gl, capl, v2, p1, p2, fs2, bb2⟩ := HFq.out.push (by rw [HN.out]; omega)
          rw [HN.out] at p1 p2 fs2
          have HF2 := hide fs2
          have HBW := hide (HBq.out.trans bb2)
          have hiN : i < i + 1 := by omega
          clear fs2 bb2 ql
          go_upto_region 10 with fail
          go_upto_region 12 with (first | (at_builtin; refine Lib.wpList_append_run _ rfl (.tmp 37) (.tmp 38) 25 25 rfl _ _ rfl rfl _ _ (p1 _) ?_) | (at_builtin; refine Lib.wpList_append_run _ rfl (.tmp 40) (.tmp 41) 23 23 rfl _ _ rfl rfl _ _ (p2 _) ?_))
          clear p1 p2
          obtain ⟨ar, len, cr, a1, c1, w1, g2, cap2, w2, hS⟩ := FS.store (x := ((xi : Int), xs2)) HF2.out HLN.out hiN (by have := (HEX.out i hiB).1; omega)
          obtain ⟨r0, r1⟩ := (HEX.out i hiB).2
          have hr2 := r1.1
          have BW3 := hide (HBW.out.trans (hS.b3.mono (Nat.le_refl _)))
          have BW4 := hide (HBW.out.trans (hS.b4.mono (Nat.le_refl _)))
          obtain ⟨bl3, ol3, el3, ql3⟩ := (HA.out _ BW3.out).at (i := xi) (by rw [HX.out]; exact hxi)
          cases el3
          rw [x3] at ql3
          have hfs := hS.fs
          have HFS4 := hide (hfs.below ((Below.refl _ _).drew))
          clear hfs
          have k0 := hS.c0
          have k1 := hS.r1
          have k2 := hS.r2
          have k3 := hS.c2
          have k4 := hS.f2
          have k5 := hS.c3
          have k6 := hS.f3
          have HPL : Hid (It.fillTo xs (j + 1) = ((B ++ [[]])).set i (((B ++ [[]])).getD i [] ++ [((xi : Int), xs2)])) := hide (by rw [HST.out]; unfold It.place; rw [HAT.out, HEB.out])
          generalize hrr : It.rm ((B ++ [[]]).getD i []) = rr at *
          have hws : IntKind.i64.wrap (rr - xs2) = rr - xs2 := by rw [IntKind.wrap_i64]; omega
          have j0 : (0 : Int) ≤ (i : Int) := by omega
          have j1 : (i : Int) < ((i + 1 : Nat) : Int) := by omega
          clear hS HF2 HBW r1 hrr HNO HFS HB
          go_upto_region 13 with (first | (at_builtin; refine Lib.wpList_append_run _ rfl (.tmp 45) (.tmp 49) 23 23 rfl _ _ rfl rfl _ _ (k1 _) ?_) | (at_builtin; refine Lib.wpList_append_run _ rfl (.tmp 50) (.tmp 52) 23 23 rfl _ _ rfl rfl _ _ (k2 _) ?_))
          clear k0 k1 k2 k3 k4
          go_region
          have BW5 := hide (BW4.out.drew)
          go_wp2_with fail
          go_roundw
          case rel => exact ⟨j + 1, _, by go_num, by omega, hide (by rw [HPL.out]; exact HFS4.out), BW5⟩
          case measure => simp only [intOf]; omega
    · have hke : j = m := by omega
      subst hke
      have HE : Hid (LL wr w.heap.size 23 3 1 ints u5 us (It.nums (It.fill xs))) := hide (by
        have := HFS.out.1
        rwa [It.fillTo_all xs (by rw [HM.out]; exact Nat.le_refl _)] at this)
      clear HFS
      go_wp2_with fail
      go_ret
      exact ⟨u5, us, rfl, HE.out, HB.out⟩
end Go.Proofs.Ytnchkgblpnompaa
namespace Go.Proofs
open Go.Shelf
def Try.lays212_ren : Go.Shelf.Ren := ⟨fun | 212 => 57 | 263 => 67 | 264 => 68 | n => n, fun | 46 => 72 | 51 => 83 | 146 => 84 | 53 => 53 | 148 => 86 | n => n, fun | n => n⟩
theorem Try.lays212 : Go.Proofs.Lays.n212 Try.prog Try.lays212_ren := {
  mixed := by kernel_rfl
  f212 := Try.func57.trans (congrArg some (by kernel_rfl))
  f263 := Try.func67.trans (congrArg some (by kernel_rfl))
  f264 := Try.func68.trans (congrArg some (by kernel_rfl))
  t46 := Try.underlying72
  a46 := Try.isAgg72
  z46 := Try.sizeOf72
  v46 := Try.zeroValue72
  t51 := Try.underlying83
  a51 := Try.isAgg83
  z51 := Try.sizeOf83
  v51 := Try.zeroValue83
  t53 := Try.underlying53
  a53 := Try.isAgg53
  z53 := Try.sizeOf53
  v53 := Try.zeroValue53
  t146 := Try.underlying84
  a146 := Try.isAgg84
  z146 := Try.sizeOf84
  v146 := Try.zeroValue84
  t148 := Try.underlying86
  a148 := Try.isAgg86
  z148 := Try.sizeOf86
  v148 := Try.zeroValue86 }
open Go.RowKit Go.Lib in
theorem Try.bits_Mul (x y : Nat) (hx : x < 18446744073709551616) (hy : y < 18446744073709551616) (w : World) :
    Calls Try.prog 57 #[.int .u64 x, .int .u64 y] w fun e w' => e = .returned (.tuple #[.int .u64 ((x * y / 18446744073709551616 : Nat) : Int), .int .u64 ((x * y % 18446744073709551616 : Nat) : Int)]) ∧ w' = w := Any.bits_Mul Try.lays212 x y hx hy w
def Try.laysQ20_ren : Go.Shelf.Ren := ⟨fun | 20 => 70 | n => n, fun | 24 => 61 | 22 => 41 | 3 => 3 | 25 => 70 | 4 => 4 | 0 => 0 | n => n, fun | n => n⟩
theorem Try.laysQ20 : Go.Proofs.SlLaysF0.n20 Try.prog Try.laysQ20_ren := {
  mixed := by kernel_rfl
  f20 := ⟨Try.f70.name, by decide, Try.func70.trans (congrArg some (by kernel_rfl))⟩
  t0 := Try.underlying0
  a0 := Try.isAgg0
  z0 := Try.sizeOf0
  v0 := Try.zeroValue0
  t3 := Try.underlying3
  a3 := Try.isAgg3
  z3 := Try.sizeOf3
  v3 := Try.zeroValue3
  t4 := Try.underlying4
  a4 := Try.isAgg4
  z4 := Try.sizeOf4
  v4 := Try.zeroValue4
  t22 := Try.underlying41
  a22 := Try.isAgg41
  z22 := Try.sizeOf41
  v22 := Try.zeroValue41
  t25 := Try.underlying70
  a25 := Try.isAgg70
  z25 := Try.sizeOf70
  v25 := Try.zeroValue70 }
open Go.RowKit Go.Lib Go.Sort in
theorem Try.isortK {α : Type} [Inhabited α] (k : Nat) (aE : ∀ w, (isAgg (Try.laysQ20_ren.t 24)).run Try.prog w = .ok true w) (zE : ∀ w, (Go.sizeOf (Try.laysQ20_ren.t 24)).run Try.prog w = .ok k w) (enc : α → List Value) (hk : ∀ x, (enc x).length = k) (h1 : ∀ x, ∀ v ∈ enc x, v.oneCell' = true) (cf : α → α → Int) (g : Nat) (cb : Array Value) (blk off cap a b : Nat) (d : Array α) (w : World) (eg : ∀ args w, (callFunc g args).run Try.prog w = .ok (.enter g args) w) (hcmp : CmpLays Try.prog g cb enc k cf blk off d.size w) (hH : HoldsK enc k w blk off d) (hblk : blk < w.heap.size) (hab : a ≤ b) (hb : b ≤ d.size) (hsz : d.size < 4611686018427387904) :
    Calls Try.prog 70 #[.slice (some ⟨blk, off, none⟩) d.size cap, .int .i64 a, .int .i64 b, .func (.func g) #[] cb] w fun e w' =>
      e = .returned (.tuple #[]) ∧ ∃ n os, w' = sortWorldK enc k w blk off n (Sort.insertionSort (ltOf cf) d a b) os := AnyQ.insertionSortCmpFunc Try.laysQ20 k aE zE enc hk h1 cf g cb blk off cap a b d w eg hcmp hH hblk hab hb hsz
end Go.Proofs
namespace Go.Proofs.Ytnchkgblpnompaa
open Go.RowKit Go.Sort

theorem own_cap2 {w : World} {base e s n g cp : Nat} {xs : List Value} (h : w.ownsRow base e s (.slice (some ⟨g, 0, none⟩) n cp) n xs) : n ≤ cp := by
  rcases h.2 with ⟨h, _⟩ | ⟨g', cap, cur, hv, _, _, hc, _⟩
  · cases h
  · cases hv; exact hc
def cmpT (x y : Int) : Int := if x < y then -1 else if y < x then 1 else 0
theorem cmpT_neg (x y : Int) : decide (cmpT x y < 0) = decide (x < y) := by
  unfold cmpT; split
  · rename_i h; simp [h]
  · rename_i h; split <;> simp <;> omega
set_option maxRecDepth 100000 in
set_option maxHeartbeats 400000 in
theorem compT_any (x y : Int) (w : World) :
    Calls Try.prog 54 #[.int .i64 x, .int .i64 y] w fun e w' => e = .returned (.int .i64 (cmpT x y)) ∧ w' = w := by
  have hx : (x != x) = false := by simp
  have hy : (y != y) = false := by simp
  unfold cmpT
  by_cases h1 : x < y
  · rw [if_pos h1]
    go_enter Try.func54, Try.ntmps54
    go_wp2
    go_ret
    exact ⟨rfl, rfl⟩
  · rw [if_neg h1]
    by_cases h2 : y < x
    · rw [if_pos h2]
      go_enter Try.func54, Try.ntmps54
      go_wp2
      go_ret
      exact ⟨rfl, rfl⟩
    · rw [if_neg h2]
      go_enter Try.func54, Try.ntmps54
      go_wp2
      go_ret
      exact ⟨rfl, rfl⟩
set_option maxRecDepth 100000 in
set_option maxHeartbeats 400000 in
theorem gfc_any (i x j y : Int) (W : World) :
    Calls Try.prog 53 #[.agg #[.int .i64 i, .int .i64 x], .agg #[.int .i64 j, .int .i64 y]] W fun e w' => e = .returned (.int .i64 (cmpT y x)) ∧ ∃ q os', w' = grow (W.drewN q) os' := by
  go_enter Try.func53, Try.ntmps53
  go_wp2_with fail
  refine (compT_any _ _ _).mono ?_
  rintro e w1 ⟨rfl, rfl⟩
  go_wp2_with fail
  go_ret
  refine ⟨rfl, 0, #[.cells #[.int .i64 i, .int .i64 x] 61, .cells #[.int .i64 j, .int .i64 y] 61], ?_⟩
  rw [alloc_eq_grow, alloc_eq_grow, grow_grow]; rfl
/-- An item as it stands in the row that is sorted. -/
def encT (l : List Int) (m : Nat) (x : Fin (m + 1)) : List Value := [.int .i64 (x.val : Int), .int .i64 (l.getD x.val 0)]
theorem cmpT_lays (l : List Int) (m blk off size : Nat) (w : World) : CmpLays Try.prog 53 #[] (encT l m) 2 (fun x y => cmpT (Rk.val l y.val) (Rk.val l x.val)) blk off size w := by
  intro q os dk _ x y
  exact gfc_any _ _ _ _ _
theorem ltOfT_eq (vs : List Int) (m : Nat) : ltOf (fun x y : Fin (m + 1) => cmpT (Rk.val vs y.val) (Rk.val vs x.val)) = Rk.lt vs m := by
  funext x y
  exact cmpT_neg _ _
def finsT (m : Nat) : List (Fin (m + 1)) := List.finRange (m + 1)
theorem finsT_vals (m : Nat) : Rk.vals m (finsT m) = List.range (m + 1) := by
  apply List.ext_getElem
  · simp [finsT, Rk.vals]
  · intro j h1 h2; simp [finsT, Rk.vals]
theorem finsT_len (m : Nat) : (finsT m).length = m + 1 := by simp [finsT]
theorem flat_at {l : List Int} {m i : Nat} {D : List (Fin (m + 1))} (hi : i < D.length) : (flatK (encT l m) 2 D.toArray)[i * 2]! = .int .i64 (((Rk.vals m D).getD i 0 : Nat) : Int) ∧ (flatK (encT l m) 2 D.toArray)[i * 2 + 1]! = .int .i64 (l.getD ((Rk.vals m D).getD i 0) 0) := by
  have e1 : i * 2 / 2 = i := by omega
  have e2 : (i * 2 + 1) / 2 = i := by omega
  have e3 : i * 2 % 2 = 0 := by omega
  have e4 : (i * 2 + 1) % 2 = 1 := by omega
  have e5 : D.toArray[i]! = D[i] := by rw [getElem!_pos _ i (by simpa using hi)]; simp
  have e6 : (Rk.vals m D).getD i 0 = D[i].val := by simp [Rk.vals, hi]
  rw [get_flatK _ _ _ _ (by simp; omega), get_flatK _ _ _ _ (by simp; omega), e1, e2, e3, e4, e5, e6]
  exact ⟨rfl, rfl⟩
theorem holdsT {w : World} {g base cap m : Nat} {l : List Int} (hl : l.length = m + 1) (h : w.ownsRow base 61 2 (.slice (some ⟨g, 0, none⟩) (m + 1) cap) (m + 1) (ite (its l))) : HoldsK (encT l m) 2 w g 0 (finsT m).toArray := by
  intro j hj
  have hj' : j < (m + 1) * 2 := by simpa [finsT] using hj
  refine ⟨?_, by rw [Nat.zero_add]; exact h.frozenAt j⟩
  rw [Nat.zero_add, h.cellAt j hj']
  obtain ⟨i, hi⟩ : ∃ i, j = i * 2 ∨ j = i * 2 + 1 := ⟨j / 2, by omega⟩
  have him : i < m + 1 := by omega
  obtain ⟨q1, q2⟩ := ite_get (its l) i (by rw [its_len, hl]; exact him)
  obtain ⟨p1, p2⟩ := flat_at (l := l) (D := finsT m) (i := i) (by rw [finsT_len]; exact him)
  rw [its_at (by rw [hl]; exact him)] at q1 q2
  have ev : (Rk.vals m (finsT m)).getD i 0 = i := by rw [finsT_vals]; simp [him]
  rw [ev] at p1 p2
  rcases hi with rfl | rfl
  · rw [q1, p1]; rfl
  · rw [q2, p2]; rfl
/-- The items, the greatest first, alike ones as they stood. -/
def gfL (l : List Int) : List (Int × Int) := (Rk.rank l).map fun (i : Nat) => ((i : Int), l.getD i 0)
theorem gfL_len (l : List Int) : (gfL l).length = l.length := by simp [gfL, Rk.rank_len]
theorem gfL_at {l : List Int} {i : Nat} (hi : i < l.length) : (gfL l).getD i (0, 0) = ((((Rk.rank l).getD i 0 : Nat) : Int), l.getD ((Rk.rank l).getD i 0) 0) := by
  have : i < (Rk.rank l).length := by rw [Rk.rank_len]; exact hi
  simp [gfL, this]
theorem rowT {w : World} {g m : Nat} {l : List Int} {D : List (Fin (m + 1))} (hl : l.length = m + 1) (hD : Rk.vals m D = Rk.rank l) (hg : g < w.heap.size) (h : HoldsK (encT l m) 2 w g 0 D.toArray) : FRow w (some ⟨g, 0, none⟩) (gfL l) := by
  have hn : D.length = m + 1 := by have := congrArg List.length hD; rw [Rk.rank_len, hl] at this; simpa [Rk.vals] using this
  refine Or.inr ⟨g, 0, rfl, hg, fun i hi => ?_⟩
  rw [gfL_len, hl] at hi
  obtain ⟨p1, p2⟩ := flat_at (l := l) (D := D) (i := i) (by omega)
  have h1 := (h (i * 2) (by simp; omega)).1
  have h2 := (h (i * 2 + 1) (by simp; omega)).1
  rw [p1, hD] at h1
  rw [p2, hD] at h2
  rw [gfL_at (by omega), Nat.add_assoc]
  exact ⟨h1, h2⟩
theorem sortK_grown {w : World} {l : List Int} {m g n : Nat} {d : Array (Fin (m + 1))} {os : Array Obj} (_hg : g < w.heap.size) : w.grownBy (sortWorldK (encT l m) 2 w g 0 n d os) (some g) := by
  refine ⟨rfl, rfl, rfl, size_sortWorldK_c _ _ _ _ _ _ _ _, fun k hk hne => ?_⟩
  have : g ≠ k := fun e => hne (by rw [e])
  unfold sortWorldK
  rw [heap_grow_old _ _ (by rw [size_putRowK]; exact hk)]
  simp [putRowK, putRow, mapBlock, Array.getElem?_modify, this, Sort.ahead]
set_option maxRecDepth 100000 in
set_option maxHeartbeats 1000000 in
theorem stT_zero {a : Option Addr} {c g : Nat} {w : World} :
    Calls Try.prog 52 #[.slice a 0 c, .func (.func g) #[] #[]] w fun e w' => e = .returned (.tuple #[]) ∧ w' = w := by
  go_enter Try.func52, Try.ntmps52
  go_wp2_with fail
  refine (show Calls Try.prog 64 #[.slice a 0 c, .int .i64 0, .func (.func g) #[] #[]] w fun e w' => e = .returned (.tuple #[]) ∧ w' = w from ?_).mono ?_
  · go_enter Try.func64, Try.ntmps64
    go_wp2_with fail
    go_loop [7, 8] (fun s t => s = .int .i64 0 ∧ t = .int .i64 20) (fun _ _ => 0)
    case atStart => exact ⟨rfl, rfl⟩
    case round =>
      obtain ⟨rfl, rfl⟩ := hrel
      go_wp2_with fail
      refine (show Calls Try.prog 70 #[.slice a 0 c, .int .i64 0, .int .i64 0, .func (.func g) #[] #[]] w fun e w' => e = .returned (.tuple #[]) ∧ w' = w from ?_).mono ?_
      · go_enter Try.func70, Try.ntmps70
        go_wp2_with fail
        go_loop [8] (fun s => s = .int .i64 1) (fun _ => 0)
        case atStart => rfl
        case round =>
          subst hrel
          go_wp2_with fail
          go_end0
          exact ⟨rfl, rfl⟩
      · rintro e w1 ⟨rfl, rfl⟩
        go_wp2_with fail
        go_loop [6, 7, 8, 9] (fun s _ _ _ => s = .int .i64 20) (fun _ _ _ _ => 0)
        case atStart => rfl
        case round =>
          subst hrel
          go_wp2_with fail
          go_end0
          exact ⟨rfl, rfl⟩
  · rintro e w1 ⟨rfl, rfl⟩
    go_wp2_with fail
    go_end0
    exact ⟨rfl, rfl⟩
set_option maxRecDepth 100000 in
set_option maxHeartbeats 1000000 in
theorem stT_any {w : World} {m g base cap : Nat} {l : List Int} (hm : m + 1 ≤ 12) (hl : l.length = m + 1) (hown : w.ownsRow base 61 2 (.slice (some ⟨g, 0, none⟩) (m + 1) cap) (m + 1) (ite (its l))) :
    Calls Try.prog 52 #[.slice (some ⟨g, 0, none⟩) (m + 1 : Nat) cap, .func (.func 53) #[] #[]] w fun e w' => e = .returned (.tuple #[]) ∧ FRow w' (some ⟨g, 0, none⟩) (gfL l) ∧ w.grownBy w' (some g) := by
  have hgl : g < w.heap.size := (hown.lt g rfl).2
  have hsort : Calls Try.prog 70 #[.slice (some ⟨g, 0, none⟩) (m + 1 : Nat) cap, .int .i64 (0 : Nat), .int .i64 (m + 1 : Nat), .func (.func 53) #[] #[]] w fun e w' => e = .returned (.tuple #[]) ∧ FRow w' (some ⟨g, 0, none⟩) (gfL l) ∧ w.grownBy w' (some g) := by
    have h := Try.isortK 2 (fun w => by rfl) (fun w => by rfl) (encT l m) (fun _ => rfl) (fun x v hv => by
        simp only [encT, List.mem_cons, List.not_mem_nil, or_false] at hv
        rcases hv with rfl | rfl <;> rfl) (fun x y => cmpT (Rk.val l y.val) (Rk.val l x.val)) 53 #[] g 0 cap 0 (m + 1) (finsT m).toArray w (enters_of Try.func53 (by kernel_rfl) rfl)
      (cmpT_lays l m g 0 _ w) (holdsT hl hown) hgl (Nat.zero_le _) (by simp [finsT]) (by simp [finsT]; omega)
    rw [show (finsT m).toArray.size = m + 1 by simp [finsT]] at h
    refine h.mono ?_
    rintro e w' ⟨he, q, os, rfl⟩
    obtain ⟨D, hD, hDv⟩ := Rk.sorted l m (finsT m).toArray (by simpa using finsT_vals m) hl
    have hn : D.length = m + 1 := by have := congrArg List.length hDv; rw [Rk.rank_len, hl] at this; simpa [Rk.vals] using this
    refine ⟨he, ?_, sortK_grown hgl⟩
    rw [ltOfT_eq, hD]
    exact rowT hl hDv (Nat.lt_of_lt_of_le hgl (size_sortWorldK_c _ _ _ _ _ _ _ _)) (holdsK_sortWorldK_c _ _ _ _ _ (finsT m).toArray D.toArray _ _ (holdsT hl hown) hgl (by simp [hn, finsT]))
  have HS := hide hsort
  have h20 : ¬ (20 : Int) ≤ ((m + 1 : Nat) : Int) := by omega
  have h21 : ¬ (20 : Int) < ((m + 1 : Nat) : Int) := by omega
  clear hsort hown
  generalize m + 1 = n at HS h20 h21 ⊢
  go_enter Try.func52, Try.ntmps52
  go_wp2_with fail
  refine (show Calls Try.prog 64 #[.slice (some ⟨g, 0, none⟩) n cap, .int .i64 n, .func (.func 53) #[] #[]] w fun e w' => e = .returned (.tuple #[]) ∧ FRow w' (some ⟨g, 0, none⟩) (gfL l) ∧ w.grownBy w' (some g) from ?_).mono ?_
  · go_enter Try.func64, Try.ntmps64
    go_wp2_with fail
    go_loop [7, 8] (fun s t => s = .int .i64 0 ∧ t = .int .i64 20) (fun _ _ => 0)
    case atStart => exact ⟨rfl, rfl⟩
    case round =>
      obtain ⟨rfl, rfl⟩ := hrel
      go_wp2_with fail
      refine HS.out.mono ?_
      rintro e w1 ⟨rfl, h1, h2⟩
      go_wp2_with fail
      go_loop [6, 7, 8, 9] (fun s _ _ _ => s = .int .i64 20) (fun _ _ _ _ => 0)
      case atStart => rfl
      case round =>
        subst hrel
        go_wp2_with fail
        go_end0
        exact ⟨rfl, h1, h2⟩
  · rintro e w1 ⟨rfl, h1, h2⟩
    go_wp2_with fail
    go_end0
    exact ⟨rfl, h1, h2⟩
set_option maxRecDepth 100000 in
set_option maxHeartbeats 1000000 in
theorem gf_any {a : Option Addr} {n c : Nat} {l : List Int} {w : World} (hx : l.length = n) (hn : n ≤ 12) (ha : ARow w a l) :
    Calls Try.prog 31 #[.slice a n c] w fun e w' => ∃ a' c', e = .returned (.slice a' n c') ∧ n ≤ c' ∧ FRow w' a' (gfL l) ∧ Below w.heap.size w w' := by
  have HIO := hide (io_any (c := c) hx (by omega) ha)
  have HX := hide hx
  have HST : Hid (∀ (w1 : World) (g cap : Nat), w1.ownsRow w.heap.size 61 2 (.slice (some ⟨g, 0, none⟩) n cap) n (ite (its l)) → 0 < n → Calls Try.prog 52 #[.slice (some ⟨g, 0, none⟩) n cap, .func (.func 53) #[] #[]] w1 fun e w' => e = .returned (.tuple #[]) ∧ FRow w' (some ⟨g, 0, none⟩) (gfL l) ∧ w1.grownBy w' (some g)) := hide fun w1 g cap h h0 => by
    obtain ⟨m, rfl⟩ : ∃ m, n = m + 1 := ⟨n - 1, by omega⟩
    exact stT_any hn hx h
  clear hx ha
  go_enter Try.func31, Try.ntmps31
  go_wp2_with fail
  refine HIO.out.mono ?_
  rintro e w1 ⟨v, rfl, own, hb⟩
  have HO := hide own
  have HB := hide hb
  clear HIO hb
  by_cases h0 : n = 0
  · obtain ⟨a', c', rfl⟩ := own_form2 own
    have HL : Hid (gfL l = []) := hide (List.length_eq_zero_iff.1 (by rw [gfL_len, HX.out, h0]))
    have HZ : Hid (Calls Try.prog 52 #[.slice a' n c', .func (.func 53) #[] #[]] w1 fun e w' => e = .returned (.tuple #[]) ∧ w' = w1) := hide (by rw [h0]; exact stT_zero)
    have HCP : Hid (n ≤ c') := hide (by omega)
    clear own h0
    go_wp2_with fail
    refine HZ.out.mono ?_
    rintro e w2 ⟨rfl, hw2⟩
    obtain rfl : w1 = w2 := hw2.symm
    go_wp2_with fail
    go_ret
    exact ⟨a', c', rfl, HCP.out, Or.inl HL.out, HB.out⟩
  · obtain ⟨g, cap, rfl, hg, _⟩ := own.form (by omega)
    have HS := hide (HST.out w1 g cap HO.out (by omega))
    have HZ := HB.out.size
    have HCP : Hid (n ≤ cap) := hide (own_cap2 own)
    clear own
    go_wp2_with fail
    refine HS.out.mono ?_
    rintro e w2 ⟨rfl, h1, h2⟩
    have HB2 : Below w.heap.size w w2 := HB.out.trans ⟨h2.os, h2.tape, h2.output, h2.size, fun b hb => h2.block b (by omega) (by simp; omega)⟩
    go_wp2_with fail
    go_ret
    exact ⟨some ⟨g, 0, none⟩, cap, rfl, HCP.out, h1, HB2⟩
end Go.Proofs.Ytnchkgblpnompaa
namespace Go.Proofs.Ytnchkgblpnompaa
open Go.RowKit

/-- A list more, which lies behind all. -/
theorem LL.pushRow {W V : World} {base : Nat} {v : Value} {us : List Value} {R : List (List Int)} {r : List Int} {u : Value} (h : LL W base 23 3 1 ints v us R) (hV : Below W.heap.size W V) (hu : V.ownsRow W.heap.size 3 1 u r.length (ints r)) (hu1 : u.oneCell' = true) (hn : R.length ≤ 1000) (hb : base ≤ W.heap.size) :
    ∃ G cap w1, (∀ ty, (Builtin.append_ #[25, 25] ty #[v, .slice (some ⟨V.heap.size, 0, none⟩) 1 1]).run Try.prog (V.alloc (.cells #[u] 23)) = .ok (.slice (some ⟨G, 0, none⟩) (R.length + 1) cap) w1) ∧
      LL w1 base 23 3 1 ints (.slice (some ⟨G, 0, none⟩) (R.length + 1) cap) (us ++ [u]) (R ++ [r]) ∧ Below base W w1 := by
  have hv := own_below2 h.1 hV
  obtain ⟨G, cap, w1, r1, o1, g1, f1⟩ := push_9 (x := u) Try.underlying25 infoS rfl hu1 (by omega) hv (by omega) (Nat.le_trans hb hV.size)
  have k1 : ∀ b, b < V.heap.size → some b ≠ v.ownBlock → w1.heap[b]? = V.heap[b]? := fun b hb' hne => (g1.block b (by simp; omega) hne).trans ((below_alloc V _).block b hb')
  have z1 : V.heap.size ≤ w1.heap.size := Nat.le_trans (by simp) g1.size
  have z0 := hV.size
  have hG : (Value.slice (some ⟨G, 0, none⟩) (R.length + 1) cap).ownBlock = some G := rfl
  refine ⟨G, cap, w1, r1, h.snoc o1 (fun b hb' hne => (k1 b (by omega) hne).trans (hV.block b hb')) (fun g e => ?_) (own_low2 (own_keep2 hu fun g hv' hl => k1 g hl (fun e => ?_)) hb) (fun g e => ⟨(hu.lt g e).1, fun e2 => ?_⟩), ?_⟩
  · rw [hG] at e; cases e
    rcases f1 with f1 | f1
    · exact Or.inl f1
    · exact Or.inr (by omega)
  · have h1 := (hu.lt g hv').1
    have h2 := (h.1.lt g e.symm).2
    omega
  · rw [hG] at e2; cases e2
    have h1 := hu.lt G e
    rcases f1 with f1 | f1
    · have := (h.1.lt G f1).2; omega
    · omega
  · exact ⟨g1.os.trans hV.os, g1.tape.trans hV.tape, g1.output.trans hV.output, by omega, fun b hb' => (k1 b (by omega) (fun e => by have := (hv.lt b e.symm).1; omega)).trans (hV.block b (by omega))⟩
theorem nums_take {B : List (List (Int × Int))} {j : Nat} (h : j < B.length) : (It.nums B).take (j + 1) = (It.nums B).take j ++ [(B.getD j []).map Prod.fst] := by
  rw [List.take_add_one]; simp [It.nums, h]
set_option maxRecDepth 100000 in
set_option maxHeartbeats 1000000 in
theorem ni_any {base N : Nat} {us : List Value} {B : List (List (Int × Int))} {v : Value} {w : World} (h : LL w base 63 61 2 ite v us B) (hN : B.length = N) (hn : N ≤ 900) (hb9 : ∀ i, i < N → (B.getD i []).length ≤ 900) :
    Calls Try.prog 50 #[v] w fun e w' => ∃ v' us', e = .returned v' ∧ LL w' w.heap.size 23 3 1 ints v' us' (It.nums B) ∧ Below w.heap.size w w' := by
  obtain ⟨av, cv, ev⟩ := h.form
  rw [hN] at ev
  subst ev
  have HL := hide h
  have HN := hide hN
  have HB9 := hide hb9
  clear h hN hb9
  go_enter Try.func50, Try.ntmps50
  go_wp2_with fail
  go_loopw [3, 5, 6, 8, 11] (fun s3 _ _ _ s11 wr => ∃ (j : Nat) (us' : List Value), s11 = .int .i64 j ∧ j ≤ N ∧ Hid (LL wr w.heap.size 23 3 1 ints s3 us' ((It.nums B).take j)) ∧ Hid (Below w.heap.size w wr)) (fun _ _ _ _ s11 _ => N - (intOf s11).toNat)
  case atStart => exact ⟨0, [], rfl, Nat.zero_le _, hide (LL.nil _ _ _ _ _ _), hide (Below.refl _ _)⟩
  case round =>
    obtain ⟨j, us', rfl, hj, HA, HB⟩ := hrel
    by_cases hlt : j < N
    · have hjB : j < B.length := by rw [HN.out]; exact hlt
      have LW := HL.out.below HB.out
      have i0 : (0 : Int) ≤ (j : Int) := by omega
      have i1 : (j : Int) < (N : Int) := by omega
      obtain ⟨G, cap, ea⟩ : ∃ G cap, Value.slice av N cv = .slice (some ⟨G, 0, none⟩) N cap := by
        have ho := LW.1
        rw [HN.out] at ho
        obtain ⟨G, cap, e, _, _⟩ := ho.form (by omega)
        exact ⟨G, cap, e⟩
      cases ea
      have q1 : wr.cell? ⟨G, j, none⟩ = some (us.getD j nilS) := by
        have LW' := LW
        rw [← HN.out] at LW'
        exact LW'.cell hjB
      obtain ⟨ar, cr, er, hr⟩ := own_items rfl (LW.2.1 j hjB)
      rw [er] at q1
      have HR := hide fun (W : World) (h : Below wr.heap.size wr W) => hr.below h
      obtain ⟨M, hM⟩ : ∃ M, (B.getD j []).length = M := ⟨_, rfl⟩
      have h9 := HB9.out j hlt
      rw [hM] at q1 h9
      have HM := hide hM
      obtain ⟨b, hbe⟩ : ∃ b, B.getD j [] = b := ⟨_, rfl⟩
      rw [hbe] at HR HM
      have HBE := hide hbe
      clear LW er hr hM hbe
      obtain ⟨W0, rfl⟩ : ∃ W0, wr = W0 := ⟨wr, rfl⟩
      go_wp2_with fail
      go_loopw [6, 8, 17] (fun s6 _ s17 wq => ∃ (k : Nat), s17 = .int .i64 k ∧ k ≤ M ∧ Hid (wq.ownsRow wr.heap.size 3 1 s6 k (ints ((b.map Prod.fst).take k))) ∧ Hid (Below wr.heap.size wr wq)) (fun _ _ s17 _ => M - (intOf s17).toNat)
      case atStart => exact ⟨0, rfl, Nat.zero_le _, hide (World.ownsRow_nil _ _ _ _), hide (Below.refl _ _)⟩
      case round =>
        clear q1
        obtain ⟨k, rfl, hk, HO, HQ⟩ := hrel
        obtain ⟨a6, c6, e6⟩ := own_form2 HO.out
        subst e6
        by_cases hkl : k < M
        · have hkb : k < b.length := by rw [HM.out]; exact hkl
          obtain ⟨q, o, eq, hq, r1, r2⟩ := (HR.out _ HQ.out).at (i := k) hkb
          subst eq
          have j0 : (0 : Int) ≤ (k : Int) := by omega
          have j1 : (k : Int) < (M : Int) := by omega
          have HS : Hid ((b.map Prod.fst).take (k + 1) = (b.map Prod.fst).take k ++ [(b.getD k (0, 0)).1]) := hide (by rw [List.take_add_one]; simp [hkb])
          generalize (b.getD k (0, 0)).1 = x at *
          generalize (b.getD k (0, 0)).2 = y at *
          have HAL := hide (HQ.out.alloc HQ.out.size (.cells #[.int .i64 x, .int .i64 y] 61))
          obtain ⟨v6, w6, p6, o6, g6⟩ := push_int (x := x) (own_below2 HO.out (below_alloc _ (.cells #[.int .i64 x, .int .i64 y] 61))) (by omega) HAL.out.size
          have HO6 : Hid (w6.ownsRow _ 3 1 v6 (k + 1) (ints ((b.map Prod.fst).take (k + 1)))) := hide (by rw [HS.out, ints_snoc]; exact o6)
          have HB6 := hide (HAL.out.trans (grown_under' g6 (own_below2 HO.out (below_alloc _ (.cells #[.int .i64 x, .int .i64 y] 61))) (Nat.le_refl _) HAL.out.size))
          rw [World.size_alloc] at p6
          clear o6 g6 HO HQ HAL HS
          go_wp2_with (first | (at_builtin; refine Lib.wpList_append_run _ rfl (.tmp 21) (.tmp 24) 23 23 rfl _ _ rfl rfl _ _ (p6 _) ?_))
          go_roundw
          case rel => exact ⟨k + 1, by go_num, by omega, HO6, HB6⟩
          case measure => simp only [intOf]; omega
        · have hke : k = M := by omega
          subst hke
          have hrow : Hid ((b.map Prod.fst).take k = b.map Prod.fst) := hide (List.take_of_length_le (by rw [List.length_map, HM.out]; exact Nat.le_refl _))
          have HS : Hid ((It.nums B).take (j + 1) = (It.nums B).take j ++ [b.map Prod.fst]) := hide (by rw [← HBE.out]; exact nums_take (by rw [HN.out]; exact hlt))
          have hlj : ((It.nums B).take j).length = j := by rw [List.length_take, It.nums_len, HN.out]; omega
          obtain ⟨G7, cap7, w7, p7, l7, b7⟩ := HA.out.pushRow (r := b.map Prod.fst) HQ.out (by have := HO.out; rw [hrow.out] at this; rw [List.length_map, HM.out]; exact this) rfl (by rw [hlj]; omega) HB.out.size
          rw [hlj] at p7 l7
          obtain ⟨a3, c3, e3⟩ := own_form2 HA.out.1
          subst e3
          rw [hlj] at p7
          have HL7 : Hid (LL w7 w.heap.size 23 3 1 ints (.slice (some ⟨G7, 0, none⟩) (j + 1) cap7) _ ((It.nums B).take (j + 1))) := hide (by rw [HS.out]; exact l7)
          have HB7 := hide (HB.out.trans b7)
          rw [hlj]
          clear l7 b7 HA HO HQ hrow HS
          go_wp2_with (first | (at_builtin; refine Lib.wpList_append_run _ rfl (.tmp 27) (.tmp 29) 25 25 rfl _ _ rfl rfl _ _ (p7 _) ?_))
          go_roundw
          case rel => exact ⟨j + 1, _, by go_num, by omega, HL7, HB7⟩
          case measure => simp only [intOf]; omega
    · have hke : j = N := by omega
      subst hke
      have HE : Hid (LL wr w.heap.size 23 3 1 ints u3 us' (It.nums B)) := hide (by
        have := HA.out
        rwa [List.take_of_length_le (by rw [It.nums_len, HN.out]; exact Nat.le_refl _)] at this)
      clear HA
      go_wp2_with fail
      go_ret
      exact ⟨u3, us', rfl, HE.out, HB.out⟩
end Go.Proofs.Ytnchkgblpnompaa
namespace Go.Proofs.Ytnchkgblpnompaa
open Go.RowKit Go.Sort

def cmpI (x y : Int) : Int := if x < y then -1 else if y < x then 1 else 0
theorem cmpI_neg (x y : Int) : decide (cmpI x y < 0) = decide (x < y) := by
  unfold cmpI; split
  · rename_i h; simp [h]
  · rename_i h; split <;> simp <;> omega

set_option maxRecDepth 100000 in
set_option maxHeartbeats 400000 in
theorem compare_any (x y : Int) (w : World) :
    Calls Try.prog 54 #[.int .i64 x, .int .i64 y] w fun e w' => e = .returned (.int .i64 (cmpI x y)) ∧ w' = w := by
  have hx : (x != x) = false := by simp
  have hy : (y != y) = false := by simp
  unfold cmpI
  by_cases h1 : x < y
  · rw [if_pos h1]
    go_enter Try.func54, Try.ntmps54
    go_wp2
    go_ret
    exact ⟨rfl, rfl⟩
  · rw [if_neg h1]
    by_cases h2 : y < x
    · rw [if_pos h2]
      go_enter Try.func54, Try.ntmps54
      go_wp2
      go_ret
      exact ⟨rfl, rfl⟩
    · rw [if_neg h2]
      go_enter Try.func54, Try.ntmps54
      go_wp2
      go_ret
      exact ⟨rfl, rfl⟩

/-- The numbers 0, 1, .. -/
def nats (l : List Nat) : List Int := l.map fun (x : Nat) => (x : Int)
theorem nats_len (l : List Nat) : (nats l).length = l.length := by simp [nats]
end Go.Proofs.Ytnchkgblpnompaa
namespace Go.Proofs.Ytnchkgblpnompaa
open Go.RowKit Go.Sort

theorem grownBy_below {w w' : World} {g k : Nat} (hg : w.grownBy w' (some g)) (h : k ≤ g) (hk : k ≤ w.heap.size) : Below k w w' :=
  ⟨hg.os, hg.tape, hg.output, hg.size, fun b hb => hg.block b (by omega) (by simp; omega)⟩
theorem owns_base {w : World} {base base' e s n : Nat} {v : Value} {xs : List Value} (h : w.ownsRow base e s v n xs) (hb : base' ≤ base) : w.ownsRow base' e s v n xs := by
  rcases h with ⟨h0, h | ⟨g, cap, cur, h1, h2, h3⟩⟩
  · exact ⟨h0, Or.inl h⟩
  · exact ⟨h0, Or.inr ⟨g, cap, cur, h1, Nat.le_trans hb h2, h3⟩⟩
theorem fill_step (ys : List Int) (k n : Nat) (hy : ys.length = n) (hk : k < n) (h : ys.take k = nats (List.range k)) : (ys.set k (k : Int)).take (k + 1) = nats (List.range (k + 1)) := by
  rw [List.take_add_one, List.take_set_of_le (Nat.le_refl _), h, List.range_succ]
  simp [nats, hy, hk]
/-- The numbers below n, as elements. -/
def fins (m : Nat) : List (Fin (m + 1)) := List.finRange (m + 1)
theorem fins_vals (m : Nat) : Rk.vals m (fins m) = List.range (m + 1) := by
  apply List.ext_getElem
  · simp [fins, Rk.vals]
  · intro j h1 h2; simp [fins, Rk.vals]
theorem fins_len (m : Nat) : (fins m).length = m + 1 := by simp [fins]

end Go.Proofs.Ytnchkgblpnompaa
namespace Go.Proofs.Ytnchkgblpnompaa
open Go.RowKit Go.Sort

theorem inf3 : (Try.prog.info? 3).map (fun i => (i.zero, i.size, i.bytes)) = some (some (.int .i64 0), 1, 8) := by kernel_rfl
theorem int_cells (xs : List Int) : ∀ u ∈ ints xs, u.oneCell' = true := by
  intro u hu
  simp only [ints, List.mem_map] at hu
  obtain ⟨x, _, rfl⟩ := hu; rfl
theorem new_one (w : World) (x : Int) {H : Nat} (hH : w.heap.size = H) : ∀ (j : Nat) (u : Value), (ints [x])[j]? = some u → (w.alloc (.cells #[.int .i64 x] 3)).cell? ((⟨H, 0, none⟩ : Addr).add j) = some u := by
  intro j u hj
  subst hH
  match j, hj with
  | 0, hj => simp [ints] at hj; subst hj; simp [Addr.add]
theorem add_none (b o j : Nat) : (⟨b, o, none⟩ : Addr).add j = ⟨b, o + j, none⟩ := by unfold Addr.add; split <;> simp_all
/-- What stands from place o on, to be appended. -/
theorem news_at {w : World} {b o : Nat} {xs : List Int} (h : ∀ i, i < xs.length → w.cell? ⟨b, o + i, none⟩ = some (.int .i64 (xs.getD i 0))) : ∀ (j : Nat) (u : Value), (ints xs)[j]? = some u → w.cell? ((⟨b, o, none⟩ : Addr).add j) = some u := by
  intro j u hj
  have hl : j < xs.length := by
    rcases Nat.lt_or_ge j xs.length with h | h
    · exact h
    · rw [List.getElem?_eq_none (by simpa [ints] using h)] at hj; cases hj
  rw [ints_get xs j hl] at hj
  cases hj
  rw [add_none]; exact h j hl
theorem empty_row (w : World) : (w.alloc (.cells #[] 3)).ownsRow w.heap.size 3 1 (.slice (some ⟨w.heap.size, 0, none⟩) 0 0) 0 (ints []) :=
  ⟨rfl, .inr ⟨w.heap.size, 0, #[], rfl, Nat.le_refl _, heap_alloc_new w _, Nat.le_refl _, by unfold maxLen; omega, rfl, rfl⟩⟩
theorem far_block {w : World} {base e n b : Nat} {v : Value} {xs : List Value} (h : w.ownsRow base e 1 v n xs) (hb : b < base) : some b ≠ v.ownBlock := fun he => by
  have := h.lt b he.symm
  omega
theorem own_take {w : World} {b i cap base : Nat} {xs : List Int} (h : w.ownsRow base 3 1 (.slice (some ⟨b, 0, none⟩) i cap) i (ints xs)) (hx : xs.length = i) {j : Nat} (hj : j ≤ i) : ∀ t, t < (xs.take j).length → w.cell? ⟨b, 0 + t, none⟩ = some (.int .i64 ((xs.take j).getD t 0)) := by
  intro t ht
  simp at ht
  rw [Nat.zero_add, h.cellAt t (by omega), ints_get xs t (by omega)]
  simp [show t < j by omega]
theorem own_drop {w : World} {b i cap base : Nat} {xs : List Int} (h : w.ownsRow base 3 1 (.slice (some ⟨b, 0, none⟩) i cap) i (ints xs)) (hx : xs.length = i) (j : Nat) : ∀ t, t < (xs.drop j).length → w.cell? ⟨b, j + t, none⟩ = some (.int .i64 ((xs.drop j).getD t 0)) := by
  intro t ht
  simp at ht
  rw [h.cellAt (j + t) (by omega), ints_get xs (j + t) (by omega)]
  simp
theorem cells_kept {w w' : World} {b o : Nat} {xs : List Int} (hb : w'.heap[b]? = w.heap[b]?) (h : ∀ i, i < xs.length → w.cell? ⟨b, o + i, none⟩ = some (.int .i64 (xs.getD i 0))) : ∀ i, i < xs.length → w'.cell? ⟨b, o + i, none⟩ = some (.int .i64 (xs.getD i 0)) :=
  fun i hi => (World.cell?_of_block (w := w) (a := ⟨b, o + i, none⟩) hb).trans (h i hi)
end Go.Proofs.Ytnchkgblpnompaa
namespace Go.Proofs.Ytnchkgblpnompaa
open Go.RowKit Go.Sort

theorem nats_get (l : List Nat) (j : Nat) : (nats l).getD j 0 = ((l.getD j 0 : Nat) : Int) := by
  simp only [nats, List.getD_eq_getElem?_getD, List.getElem?_map]
  cases l[j]? <;> rfl
theorem nats_take (l : List Nat) (j : Nat) : (nats l).take j = nats (l.take j) := by simp [nats, List.map_take]
theorem nats_drop (l : List Nat) (j : Nat) : (nats l).drop j = nats (l.drop j) := by simp [nats, List.map_drop]
theorem ints_app (xs ys : List Int) : ints (xs ++ ys) = ints xs ++ ints ys := by simp [ints]
theorem nats_ins (l : List Nat) (j k : Nat) : nats (l.take j ++ k :: l.drop j) = (nats l).take j ++ [(k : Int)] ++ (nats l).drop j := by simp [nats, List.map_take, List.map_drop]

set_option maxHeartbeats 4000000 in
set_option maxRecDepth 100000 in
theorem srank_any {a : Option Addr} {n c : Nat} {vs : List Int} {w : World} (hv : vs.length = n) (hn : n ≤ 12) (ha : ARow w a vs) :
    Calls Try.prog 32 #[.slice a n c] w fun e w' => ∃ v, e = .returned v ∧ Below w.heap.size w w' ∧ w'.ownsRow w.heap.size 3 1 v n (ints (nats (Rk.rank vs))) := by
  obtain ⟨i0, hi, hz0, hz1, hz2⟩ := info_parts inf3
  have HA := hide ha
  have HV := hide hv
  clear ha hv
  go_enter Try.func32, Try.ntmps32
  go_wp2_with fail
  go_loopw [3, 4, 5, 6, 7, 10] (fun v _ _ _ _ s wr => ∃ (k : Nat), s = .int .i64 k ∧ k ≤ n ∧ (k = 0 → v = .slice none 0 0) ∧ wr.ownsRow w.heap.size 3 1 v k (ints (nats (Rk.upto vs k))) ∧ Below w.heap.size w wr) (fun _ _ _ _ _ s _ => n - (intOf s).toNat)
  case atStart => exact ⟨0, rfl, Nat.zero_le _, fun _ => rfl, World.ownsRow_nil w w.heap.size 3 1, Below.refl _ _⟩
  case round =>
    obtain ⟨k, rfl, hk, hnil, hown, hB⟩ := hrel
    by_cases hlt : k < n
    · have HAr := hide (HA.out.keep hB.size hB.block)
      obtain ⟨ba, oa, rfl, r1⟩ := HAr.out.at (i := k) (by rw [HV.out]; exact hlt)
      have k0 : (0 : Int) ≤ (k : Int) := by omega
      have k1 : (k : Int) < (n : Int) := by omega
      have hs := hB.size
      by_cases hk0 : k = 0
      · subst hk0
        obtain rfl := hnil rfl
        have E0 := empty_row wr
        rw [Nat.add_zero] at r1
        generalize vs.getD 0 0 = x at r1
        go_wp2_with fail
        go_loop [6] (fun s => s = .int .i64 0) (fun _ => 0)
        case atStart => rfl
        case round =>
          subst hrel
          go_wp2_with (first
            | (at_builtin; refine wpList_append_own _ rfl _ _ 23 rfl wr.heap.size 3 i0 (.int .i64 0) 1 8 Try.underlying23 hi hz0 hz1 hz2 rfl (by decide) _ _ _ rfl (E0.alloc _) ⟨wr.heap.size + 1, 0, none⟩ 1 1 (ints [0]) rfl rfl (new_one _ _ (by simp)) (int_cells _) (by unfold maxLen; omega) (by omega) (by simp; omega) ?_))
          intro v2 w2 own2 hg2 _
          have own2' : w2.ownsRow wr.heap.size 3 1 v2 1 (ints [0]) := own2
          go_wp2_with (first
            | (at_builtin; refine wpList_append_own_none rfl _ _ 23 rfl wr.heap.size 3 i0 1 Try.underlying23 hi _ _ _ rfl own2' rfl ?_))
          go_wp2_with fail
          go_roundw
          case rel => exact ⟨1, by go_num, by omega, fun h => by omega, owns_base own2' hs, (hB.alloc hs _).trans (((Below.refl _ _).alloc (by simp; omega) _).trans (grownBy_below hg2 hs (by simp; omega)))⟩
          case measure => simp only [intOf]; omega
      · obtain ⟨g, cap, rfl, hg0, hgl⟩ := hown.form (by omega)
        have E0 := hide (empty_row wr)
        have HO := hide hown
        have hul := Rk.upto_len vs k
        have hcap : k ≤ cap := by
          rcases hown.2 with ⟨h0, _⟩ | ⟨g', cap', cur, hv', _, _, h1, _⟩
          · cases h0
          · cases hv'; exact h1
        generalize hx : vs.getD k 0 = x at r1
        have HX := hide hx
        clear hown hx hnil
        go_wp2_with fail
        go_loop [6] (fun s => ∃ j : Nat, s = .int .i64 j ∧ j ≤ k ∧ Hid (∀ t, t < j → Rk.val vs ((Rk.upto vs k).getD t 0) ≥ Rk.val vs k)) (fun s => k - (intOf s).toNat)
        case atStart => exact ⟨0, rfl, Nat.zero_le _, hide fun t ht => absurd ht (Nat.not_lt_zero _)⟩
        case round =>
          obtain ⟨j, rfl, hj, HJ⟩ := hrel
          -- behind the search
          have rest : (j < k → Rk.val vs ((Rk.upto vs k).getD j 0) < Rk.val vs k) → Hid (nats (Rk.upto vs (k + 1)) = (nats (Rk.upto vs k)).take j ++ [(k : Int)] ++ (nats (Rk.upto vs k)).drop j) := fun h => by
            show nats (Rk.insL vs k (Rk.upto vs k)) = _
            rw [Rk.insL_at vs k (Rk.upto vs k) j (by rw [hul]; exact hj) HJ.out (fun h' => h (by rw [← hul]; exact h')), nats_ins]
          have REST := hide rest
          clear rest
          by_cases hjk : j < k
          · have j0 : (0 : Int) ≤ (j : Int) := by omega
            have j1 : (j : Int) < (k : Int) := by omega
            have c1 : wr.cell? ⟨g, j, none⟩ = some (.int .i64 ((nats (Rk.upto vs k)).getD j 0)) := by rw [HO.out.cellAt j (by omega), ints_get _ j (by rw [nats_len, hul]; omega)]
            rw [nats_get] at c1
            have hm : (Rk.upto vs k).getD j 0 < n := by
              have hmem : (Rk.upto vs k).getD j 0 ∈ Rk.upto vs k := by rw [Pf.getD_lt _ _ (by rw [hul]; exact hjk)]; exact List.getElem_mem _
              have := Rk.upto_mem hmem; omega
            generalize hq : (Rk.upto vs k).getD j 0 = q at c1 hm
            obtain ⟨ba', oa', hba, r2⟩ := HAr.out.at (i := q) (by rw [HV.out]; exact hm)
            cases hba
            have q0 : (0 : Int) ≤ (q : Int) := by omega
            have q1 : (q : Int) < (n : Int) := by omega
            by_cases hge : x ≤ Rk.val vs q
            · have r2' : wr.cell? ⟨ba, oa + q, none⟩ = some (.int .i64 (Rk.val vs q)) := r2
              have HJ' : Hid (∀ t, t < j + 1 → Rk.val vs ((Rk.upto vs k).getD t 0) ≥ Rk.val vs k) := hide fun t ht => by
                by_cases e : t = j
                · subst e; rw [hq]; show _ ≥ vs.getD k 0; rw [HX.out]; exact hge
                · exact HJ.out t (by omega)
              generalize Rk.val vs q = y at r2' hge
              clear hq r2
              go_wp2_with fail
              go_round
              case rel => exact ⟨j + 1, by go_num, by omega, HJ'⟩
              case measure => simp only [intOf]; omega
            · have r2' : wr.cell? ⟨ba, oa + q, none⟩ = some (.int .i64 (Rk.val vs q)) := r2
              have HR := REST.out (fun _ => by rw [hq]; show _ < vs.getD k 0; rw [HX.out]; omega)
              generalize Rk.val vs q = y at r2' hge
              have hge' : decide (x ≤ y) = false := decide_eq_false hge
              clear hq r2
              have HL : Hid ((ints ((nats (Rk.upto vs k)).take j)).length = j * 1) := by
                show _ = _
                rw [ints_len, List.length_take, nats_len, hul]; omega
              have HN1 : Hid (∀ (t : Nat) (u : Value), (ints ((nats (Rk.upto vs k)).take j))[t]? = some u → (wr.alloc (.cells #[] 3)).cell? ((⟨g, 0, none⟩ : Addr).add t) = some u) :=
                news_at (cells_kept (((Below.refl _ _).alloc (Nat.le_refl _) _).block g hgl) (own_take HO.out (by rw [nats_len, hul]) hj))
              go_wp2_with (first
                | (at_builtin; refine wpList_append_own _ rfl _ _ 23 rfl wr.heap.size 3 i0 (.int .i64 0) 1 8 Try.underlying23 hi hz0 hz1 hz2 rfl (by decide) _ _ _ rfl E0.out ⟨g, 0, none⟩ j cap (ints ((nats (Rk.upto vs k)).take j)) rfl HL.out HN1.out (int_cells _) (by unfold maxLen; omega) (by omega) (by simp) ?_))
              intro v1 w1 own1 hg1 _
              have own1' : w1.ownsRow wr.heap.size 3 1 v1 j (ints ((nats (Rk.upto vs k)).take j)) := by simpa [ints] using own1
              have hs1 : wr.heap.size ≤ w1.heap.size := Nat.le_trans (by simp) hg1.size
              have hgk1 := hg1.block g (by simp; omega) (far_block E0.out hgl)
              clear own1
              go_wp2_with (first
                | (at_builtin; refine wpList_append_own _ rfl _ _ 23 rfl wr.heap.size 3 i0 (.int .i64 0) 1 8 Try.underlying23 hi hz0 hz1 hz2 rfl (by decide) _ _ _ rfl (own1'.alloc _) ⟨w1.heap.size, 0, none⟩ 1 1 (ints [(k : Int)]) rfl rfl (new_one _ _ rfl) (int_cells _) (by unfold maxLen; omega) (by omega) (by simp; omega) ?_))
              intro v2 w2 own2 hg2 _
              have own2' : w2.ownsRow wr.heap.size 3 1 v2 (j + 1) (ints ((nats (Rk.upto vs k)).take j ++ [(k : Int)])) := by rw [ints_app]; exact own2
              have hs2 : wr.heap.size ≤ w2.heap.size := Nat.le_trans hs1 (Nat.le_trans (by simp) hg2.size)
              have hgk2 := (hg2.block g (by simp; omega) (far_block own1' hgl)).trans (((Below.refl _ _).alloc (Nat.le_refl _) _).block g (by omega))
              have HN2 : Hid (∀ (t : Nat) (u : Value), (ints ((nats (Rk.upto vs k)).drop j))[t]? = some u → w2.cell? ((⟨g, j, none⟩ : Addr).add t) = some u) :=
                news_at (cells_kept (hgk2.trans (hgk1.trans (((Below.refl _ _).alloc (Nat.le_refl _) _).block g hgl))) (own_drop HO.out (by rw [nats_len, hul]) j))
              have HL2 : Hid ((ints ((nats (Rk.upto vs k)).drop j)).length = (k - j) * 1) := by
                show _ = _
                rw [ints_len, List.length_drop, nats_len, hul]; omega
              have HB2 : Hid (Below w.heap.size w w2) := hide ((hB.alloc hs _).trans ((grownBy_below hg1 hs (by simp; omega)).trans (((Below.refl _ _).alloc (by omega) _).trans (by
                refine ⟨hg2.os, hg2.tape, hg2.output, hg2.size, fun b hb => hg2.block b (by simp; omega) (far_block own1' (by omega))⟩))))
              clear own2 hgk2 hgk1 hg1 hg2 own1'
              go_wp2_with (first
                | (at_builtin; refine wpList_append_own _ rfl _ _ 23 rfl wr.heap.size 3 i0 (.int .i64 0) 1 8 Try.underlying23 hi hz0 hz1 hz2 rfl (by decide) _ _ _ rfl own2' ⟨g, j, none⟩ (k - j) (cap - j) (ints ((nats (Rk.upto vs k)).drop j)) rfl HL2.out HN2.out (int_cells _) (by unfold maxLen; omega) (by omega) hs2 ?_))
              intro v3 w3 own3 hg3 _
              have own3' : w3.ownsRow wr.heap.size 3 1 v3 (k + 1) (ints (nats (Rk.upto vs (k + 1)))) := by
                rw [HR.out, ints_app]
                have e : j + 1 + (k - j) = k + 1 := by omega
                rw [e] at own3
                exact own3
              clear own3
              go_wp2_with fail
              go_roundw
              case rel => exact ⟨k + 1, by go_num, by omega, fun h => by omega, owns_base own3' hs, HB2.out.trans ⟨hg3.os, hg3.tape, hg3.output, hg3.size, fun b hb => hg3.block b (by omega) (far_block own2' (by omega))⟩⟩
              case measure => simp only [intOf]; omega
          · have HR := REST.out (fun h => by omega)
            have hjz : ¬ (j : Int) < (k : Int) := by omega
            have hjz' : decide ((j : Int) < (k : Int)) = false := decide_eq_false hjz
            by_cases hcj : cap = j
            · obtain rfl := hcj.symm
              have HL : Hid ((ints ((nats (Rk.upto vs k)).take j)).length = j * 1) := by
                show _ = _
                rw [ints_len, List.length_take, nats_len, hul]; omega
              have HN1 : Hid (∀ (t : Nat) (u : Value), (ints ((nats (Rk.upto vs k)).take j))[t]? = some u → (wr.alloc (.cells #[] 3)).cell? ((⟨g, 0, none⟩ : Addr).add t) = some u) :=
                news_at (cells_kept (((Below.refl _ _).alloc (Nat.le_refl _) _).block g hgl) (own_take HO.out (by rw [nats_len, hul]) hj))
              go_wp2_with (first
                | (at_builtin; refine wpList_append_own _ rfl _ _ 23 rfl wr.heap.size 3 i0 (.int .i64 0) 1 8 Try.underlying23 hi hz0 hz1 hz2 rfl (by decide) _ _ _ rfl E0.out ⟨g, 0, none⟩ j j (ints ((nats (Rk.upto vs k)).take j)) rfl HL.out HN1.out (int_cells _) (by unfold maxLen; omega) (by omega) (by simp) ?_))
              intro v1 w1 own1 hg1 _
              have own1' : w1.ownsRow wr.heap.size 3 1 v1 j (ints ((nats (Rk.upto vs k)).take j)) := by simpa [ints] using own1
              have hs1 : wr.heap.size ≤ w1.heap.size := Nat.le_trans (by simp) hg1.size
              clear own1
              go_wp2_with (first
                | (at_builtin; refine wpList_append_own _ rfl _ _ 23 rfl wr.heap.size 3 i0 (.int .i64 0) 1 8 Try.underlying23 hi hz0 hz1 hz2 rfl (by decide) _ _ _ rfl (own1'.alloc _) ⟨w1.heap.size, 0, none⟩ 1 1 (ints [(k : Int)]) rfl rfl (new_one _ _ rfl) (int_cells _) (by unfold maxLen; omega) (by omega) (by simp; omega) ?_))
              intro v2 w2 own2 hg2 _
              have own2' : w2.ownsRow wr.heap.size 3 1 v2 (j + 1) (ints ((nats (Rk.upto vs k)).take j ++ [(k : Int)])) := by rw [ints_app]; exact own2
              have hs2 : wr.heap.size ≤ w2.heap.size := Nat.le_trans hs1 (Nat.le_trans (by simp) hg2.size)
              have HN2 : Hid (∀ (t : Nat) (u : Value), (ints ((nats (Rk.upto vs k)).drop j))[t]? = some u → w2.cell? ((⟨g, 0, none⟩ : Addr).add t) = some u) := by
                rw [List.drop_eq_nil_of_le (by rw [nats_len, hul]; omega)]; exact fun t u h => by simp [ints] at h
              have HL2 : Hid ((ints ((nats (Rk.upto vs k)).drop j)).length = 0 * 1) := by
                show _ = _
                rw [ints_len, List.length_drop, nats_len, hul]; omega
              have HB2 : Hid (Below w.heap.size w w2) := hide ((hB.alloc hs _).trans ((grownBy_below hg1 hs (by simp; omega)).trans (((Below.refl _ _).alloc (by omega) _).trans (by
                refine ⟨hg2.os, hg2.tape, hg2.output, hg2.size, fun b hb => hg2.block b (by simp; omega) (far_block own1' (by omega))⟩))))
              clear own2 hg1 hg2 own1'
              go_wp2_with (first
                | (at_builtin; refine wpList_append_own _ rfl _ _ 23 rfl wr.heap.size 3 i0 (.int .i64 0) 1 8 Try.underlying23 hi hz0 hz1 hz2 rfl (by decide) _ _ _ rfl own2' ⟨g, 0, none⟩ 0 0 (ints ((nats (Rk.upto vs k)).drop j)) rfl HL2.out HN2.out (int_cells _) (by unfold maxLen; omega) (by omega) hs2 ?_))
              intro v3 w3 own3 hg3 _
              have own3' : w3.ownsRow wr.heap.size 3 1 v3 (k + 1) (ints (nats (Rk.upto vs (k + 1)))) := by
                rw [HR.out, ints_app]
                have e : j + 1 + 0 = k + 1 := by omega
                rw [e] at own3
                exact own3
              clear own3
              go_wp2_with fail
              go_roundw
              case rel => exact ⟨k + 1, by go_num, by omega, fun h => by omega, owns_base own3' hs, HB2.out.trans ⟨hg3.os, hg3.tape, hg3.output, hg3.size, fun b hb => hg3.block b (by omega) (far_block own2' (by omega))⟩⟩
              case measure => simp only [intOf]; omega
            · have hcl : j < cap := by omega
              have HL : Hid ((ints ((nats (Rk.upto vs k)).take j)).length = j * 1) := by
                show _ = _
                rw [ints_len, List.length_take, nats_len, hul]; omega
              have HN1 : Hid (∀ (t : Nat) (u : Value), (ints ((nats (Rk.upto vs k)).take j))[t]? = some u → (wr.alloc (.cells #[] 3)).cell? ((⟨g, 0, none⟩ : Addr).add t) = some u) :=
                news_at (cells_kept (((Below.refl _ _).alloc (Nat.le_refl _) _).block g hgl) (own_take HO.out (by rw [nats_len, hul]) hj))
              go_wp2_with (first
                | (at_builtin; refine wpList_append_own _ rfl _ _ 23 rfl wr.heap.size 3 i0 (.int .i64 0) 1 8 Try.underlying23 hi hz0 hz1 hz2 rfl (by decide) _ _ _ rfl E0.out ⟨g, 0, none⟩ j cap (ints ((nats (Rk.upto vs k)).take j)) rfl HL.out HN1.out (int_cells _) (by unfold maxLen; omega) (by omega) (by simp) ?_))
              intro v1 w1 own1 hg1 _
              have own1' : w1.ownsRow wr.heap.size 3 1 v1 j (ints ((nats (Rk.upto vs k)).take j)) := by simpa [ints] using own1
              have hs1 : wr.heap.size ≤ w1.heap.size := Nat.le_trans (by simp) hg1.size
              have hgk1 := hg1.block g (by simp; omega) (far_block E0.out hgl)
              clear own1
              go_wp2_with (first
                | (at_builtin; refine wpList_append_own _ rfl _ _ 23 rfl wr.heap.size 3 i0 (.int .i64 0) 1 8 Try.underlying23 hi hz0 hz1 hz2 rfl (by decide) _ _ _ rfl (own1'.alloc _) ⟨w1.heap.size, 0, none⟩ 1 1 (ints [(k : Int)]) rfl rfl (new_one _ _ rfl) (int_cells _) (by unfold maxLen; omega) (by omega) (by simp; omega) ?_))
              intro v2 w2 own2 hg2 _
              have own2' : w2.ownsRow wr.heap.size 3 1 v2 (j + 1) (ints ((nats (Rk.upto vs k)).take j ++ [(k : Int)])) := by rw [ints_app]; exact own2
              have hs2 : wr.heap.size ≤ w2.heap.size := Nat.le_trans hs1 (Nat.le_trans (by simp) hg2.size)
              have hgk2 := (hg2.block g (by simp; omega) (far_block own1' hgl)).trans (((Below.refl _ _).alloc (Nat.le_refl _) _).block g (by omega))
              have HN2 : Hid (∀ (t : Nat) (u : Value), (ints ((nats (Rk.upto vs k)).drop j))[t]? = some u → w2.cell? ((⟨g, j, none⟩ : Addr).add t) = some u) :=
                news_at (cells_kept (hgk2.trans (hgk1.trans (((Below.refl _ _).alloc (Nat.le_refl _) _).block g hgl))) (own_drop HO.out (by rw [nats_len, hul]) j))
              have HL2 : Hid ((ints ((nats (Rk.upto vs k)).drop j)).length = (k - j) * 1) := by
                show _ = _
                rw [ints_len, List.length_drop, nats_len, hul]; omega
              have HB2 : Hid (Below w.heap.size w w2) := hide ((hB.alloc hs _).trans ((grownBy_below hg1 hs (by simp; omega)).trans (((Below.refl _ _).alloc (by omega) _).trans (by
                refine ⟨hg2.os, hg2.tape, hg2.output, hg2.size, fun b hb => hg2.block b (by simp; omega) (far_block own1' (by omega))⟩))))
              clear own2 hgk2 hgk1 hg1 hg2 own1'
              go_wp2_with (first
                | (at_builtin; refine wpList_append_own _ rfl _ _ 23 rfl wr.heap.size 3 i0 (.int .i64 0) 1 8 Try.underlying23 hi hz0 hz1 hz2 rfl (by decide) _ _ _ rfl own2' ⟨g, j, none⟩ (k - j) (cap - j) (ints ((nats (Rk.upto vs k)).drop j)) rfl HL2.out HN2.out (int_cells _) (by unfold maxLen; omega) (by omega) hs2 ?_))
              intro v3 w3 own3 hg3 _
              have own3' : w3.ownsRow wr.heap.size 3 1 v3 (k + 1) (ints (nats (Rk.upto vs (k + 1)))) := by
                rw [HR.out, ints_app]
                have e : j + 1 + (k - j) = k + 1 := by omega
                rw [e] at own3
                exact own3
              clear own3
              go_wp2_with fail
              go_roundw
              case rel => exact ⟨k + 1, by go_num, by omega, fun h => by omega, owns_base own3' hs, HB2.out.trans ⟨hg3.os, hg3.tape, hg3.output, hg3.size, fun b hb => hg3.block b (by omega) (far_block own2' (by omega))⟩⟩
              case measure => simp only [intOf]; omega
    · have hke : k = n := by omega
      subst hke
      have hrk : Rk.upto vs k = Rk.rank vs := by unfold Rk.rank; rw [HV.out]
      rw [hrk] at hown
      go_wp2_with fail
      go_ret
      exact ⟨_, rfl, hB, hown⟩
end Go.Proofs.Ytnchkgblpnompaa
namespace Go.Proofs.Ytnchkgblpnompaa
open Go.RowKit

def It.ffL (l : List Int) : List (List Int) := if It.goodB l then It.nums (It.fill (its l)) else []
def It.fsL (l : List Int) : List (List Int) := if It.goodB l then It.nums (It.fill (gfL l)) else []
/-- Lists of ints in memory of their own, and whether. -/
def LLP (w : World) (g : Bool) (R : List (List Int)) (e : Ending) (w' : World) : Prop := ∃ v us, e = .returned (.tuple #[v, .bool g]) ∧ LL w' w.heap.size 23 3 1 ints v us R ∧ Below w.heap.size w w'
theorem its_fst (l : List Int) : (its l).map Prod.fst = (List.range l.length).map fun (i : Nat) => (i : Int) := by simp [its, Function.comp_def]
theorem gfL_fst (l : List Int) : (gfL l).map Prod.fst = nats (Rk.rank l) := by simp [gfL, nats, Function.comp_def]
theorem nd_cast {l : List Nat} (h : l.Nodup) : (l.map fun (i : Nat) => (i : Int)).Nodup := by
  induction l with
  | nil => simp
  | cons x l ih =>
    rw [List.nodup_cons] at h
    rw [List.map_cons, List.nodup_cons]
    refine ⟨fun hm => ?_, ih h.2⟩
    obtain ⟨y, hy, e⟩ := List.mem_map.1 hm
    have e' : (y : Int) = (x : Int) := e
    have : y = x := by omega
    exact h.1 (this ▸ hy)
theorem nd_of_fst {L : List (Int × Int)} (h : (L.map Prod.fst).Nodup) : L.Nodup := by
  induction L with
  | nil => simp
  | cons x L ih =>
    rw [List.map_cons, List.nodup_cons] at h
    rw [List.nodup_cons]
    exact ⟨fun hm => h.1 (List.mem_map.2 ⟨x, hm, rfl⟩), ih h.2⟩
theorem its_nd (l : List Int) : (its l).Nodup := nd_of_fst (by rw [its_fst]; exact nd_cast List.nodup_range)
theorem gfL_nd (l : List Int) : (gfL l).Nodup := nd_of_fst (by rw [gfL_fst]; exact nd_cast ((Rk.rank_perm l).nodup_iff.2 List.nodup_range))
theorem its_in {l : List Int} : ∀ x ∈ its l, 0 ≤ x.1 ∧ x.1 < (l.length : Int) ∧ l.getD x.1.toNat 0 = x.2 := fun x hx => by
  obtain ⟨i, hi, rfl⟩ := List.mem_map.1 hx
  have := List.mem_range.1 hi
  exact ⟨by simp, by simpa using this, by simp⟩
theorem gfL_in {l : List Int} : ∀ x ∈ gfL l, 0 ≤ x.1 ∧ x.1 < (l.length : Int) ∧ l.getD x.1.toNat 0 = x.2 := fun x hx => by
  obtain ⟨i, hi, rfl⟩ := List.mem_map.1 hx
  have := Rk.rank_mem hi
  exact ⟨by simp, by simpa using this, by simp⟩
theorem its_sz {l : List Int} (hg : It.goodB l = true) : ∀ x ∈ its l, 1 ≤ x.2 ∧ x.2 ≤ 20 := fun x hx => by
  obtain ⟨i, hi, rfl⟩ := List.mem_map.1 hx
  exact It.good_at hg (List.mem_range.1 hi)
theorem gfL_sz {l : List Int} (hg : It.goodB l = true) : ∀ x ∈ gfL l, 1 ≤ x.2 ∧ x.2 ≤ 20 := fun x hx => by
  obtain ⟨i, hi, rfl⟩ := List.mem_map.1 hx
  exact It.good_at hg (Rk.rank_mem hi)
theorem fill_len {xs : List (Int × Int)} (h : ∀ x ∈ xs, 1 ≤ x.2 ∧ x.2 ≤ 20) : (It.fill xs).length ≤ xs.length ∧ ∀ i, i < (It.fill xs).length → ((It.fill xs).getD i []).length ≤ xs.length := by
  have hf := It.fi_all h xs.length (Nat.le_refl _)
  rw [It.fillTo_all xs (Nat.le_refl _)] at hf
  exact ⟨hf.few, fun i hi => (hf.box i hi).1⟩
theorem LL.low {α : Type} {W : World} {base base' T E s : Nat} {enc : List α → List Value} {v : Value} {us : List Value} {R : List (List α)} (h : LL W base T E s enc v us R) (hb : base' ≤ base) : LL W base' T E s enc v us R := ⟨own_low2 h.1 hb, fun i hi => own_low2 (h.2.1 i hi) hb, h.2.2⟩
theorem pkd_w {a : Option Addr} {n c : Nat} {xs : List (Int × Int)} {w : World} (hx : xs.length = n) (hn : n ≤ 900) (hd : xs.Nodup) (hsz : ∀ x ∈ xs, 1 ≤ x.2 ∧ x.2 ≤ 20) (ha : FRow w a xs) :
    Calls Try.prog 26 #[.slice a n c] w fun e w' => ∃ v us, e = .returned v ∧ LL w' w.heap.size 23 3 1 ints v us (It.nums (It.fill xs)) ∧ Below w.heap.size w w' :=
  pkd_any hx hn hd hsz ha (hide fun v us W _ hl => ni_any hl rfl (by have := (fill_len hsz).1; omega) (fun i hi => by have := (fill_len hsz).2 i hi; omega))
set_option maxRecDepth 100000 in
set_option maxHeartbeats 1000000 in
theorem ff_w {a : Option Addr} {n c : Nat} {l : List Int} {w : World} (hx : l.length = n) (ha : ARow w a l) :
    Calls Try.prog 6 #[.slice a n c] w (LLP w (It.goodB l) (It.ffL l)) := by
  have HX := hide hx
  have HA := hide ha
  unfold It.ffL
  cases hg : It.goodB l
  · have HG := hide hg
    clear hx ha hg
    go_enter Try.func6, Try.ntmps6
    go_wp2_with fail
    refine (gi_eq HX HA HG).mono ?_
    rintro e w1 ⟨rfl, rfl⟩
    go_wp2_with fail
    refine bodyPost_ret (v := .tuple #[.slice none 0 0, .bool false]) (by simp [results, Try.results6, go_sem]) rfl ?_
    exact ⟨nilS, [], rfl, LL.nil _ _ _ _ _ _, Below.refl _ _⟩
  · have HG := hide hg
    have h9 := It.good_len hg
    rw [hx] at h9
    have HIO := hide (io_any (c := c) hx (by omega) ha)
    have HPK := hide fun (W : World) (a' : Option Addr) (c' : Nat) (hr : FRow W a' (its l)) => pkd_w (w := W) (c := c') (n := n) (by rw [its_len, hx]) (by omega) (its_nd l) (its_sz hg) hr
    clear ha hg hx
    go_enter Try.func6, Try.ntmps6
    go_wp2_with fail
    refine (gi_eq HX HA HG).mono ?_
    rintro e w1 ⟨rfl, hw1⟩
    obtain rfl : w = w1 := hw1.symm
    go_wp2_with fail
    refine HIO.out.mono ?_
    rintro e w1 ⟨v1, rfl, o1, b1⟩
    obtain ⟨a1, c1, e1, r1⟩ := own_items (by rw [its_len, HX.out]) o1
    subst e1
    have HC := hide (HPK.out w1 a1 c1 r1)
    have B1 := hide b1
    clear o1 b1 r1 HIO HPK
    go_wp2_with fail
    refine HC.out.mono ?_
    rintro e w2 ⟨v2, us2, rfl, l2, b2⟩
    go_wp2_with fail
    refine bodyPost_ret (v := .tuple #[v2, .bool true]) (by simp [results, Try.results6, go_sem]) rfl ?_
    exact ⟨v2, us2, rfl, l2.low B1.out.size, B1.out.trans (b2.mono B1.out.size)⟩
set_option maxRecDepth 100000 in
set_option maxHeartbeats 1000000 in
theorem fs_w {a : Option Addr} {n c : Nat} {l : List Int} {w : World} (hx : l.length = n) (ha : ARow w a l) :
    Calls Try.prog 8 #[.slice a n c] w (LLP w (It.goodB l) (It.fsL l)) := by
  have HX := hide hx
  have HA := hide ha
  unfold It.fsL
  cases hg : It.goodB l
  · have HG := hide hg
    clear hx ha hg
    go_enter Try.func8, Try.ntmps8
    go_wp2_with fail
    refine (gi_eq HX HA HG).mono ?_
    rintro e w1 ⟨rfl, rfl⟩
    go_wp2_with fail
    refine bodyPost_ret (v := .tuple #[.slice none 0 0, .bool false]) (by simp [results, Try.results8, go_sem]) rfl ?_
    exact ⟨nilS, [], rfl, LL.nil _ _ _ _ _ _, Below.refl _ _⟩
  · have HG := hide hg
    have h9 := It.good_len hg
    rw [hx] at h9
    have HIO := hide (gf_any (c := c) hx (by omega) ha)
    have HPK := hide fun (W : World) (a' : Option Addr) (c' : Nat) (hr : FRow W a' (gfL l)) => pkd_w (w := W) (c := c') (n := n) (by rw [gfL_len, hx]) (by omega) (gfL_nd l) (gfL_sz hg) hr
    clear ha hg hx
    go_enter Try.func8, Try.ntmps8
    go_wp2_with fail
    refine (gi_eq HX HA HG).mono ?_
    rintro e w1 ⟨rfl, hw1⟩
    obtain rfl : w = w1 := hw1.symm
    go_wp2_with fail
    refine HIO.out.mono ?_
    rintro e w1 ⟨a1, c1, rfl, _, r1, b1⟩
    have HC := hide (HPK.out w1 a1 c1 r1)
    have B1 := hide b1
    clear b1 r1 HIO HPK
    go_wp2_with fail
    refine HC.out.mono ?_
    rintro e w2 ⟨v2, us2, rfl, l2, b2⟩
    go_wp2_with fail
    refine bodyPost_ret (v := .tuple #[v2, .bool true]) (by simp [results, Try.results8, go_sem]) rfl ?_
    exact ⟨v2, us2, rfl, l2.low B1.out.size, B1.out.trans (b2.mono B1.out.size)⟩
set_option maxRecDepth 100000 in
set_option maxHeartbeats 1000000 in
theorem sff_w {a : Option Addr} {n c : Nat} {l : List Int} {w : World} (hx : l.length = n) (ha : ARow w a l) :
    Calls Try.prog 7 #[.slice a n c] w (LLP w (It.goodB l) (It.ffL l)) := by
  have HX := hide hx
  have HA := hide ha
  unfold It.ffL
  cases hg : It.goodB l
  · have HG := hide hg
    clear hx ha hg
    go_enter Try.func7, Try.ntmps7
    go_wp2_with fail
    refine (sgi_eq HX HA HG).mono ?_
    rintro e w1 ⟨rfl, rfl⟩
    go_wp2_with fail
    refine bodyPost_ret (v := .tuple #[.slice none 0 0, .bool false]) (by simp [results, Try.results7, go_sem]) rfl ?_
    exact ⟨nilS, [], rfl, LL.nil _ _ _ _ _ _, Below.refl _ _⟩
  · have HG := hide hg
    have h9 := It.good_len hg
    rw [hx] at h9
    have HLF := hide fun (W : World) (a' : Option Addr) (c' : Nat) (h : Below w.heap.size w W) (hr : ARow W a' ((List.range n).map fun (i : Nat) => (i : Int))) => lf_any (w := W) (c := c) (d := c') (m := n) (xs := its l) hx (by omega) (by rw [its_len, hx]) (by omega) (by rw [← hx]; exact its_in) (its_sz hg) (ha.below h) (by rw [its_fst, hx]; exact hr)
    clear ha hg hx
    go_enter Try.func7, Try.ntmps7
    go_wp2_with fail
    refine (sgi_eq HX HA HG).mono ?_
    rintro e w1 ⟨rfl, hw1⟩
    obtain rfl : w = w1 := hw1.symm
    go_wp2_with fail
    refine (ln_any (by omega)).mono ?_
    rintro e w1 ⟨a1, c1, rfl, r1, b1⟩
    have HC := hide (HLF.out w1 a1 c1 b1 r1)
    have B1 := hide b1
    clear b1 r1 HLF
    go_wp2_with fail
    refine HC.out.mono ?_
    rintro e w2 ⟨v2, us2, rfl, l2, b2⟩
    go_wp2_with fail
    refine bodyPost_ret (v := .tuple #[v2, .bool true]) (by simp [results, Try.results7, go_sem]) rfl ?_
    exact ⟨v2, us2, rfl, l2.low B1.out.size, B1.out.trans (b2.mono B1.out.size)⟩
set_option maxRecDepth 100000 in
set_option maxHeartbeats 1000000 in
theorem sfs_w {a : Option Addr} {n c : Nat} {l : List Int} {w : World} (hx : l.length = n) (ha : ARow w a l) :
    Calls Try.prog 9 #[.slice a n c] w (LLP w (It.goodB l) (It.fsL l)) := by
  have HX := hide hx
  have HA := hide ha
  unfold It.fsL
  cases hg : It.goodB l
  · have HG := hide hg
    clear hx ha hg
    go_enter Try.func9, Try.ntmps9
    go_wp2_with fail
    refine (sgi_eq HX HA HG).mono ?_
    rintro e w1 ⟨rfl, rfl⟩
    go_wp2_with fail
    refine bodyPost_ret (v := .tuple #[.slice none 0 0, .bool false]) (by simp [results, Try.results9, go_sem]) rfl ?_
    exact ⟨nilS, [], rfl, LL.nil _ _ _ _ _ _, Below.refl _ _⟩
  · have HG := hide hg
    have h9 := It.good_len hg
    rw [hx] at h9
    have HLF := hide fun (W : World) (a' : Option Addr) (c' : Nat) (h : Below w.heap.size w W) (hr : ARow W a' (nats (Rk.rank l))) => lf_any (w := W) (c := c) (d := c') (m := n) (xs := gfL l) hx (by omega) (by rw [gfL_len, hx]) (by omega) (by rw [← hx]; exact gfL_in) (gfL_sz hg) (ha.below h) (by rw [gfL_fst]; exact hr)
    have HRK := hide (srank_any (c := c) hx (by omega) ha)
    clear ha hg hx
    go_enter Try.func9, Try.ntmps9
    go_wp2_with fail
    refine (sgi_eq HX HA HG).mono ?_
    rintro e w1 ⟨rfl, hw1⟩
    obtain rfl : w = w1 := hw1.symm
    go_wp2_with fail
    refine HRK.out.mono ?_
    rintro e w1 ⟨v1, rfl, b1, o1⟩
    obtain ⟨a1, c1, e1, r1⟩ := own_row (by rw [nats_len, Rk.rank_len, HX.out]) o1
    subst e1
    have HC := hide (HLF.out w1 a1 c1 b1 r1)
    have B1 := hide b1
    clear b1 r1 HLF o1 HRK
    go_wp2_with fail
    refine HC.out.mono ?_
    rintro e w2 ⟨v2, us2, rfl, l2, b2⟩
    go_wp2_with fail
    refine bodyPost_ret (v := .tuple #[v2, .bool true]) (by simp [results, Try.results9, go_sem]) rfl ?_
    exact ⟨v2, us2, rfl, l2.low B1.out.size, B1.out.trans (b2.mono B1.out.size)⟩
end Go.Proofs.Ytnchkgblpnompaa
namespace Go.Proofs.Ytnchkgblpnompaa.It

theorem set_flat {x : Int × Int} : ∀ (C : List (List (Int × Int))) (i : Nat), i < C.length → (C.set i (C.getD i [] ++ [x])).flatten.Perm (C.flatten ++ [x])
  | [], i, h => by simp at h
  | c :: C, 0, _ => by
    simp only [List.set_cons_zero, List.getD_cons_zero, List.flatten_cons, List.append_assoc]
    exact (List.perm_append_comm).append_left c
  | c :: C, i + 1, h => by
    simp only [List.set_cons_succ, List.getD_cons_succ, List.flatten_cons, List.append_assoc]
    exact (set_flat C i (by simpa using h)).append_left c
theorem ext_flat (B : List (List (Int × Int))) (i : Nat) : (ext B i).flatten = B.flatten := by
  unfold ext; split
  · rfl
  · simp
theorem place_flat (B : List (List (Int × Int))) (x : Int × Int) : (place B x).flatten.Perm (B.flatten ++ [x]) := by
  unfold place
  have := set_flat (x := x) (ext B (atI B x.2)) (atI B x.2) (ext_at (at_le B x.2))
  rwa [ext_flat] at this
theorem fill_flat (xs : List (Int × Int)) : ∀ k, k ≤ xs.length → (fillTo xs k).flatten.Perm (xs.take k)
  | 0, _ => by simp [fillTo]
  | k + 1, hk => by
    have ih := fill_flat xs k (by omega)
    rw [fillTo_succ (by omega), List.take_add_one]
    refine (place_flat _ _).trans ((ih.append_right _).trans (List.Perm.of_eq ?_))
    simp [show k < xs.length by omega]
theorem place_ne {B : List (List (Int × Int))} {x : Int × Int} (h : ∀ b ∈ B, b ≠ []) : ∀ b ∈ place B x, b ≠ [] := by
  intro b hb
  by_cases e : atI B x.2 < B.length
  · have e1 : place B x = B.set (atI B x.2) (B.getD (atI B x.2) [] ++ [x]) := by unfold place ext; rw [if_pos e]
    rw [e1] at hb
    rcases List.mem_or_eq_of_mem_set hb with hb | rfl
    · exact h b hb
    · simp
  · have h1 : atI B x.2 = B.length := by have := at_le B x.2; omega
    have e1 : place B x = B ++ [[x]] := by
      unfold place ext
      rw [if_neg e, h1]
      have : (B ++ [[]]).getD B.length [] = ([] : List (Int × Int)) := by simp
      rw [this, List.set_append_right _ _ (Nat.le_refl _), Nat.sub_self]; rfl
    rw [e1] at hb
    rcases List.mem_append.1 hb with hb | hb
    · exact h b hb
    · simp at hb; subst hb; simp
theorem fill_ne (xs : List (Int × Int)) : ∀ k, k ≤ xs.length → ∀ b ∈ fillTo xs k, b ≠ []
  | 0, _ => fun b hb => by simp [fillTo] at hb
  | k + 1, hk => by
    rw [fillTo_succ (by omega)]
    exact place_ne (fill_ne xs k (by omega))
theorem nums_flat (B : List (List (Int × Int))) : (nums B).flatten = B.flatten.map Prod.fst := by
  induction B with
  | nil => rfl
  | cons b B ih => simp only [nums, List.map_cons, List.flatten_cons, List.map_append] at ih ⊢; rw [ih]
/-- What is filled is a packing. -/
theorem fill_pack {l : List Int} {xs : List (Int × Int)} (hl : xs.length = l.length) (hd : (xs.map Prod.fst).Nodup) (hx : ∀ x ∈ xs, 0 ≤ x.1 ∧ x.1 < (l.length : Int) ∧ l.getD x.1.toNat 0 = x.2) (hs : ∀ x ∈ xs, 1 ≤ x.2 ∧ x.2 ≤ 20) : packB l (nums (fill xs)) = true := by
  have hp : (fill xs).flatten.Perm xs := by
    have := fill_flat xs xs.length (Nat.le_refl _)
    rwa [fillTo_all xs (Nat.le_refl _), List.take_length] at this
  have hp1 : (nums (fill xs)).flatten.Perm (xs.map Prod.fst) := by rw [nums_flat]; exact hp.map _
  have hfi := fi_all hs xs.length (Nat.le_refl _)
  rw [fillTo_all xs (Nat.le_refl _)] at hfi
  refine packB_of ⟨hp1.nodup_iff.2 hd, fun y hy => ?_⟩ (by rw [hp1.length_eq, List.length_map, hl]) (fun b hb => ?_)
  · obtain ⟨x, hx', rfl⟩ := List.mem_map.1 (hp1.subset hy)
    have := hx x hx'; omega
  · obtain ⟨c, hc, rfl⟩ := List.mem_map.1 hb
    obtain ⟨i, hi, rfl⟩ := List.mem_iff_getElem.1 hc
    have hb1 := hfi.box i hi
    have eg : (fill xs).getD i [] = (fill xs)[i] := by rw [List.getD_eq_getElem?_getD, List.getElem?_eq_getElem hi]; rfl
    rw [eg] at hb1
    have hne := fill_ne xs xs.length (Nat.le_refl _)
    rw [fillTo_all xs (Nat.le_refl _)] at hne
    refine ⟨fun h0 => hne _ hc (by simpa using h0), ?_⟩
    have em : ((fill xs)[i].map Prod.fst).map (sz l) = (fill xs)[i].map Prod.snd := by
      rw [List.map_map]
      refine List.map_congr_left fun y hy => ?_
      have := hx y (List.mem_of_mem_take (hb1.2.2.2 y hy))
      exact this.2.2
    rw [em]
    have := hb1.2.1
    unfold rm at this
    omega
/-- One less. -/
theorem fit_drop {s : Int} {t : List Int} {m : Nat} (hs : 0 ≤ s) (ht : ∀ x ∈ t, 0 ≤ x) (h : Fit (s :: t) (twenty m)) : Fit t (twenty m) := by
  obtain ⟨i, hi, h1, Z, z1, z2, z3⟩ := (fit_step hs ht).1 h
  refine ⟨Z, z1, fun z hz => by have := z2 z hz; rwa [List.length_set] at this, fun b hb => ?_⟩
  have := z3 b (by rw [List.length_set]; exact hb)
  rw [getD_set hi] at this
  split at this
  · subst b; omega
  · exact this
/-- And back, with a box more. -/
theorem fit_more {s : Int} {t : List Int} {m : Nat} (hs : 0 ≤ s) (hs2 : s ≤ 20) (ht : ∀ x ∈ t, 0 ≤ x) (h : Fit t (twenty m)) : Fit (s :: t) (twenty (m + 1)) := by
  refine (fit_step hs ht).2 ⟨m, by rw [twenty_len]; omega, by rw [twenty_at (by omega)]; exact hs2, ?_⟩
  obtain ⟨Z, z1, z2, z3⟩ := h
  rw [twenty_len] at z2 z3
  refine ⟨Z, z1, fun z hz => by rw [List.length_set, twenty_len]; have := z2 z hz; omega, fun b hb => ?_⟩
  rw [List.length_set, twenty_len] at hb
  rw [getD_set (by rw [twenty_len]; omega)]
  split
  · subst b
    rw [ld_far (fun z hz => by have := z2 z hz; omega), twenty_at (by omega)]; omega
  · rw [twenty_at hb]
    have := z3 b (by omega)
    rwa [twenty_at (by omega)] at this
theorem drop_perm {l : List Int} {k : Nat} (hk : k < l.length) : (l.getD k 0 :: (l.take k ++ l.drop (k + 1))).Perm l := by
  have e : l = l.take k ++ (l.getD k 0 :: l.drop (k + 1)) := by
    rw [← drop_at 0 hk, List.take_append_drop]
  have : (l.getD k 0 :: (l.take k ++ l.drop (k + 1))).Perm (l.take k ++ (l.getD k 0 :: l.drop (k + 1))) := List.perm_middle.symm
  exact this.trans (List.Perm.of_eq e.symm)
theorem drop_few {l : List Int} {k : Nat} (hg : goodB l = true) (hk : k < l.length) : goodB (l.take k ++ l.drop (k + 1)) = true ∧ fewN (l.take k ++ l.drop (k + 1)) ≤ fewN l ∧ fewN l ≤ fewN (l.take k ++ l.drop (k + 1)) + 1 := by
  have hp := drop_perm hk
  have hm : ∀ x ∈ l.take k ++ l.drop (k + 1), x ∈ l := fun x hx => hp.subset (by simp [List.mem_append.1 hx])
  have hlen : (l.take k ++ l.drop (k + 1)).length + 1 = l.length := by have := hp.length_eq; simpa using this
  have h9 := good_len hg
  have hg' : goodB (l.take k ++ l.drop (k + 1)) = true := by
    unfold goodB
    rw [Bool.and_eq_true]
    refine ⟨by simp only [decide_eq_true_eq]; omega, Pf.allB_of fun i hi => ?_⟩
    have hmem : (l.take k ++ l.drop (k + 1)).getD i 0 ∈ l := hm _ (by rw [List.getD_eq_getElem?_getD, List.getElem?_eq_getElem hi]; exact List.getElem_mem hi)
    have := good_mem hg hmem
    exact Pf.inB_of this.1 this.2
  have hs := good_at hg hk
  have ht : ∀ x ∈ l.take k ++ l.drop (k + 1), 0 ≤ x := fun x hx => good_pos hg x (hm x hx)
  have f1 := few_is (good_all20 hg)
  have f2 := few_is (good_all20 hg')
  refine ⟨hg', f2.2 _ (fit_drop (by omega) ht (f1.1.perm hp.symm)), f1.2 _ ((fit_more (by omega) hs.2 ht f2.1).perm hp)⟩
/-- What the law asks of boxes. -/
theorem bx_facts {l : List Int} (hg : goodB l = true) : ipB l (ffL l) = true ∧ ipB l (fsL l) = true ∧ lbI l ≤ (fewN l : Int) ∧ fewN l ≤ (ffL l).length ∧ fewN l ≤ (fsL l).length ∧ 9 * (fsL l).length ≤ 11 * fewN l + 6 ∧ (0 < l.length → ((ffL l).length : Int) ≤ 2 * lbI l - 1) := by
  have e1 : ffL l = nums (fill (its l)) := by simp [ffL, hg]
  have e2 : fsL l = nums (fill (gfL l)) := by simp [fsL, hg]
  have p1 : packB l (ffL l) = true := by rw [e1]; exact fill_pack (its_len l) (by rw [its_fst]; exact nd_cast List.nodup_range) its_in (its_sz hg)
  have p2 : packB l (fsL l) = true := by rw [e2]; exact fill_pack (gfL_len l) (by rw [gfL_fst]; exact nd_cast ((Rk.rank_perm l).nodup_iff.2 List.nodup_range)) gfL_in (gfL_sz hg)
  have f := few_is (good_all20 hg)
  have s1 := (pack_few hg p1).1
  have s2 := (pack_few hg p2).1
  refine ⟨by simp [ipB, hg, p1], by simp [ipB, hg, p2], lb_le hg f.1, s1, s2, ?_, fun h0 => ?_⟩
  · obtain ⟨h1, h2, h3⟩ := fill_ff (gfL_sz hg)
    have hfit : Fit ((gfL l).map Prod.snd) (twenty (fewN l)) := by
      have hpm : ((gfL l).map Prod.snd).Perm l := by
        have : (gfL l).map Prod.snd = (Rk.rank l).map fun i => l.getD i 0 := by simp [gfL, Function.comp_def]
        rw [this]; exact rank_sizes l
      exact f.1.perm hpm.symm
    obtain ⟨p, hp⟩ := fit_pk hfit
    have h9 := good_len hg
    rw [e2, nums_len]
    refine Bx.johnson h1 h2 h3 hp (fun i j hij hj => ?_) (by rw [gfL_len]; exact h9)
    rw [gfL_len] at hj
    have hdn := Rk.rank_down l
    unfold xOf
    rw [gfL_at hj, gfL_at (by omega)]
    show l.getD ((Rk.rank l).getD j 0) 0 ≤ l.getD ((Rk.rank l).getD i 0) 0
    by_cases e : i = j
    · subst e; exact Int.le_refl _
    · have hlr := Rk.rank_len l
      have := List.pairwise_iff_getElem.1 hdn i j (by omega) (by omega) (by omega)
      rw [List.getD_eq_getElem?_getD (l := Rk.rank l), List.getElem?_eq_getElem (show j < (Rk.rank l).length by omega), List.getD_eq_getElem?_getD (l := Rk.rank l), List.getElem?_eq_getElem (show i < (Rk.rank l).length by omega)]
      exact this
  · obtain ⟨h1, h2, h3⟩ := fill_ff (its_sz hg)
    rw [e1, nums_len]
    have hsum : Bx.sumTo (xOf (its l)) (its l).length = l.sum := by
      rw [sumTo_take (its l) _ (Nat.le_refl _), List.take_length]
      congr 1
      apply List.ext_getElem
      · simp [its]
      · intro j h1 h2; simp [its] at h1; simp [its, h1]
    have hl0 := lb_nonneg hg
    have hs0 : 1 ≤ l.sum := by
      have := Pf.sum_bd (good_all hg)
      omega
    have hlb : lbI l = (l.sum + 20 - 1) / 20 := by simp [lbI, hg]
    have hm1 : 1 ≤ (lbI l).toNat := by omega
    have := Bx.ff_twice (m := (lbI l).toNat) h1 h2 h3 hm1 (by rw [hsum]; omega)
    omega
end Go.Proofs.Ytnchkgblpnompaa.It
namespace Go.Proofs.Ytnchkgblpnompaa
open Go.RowKit

/-- All old blocks but 'c' are as they were. -/
structure Kp (c : Nat) (w w' : World) : Prop where
  os : w'.os = w.os
  tape : w'.tape = w.tape
  output : w'.output = w.output
  size : w.heap.size ≤ w'.heap.size
  block : ∀ k, k < w.heap.size → k ≠ c → w'.heap[k]? = w.heap[k]?
theorem Kp.refl (c : Nat) (w : World) : Kp c w w := ⟨rfl, rfl, rfl, Nat.le_refl _, fun _ _ _ => rfl⟩
theorem Kp.trans {c : Nat} {a b d : World} (h : Kp c a b) (k : Kp c b d) : Kp c a d :=
  ⟨k.os.trans h.os, k.tape.trans h.tape, k.output.trans h.output, Nat.le_trans h.size k.size, fun i hi hne => (k.block i (Nat.lt_of_lt_of_le hi h.size) hne).trans (h.block i hi hne)⟩
theorem Kp.of_below {c : Nat} {a b : World} (h : Below a.heap.size a b) : Kp c a b := ⟨h.os, h.tape, h.output, h.size, fun k hk _ => h.block k hk⟩
theorem Kp.below {c B : Nat} {a b : World} (h : Kp c a b) (hB : B ≤ c) (hs : B ≤ a.heap.size) : Below B a b := ⟨h.os, h.tape, h.output, h.size, fun k hk => h.block k (by omega) (by omega)⟩
theorem Kp.cell {c : Nat} {w w' : World} (h : Kp c w w') {b o : Nat} (hb : b < w.heap.size) (hne : b ≠ c) : w'.cell? ⟨b, o, none⟩ = w.cell? ⟨b, o, none⟩ := World.cell?_of_block (w := w) (h.block b hb hne)
theorem Kp.frozen {c : Nat} {w w' : World} (h : Kp c w w') {b o : Nat} (hb : b < w.heap.size) (hne : b ≠ c) : w'.frozen? ⟨b, o, none⟩ = w.frozen? ⟨b, o, none⟩ := World.frozen?_of_block (w := w) (h.block b hb hne)
theorem Kp.drewN {c : Nat} {a w : World} (h : Kp c a w) (n : Nat) : Kp c a (w.drewN n) := ⟨h.os, h.tape, h.output, h.size, h.block⟩
theorem Kp.setCell {c : Nat} {a w : World} (h : Kp c a w) (o : Nat) (v : Value) : Kp c a (w.setCell ⟨c, o, none⟩ v) :=
  ⟨h.os, h.tape, h.output, by simpa using h.size, fun k hk hne => (Below.heap_setCell w ⟨c, o, none⟩ v k hne).trans (h.block k hk hne)⟩

/-- The bytes that the cursor reads lie in old memory. -/
def Bytes (w : World) (a : Option Addr) (len : Nat) : Prop := len = 0 ∨ ∃ b off, a = some ⟨b, off, none⟩ ∧ ∀ i, i < len → ∃ z : Int, w.cell? ⟨b, off + i, none⟩ = some (.int .u8 z) ∧ 0 ≤ z ∧ z ≤ 255
/-- A cursor lies in block c; it has read at most N bytes. -/
def Cur (w : World) (c : Nat) (a : Option Addr) (len cap N : Nat) : Prop :=
  c < w.heap.size ∧ w.cell? ⟨c, 0, none⟩ = some (.slice a len cap) ∧ (∃ at_ : Nat, w.cell? ⟨c, 1, none⟩ = some (.int .i64 at_) ∧ at_ ≤ N) ∧ (∃ s : Int, w.cell? ⟨c, 2, none⟩ = some (.int .u64 s) ∧ 0 ≤ s ∧ s < 18446744073709551616) ∧
  w.frozen? ⟨c, 1, none⟩ = false ∧ w.frozen? ⟨c, 2, none⟩ = false ∧ Bytes w a len ∧ (∀ b off, a = some ⟨b, off, none⟩ → 0 < len → b ≠ c ∧ b < w.heap.size)

theorem u64_bd (x : Int) : 0 ≤ IntKind.u64.wrap x ∧ IntKind.u64.wrap x < 18446744073709551616 := by
  simp [IntKind.wrap, IntKind.bits, IntKind.signed]; omega

theorem and255 (E : Int) (h0 : 0 ≤ E) (h1 : E ≤ 18446744073709551615) : 0 ≤ wrap64 (bits BinOp.and IntKind.u64 E 255) ∧ wrap64 (bits BinOp.and IntKind.u64 E 255) ≤ 255 := by
  have h := bits_and_u64_nat E.toNat 255 (by omega) (by omega)
  rw [show (255 : Nat) = 2 ^ 8 - 1 by decide, Nat.and_two_pow_sub_one_eq_mod, Int.toNat_of_nonneg h0] at h
  have h2 : bits BinOp.and IntKind.u64 E 255 = ((E.toNat % 2 ^ 8 : Nat) : Int) := h
  rw [h2, wrap_id _ (by omega) (by omega)]
  omega

set_option maxRecDepth 100000 in
set_option maxHeartbeats 1000000 in
theorem next_in (c b off len cap at_ : Nat) (s z : Int) (w : World) (h0 : w.cell? ⟨c, 0, none⟩ = some (.slice (some ⟨b, off, none⟩) len cap)) (h1 : w.cell? ⟨c, 1, none⟩ = some (.int .i64 at_)) (h2 : w.cell? ⟨c, 2, none⟩ = some (.int .u64 s))
    (f1 : w.frozen? ⟨c, 1, none⟩ = false) (f2 : w.frozen? ⟨c, 2, none⟩ = false) (hN : at_ ≤ 1000000000) (hlt : at_ < len) (hz : w.cell? ⟨b, off + at_, none⟩ = some (.int .u8 z)) (z0 : 0 ≤ z) (z1 : z ≤ 255) :
    Calls Try.prog 60 #[.pointer (some ⟨c, 0, none⟩)] w fun e w' => e = .returned (.int .i64 z) ∧ ∃ k k' s', 0 ≤ s' ∧ s' < 18446744073709551616 ∧ w' = ((((w.drewN k).setCell ⟨c, 1, none⟩ (.int .i64 ((at_ : Int) + 1))).setCell ⟨c, 2, none⟩ (.int .u64 s')).drewN k') := by
  have i0 : (0 : Int) ≤ (at_ : Int) := by omega
  have i1 : (at_ : Int) < (len : Int) := by omega
  go_enter Try.func60, Try.ntmps60
  go_wp2
  go_quiet (fail)
  go_wp2
  go_quiet (fail)
  go_wp2
  go_quiet (fail)
  go_wp2
  go_ret
  exact ⟨rfl, _, _, _, (u64_bd _).1, (u64_bd _).2, rfl⟩

set_option maxRecDepth 100000 in
set_option maxHeartbeats 1000000 in
theorem next_out (c len cap at_ : Nat) (a : Option Addr) (s : Int) (w : World) (h0 : w.cell? ⟨c, 0, none⟩ = some (.slice a len cap)) (h1 : w.cell? ⟨c, 1, none⟩ = some (.int .i64 at_)) (h2 : w.cell? ⟨c, 2, none⟩ = some (.int .u64 s))
    (f1 : w.frozen? ⟨c, 1, none⟩ = false) (f2 : w.frozen? ⟨c, 2, none⟩ = false) (hN : at_ ≤ 1000000000) (hlt : len ≤ at_) :
    Calls Try.prog 60 #[.pointer (some ⟨c, 0, none⟩)] w fun e w' => ∃ z : Int, e = .returned (.int .i64 z) ∧ 0 ≤ z ∧ z ≤ 255 ∧ ∃ k k' s', 0 ≤ s' ∧ s' < 18446744073709551616 ∧ w' = ((((w.drewN k).setCell ⟨c, 1, none⟩ (.int .i64 ((at_ : Int) + 1))).setCell ⟨c, 2, none⟩ (.int .u64 s')).drewN k') := by
  have i1 : ¬ (at_ : Int) < (len : Int) := by omega
  have i2 : ¬ (at_ : Int) + 1 ≤ (len : Int) := by omega
  go_enter Try.func60, Try.ntmps60
  go_wp2
  go_quiet (fail)
  go_wp2
  go_quiet (fail)
  go_wp2
  have hq := u64_bd (IntKind.u64.wrap (IntKind.u64.wrap (s * 6364136223846793005)) + 1442695040888963407)
  have hb := and255 (IntKind.u64.wrap (IntKind.u64.wrap (IntKind.u64.wrap (s * 6364136223846793005)) + 1442695040888963407) / 1099511627776) (by omega) (by omega)
  go_ret
  exact ⟨_, rfl, hb.1, hb.2, _, _, _, hq.1, hq.2, rfl⟩

/-- What 'next' leaves behind. -/
theorem cur_next {c len cap at_ N k k' : Nat} {a : Option Addr} {s' : Int} {w : World} (hc : Cur w c a len cap N) (hN : at_ ≤ N) (hs0 : 0 ≤ s') (hs1 : s' < 18446744073709551616) :
    Cur ((((w.drewN k).setCell ⟨c, 1, none⟩ (.int .i64 ((at_ : Int) + 1))).setCell ⟨c, 2, none⟩ (.int .u64 s')).drewN k') c a len cap (N + 1) ∧ Kp c w ((((w.drewN k).setCell ⟨c, 1, none⟩ (.int .i64 ((at_ : Int) + 1))).setCell ⟨c, 2, none⟩ (.int .u64 s')).drewN k') := by
  obtain ⟨h0, h1, ⟨x, h2, _⟩, ⟨y, h3, _, _⟩, h4, h5, h6, h7⟩ := hc
  have hk : Kp c w ((((w.drewN k).setCell ⟨c, 1, none⟩ (.int .i64 ((at_ : Int) + 1))).setCell ⟨c, 2, none⟩ (.int .u64 s')).drewN k') := ((((Kp.refl c w).drewN k).setCell _ _).setCell _ _).drewN k'
  refine ⟨⟨?_, ?_, ⟨at_ + 1, ?_, by omega⟩, ⟨s', ?_, hs0, hs1⟩, ?_, ?_, ?_, ?_⟩, hk⟩
  · exact Nat.lt_of_lt_of_le h0 hk.size
  · simpa [go_sem] using h1
  · simp [go_sem, h2]
  · simp [go_sem, h3]
  · simpa [go_sem] using h4
  · simpa [go_sem] using h5
  · rcases h6 with h | ⟨b, off, rfl, hb⟩
    · exact Or.inl h
    · refine Or.inr ⟨b, off, rfl, fun i hi => ?_⟩
      obtain ⟨hne, hlt⟩ := h7 b off rfl (by omega)
      obtain ⟨z, hz, hz'⟩ := hb i hi
      exact ⟨z, (hk.cell hlt hne).trans hz, hz'⟩
  · intro b off e hl
    obtain ⟨hne, hlt⟩ := h7 b off e hl
    exact ⟨hne, Nat.lt_of_lt_of_le hlt hk.size⟩

theorem next_any {c len cap N : Nat} {a : Option Addr} {w : World} (hc : Cur w c a len cap N) (hN : N ≤ 1000000000) :
    Calls Try.prog 60 #[.pointer (some ⟨c, 0, none⟩)] w fun e w' => ∃ z : Int, e = .returned (.int .i64 z) ∧ 0 ≤ z ∧ z ≤ 255 ∧ Cur w' c a len cap (N + 1) ∧ Kp c w w' := by
  have hc' := hc
  obtain ⟨h0, h1, ⟨at_, h2, h2'⟩, ⟨y, h3, h3', h3''⟩, h4, h5, h6, h7⟩ := hc
  by_cases hlt : at_ < len
  · rcases h6 with h | ⟨b, off, rfl, hb⟩
    · omega
    · obtain ⟨z, hz, z0, z1⟩ := hb at_ hlt
      refine (next_in c b off len cap at_ y z w h1 h2 h3 h4 h5 (by omega) hlt hz z0 z1).mono ?_
      rintro e w' ⟨rfl, k, k', s', s0, s1, rfl⟩
      exact ⟨z, rfl, z0, z1, cur_next hc' h2' s0 s1⟩
  · refine (next_out c len cap at_ a y w h1 h2 h3 h4 h5 (by omega) (by omega)).mono ?_
    rintro e w' ⟨z, rfl, z0, z1, k, k', s', s0, s1, rfl⟩
    exact ⟨z, rfl, z0, z1, cur_next hc' h2' s0 s1⟩
end Go.Proofs.Ytnchkgblpnompaa
namespace Go.Proofs.Ytnchkgblpnompaa
open Go.RowKit

theorem Cur.below {w w' : World} {c len cap N : Nat} {a : Option Addr} (h : Cur w c a len cap N) (hb : Below w.heap.size w w') : Cur w' c a len cap N := by
  obtain ⟨h0, h1, ⟨x, h2, h2'⟩, ⟨y, h3, h3', h3''⟩, h4, h5, h6, h7⟩ := h
  obtain ⟨hc, hf⟩ := bcell hb
  refine ⟨Nat.lt_of_lt_of_le h0 hb.size, (hc _ _ h0).trans h1, ⟨x, (hc _ _ h0).trans h2, h2'⟩, ⟨y, (hc _ _ h0).trans h3, h3', h3''⟩, (hf _ _ h0).trans h4, (hf _ _ h0).trans h5, ?_, ?_⟩
  · rcases h6 with h | ⟨b, off, rfl, hbb⟩
    · exact Or.inl h
    · refine Or.inr ⟨b, off, rfl, fun i hi => ?_⟩
      obtain ⟨hne, hlt⟩ := h7 b off rfl (by omega)
      obtain ⟨z, hz, hz'⟩ := hbb i hi
      exact ⟨z, (hc _ _ hlt).trans hz, hz'⟩
  · intro b off e hl
    obtain ⟨hne, hlt⟩ := h7 b off e hl
    exact ⟨hne, Nat.lt_of_lt_of_le hlt hb.size⟩
theorem Cur.le {w : World} {c len cap N M : Nat} {a : Option Addr} (h : Cur w c a len cap N) (hNM : N ≤ M) : Cur w c a len cap M := by
  obtain ⟨h0, h1, ⟨x, h2, h2'⟩, h3, h4, h5, h6, h7⟩ := h
  exact ⟨h0, h1, ⟨x, h2, by omega⟩, h3, h4, h5, h6, h7⟩

set_option maxRecDepth 100000 in
set_option maxHeartbeats 400000 in
theorem pick_one {c len cap N : Nat} {a : Option Addr} {w : World} (n : Int) (h : n ≤ 1) (hc : Cur w c a len cap N) :
    Calls Try.prog 43 #[.pointer (some ⟨c, 0, none⟩), .int .i64 n] w fun e w' => ∃ r : Int, e = .returned (.int .i64 r) ∧ 0 ≤ r ∧ (r < n ∨ r = 0) ∧ Cur w' c a len cap (N + 2) ∧ Kp c w w' := by
  have HC := hide hc
  clear hc
  go_enter Try.func43, Try.ntmps43
  go_wp2_with fail
  go_ret
  exact ⟨0, rfl, by omega, by omega, HC.out.le (by omega), Kp.refl _ _⟩

set_option maxRecDepth 100000 in
set_option maxHeartbeats 400000 in
theorem pick_mid {c len cap N : Nat} {a : Option Addr} {w : World} (n : Int) (h0 : 1 < n) (h1 : n ≤ 200) (hc : Cur w c a len cap N) (hN : N ≤ 900000000) :
    Calls Try.prog 43 #[.pointer (some ⟨c, 0, none⟩), .int .i64 n] w fun e w' => ∃ r : Int, e = .returned (.int .i64 r) ∧ 0 ≤ r ∧ (r < n ∨ r = 0) ∧ Cur w' c a len cap (N + 2) ∧ Kp c w w' := by
  have HC := hide hc
  clear hc
  have h2 : ¬ n ≤ 1 := by omega
  have h3 : ¬ 200 < n := by omega
  have hne : (n == 0) = false := by simp; omega
  go_enter Try.func43, Try.ntmps43
  go_wp2_with fail
  refine (next_any HC.out (by omega)).mono ?_
  rintro e w1 ⟨z, rfl, z0, z1, hc1, hk1⟩
  have HC1 := hide hc1
  clear hc1
  have hr0 := Int.emod_nonneg z (show n ≠ 0 by omega)
  have hr1 := Int.emod_lt_of_pos z (show 0 < n by omega)
  go_wp2_with fail
  go_ret
  exact ⟨_, rfl, hr0, Or.inl hr1, HC1.out.le (by omega), hk1⟩

set_option maxRecDepth 100000 in
set_option maxHeartbeats 400000 in
theorem pick_big {c len cap N : Nat} {a : Option Addr} {w : World} (n : Int) (h0 : 200 < n) (h1 : n ≤ 1000000000) (hc : Cur w c a len cap N) (hN : N ≤ 900000000) :
    Calls Try.prog 43 #[.pointer (some ⟨c, 0, none⟩), .int .i64 n] w fun e w' => ∃ r : Int, e = .returned (.int .i64 r) ∧ 0 ≤ r ∧ (r < n ∨ r = 0) ∧ Cur w' c a len cap (N + 2) ∧ Kp c w w' := by
  have HC := hide hc
  clear hc
  have h2 : ¬ n ≤ 1 := by omega
  have hne : (n == 0) = false := by simp; omega
  go_enter Try.func43, Try.ntmps43
  go_wp2_with fail
  refine (next_any HC.out (by omega)).mono ?_
  rintro e w1 ⟨z, rfl, z0, z1, hc1, hk1⟩
  have HC1 := hide hc1
  clear hc1
  go_wp2_with fail
  refine (next_any HC1.out (by omega)).mono ?_
  rintro e w2 ⟨y, rfl, y0, y1, hc2, hk2⟩
  have HC2 := hide hc2
  clear hc2
  have hr0 := Int.emod_nonneg (z * 256 + y) (show n ≠ 0 by omega)
  have hr1 := Int.emod_lt_of_pos (z * 256 + y) (show 0 < n by omega)
  go_wp2_with fail
  go_ret
  exact ⟨_, rfl, hr0, Or.inl hr1, HC2.out, hk1.trans hk2⟩

theorem pick_any {c len cap N : Nat} {a : Option Addr} {w : World} (n : Int) (h1 : n ≤ 1000000000) (hc : Cur w c a len cap N) (hN : N ≤ 900000000) :
    Calls Try.prog 43 #[.pointer (some ⟨c, 0, none⟩), .int .i64 n] w fun e w' => ∃ r : Int, e = .returned (.int .i64 r) ∧ 0 ≤ r ∧ (r < n ∨ r = 0) ∧ Cur w' c a len cap (N + 2) ∧ Kp c w w' := by
  by_cases ha : n ≤ 1
  · exact pick_one n ha hc
  · by_cases hb : n ≤ 200
    · exact pick_mid n (by omega) hb hc hN
    · exact pick_big n (by omega) h1 hc hN

set_option maxRecDepth 100000 in
set_option maxHeartbeats 400000 in
theorem one_any {c len cap N : Nat} {a : Option Addr} {w : World} (n : Int) (h1 : n ≤ 1000000000) (hc : Cur w c a len cap N) (hN : N ≤ 900000000) :
    Calls Try.prog 42 #[.pointer (some ⟨c, 0, none⟩), .int .i64 n] w fun e w' => ∃ r : Bool, e = .returned (.bool r) ∧ Cur w' c a len cap (N + 2) ∧ Kp c w w' := by
  have HC := hide hc
  clear hc
  go_enter Try.func42, Try.ntmps42
  go_wp2_with fail
  refine (pick_any n h1 HC.out hN).mono ?_
  rintro e w1 ⟨r, rfl, r0, r1, hc1, hk1⟩
  go_wp2_with fail
  go_ret
  exact ⟨_, rfl, hc1, hk1⟩

set_option maxRecDepth 100000 in
set_option maxHeartbeats 400000 in
theorem among_any {c len cap N b l k : Nat} {a : Option Addr} {w : World} (hc : Cur w c a len cap N) (hN : N ≤ 900000000) (hl : 0 < l) (hl1 : l ≤ 1000000) (hb : b < w.heap.size) (hne : b ≠ c)
    (hz : ∀ i, i < l → ∃ z : Int, w.cell? ⟨b, i, none⟩ = some (.int .i64 z)) :
    Calls Try.prog 59 #[.pointer (some ⟨c, 0, none⟩), .slice (some ⟨b, 0, none⟩) l k] w fun e w' => ∃ r : Int, e = .returned (.int .i64 r) ∧ Cur w' c a len cap (N + 2) ∧ Kp c w w' := by
  have HC := hide hc
  have HZ := hide hz
  clear hc hz
  go_enter Try.func59, Try.ntmps59
  go_wp2_with fail
  refine (pick_any (l : Int) (by omega) HC.out hN).mono ?_
  rintro e w1 ⟨r, rfl, r0, r1, hc1, hk1⟩
  have HC1 := hide hc1
  clear hc1
  obtain ⟨i, rfl⟩ := Int.eq_ofNat_of_zero_le r0
  have hi : i < l := by omega
  have hi' : (i : Int) < (l : Int) := by omega
  obtain ⟨z, hcell⟩ := HZ.out i hi
  have hcell' : w1.cell? ⟨b, i, none⟩ = some (.int .i64 z) := (hk1.cell hb hne).trans hcell
  clear r1
  go_wp2_with fail
  go_ret
  exact ⟨_, rfl, HC1.out, hk1⟩
end Go.Proofs.Ytnchkgblpnompaa
namespace Go.Proofs.Ytnchkgblpnompaa
open Go.RowKit

theorem Kp.alloc {c : Nat} {a w : World} (h : Kp c a w) (o : Obj) : Kp c a (w.alloc o) := h.trans (Kp.of_below (below_alloc w o))
theorem Kp.setNew {c B : Nat} {a w : World} (h : Kp c a w) (hB : a.heap.size ≤ B) (o : Nat) (v : Value) : Kp c a (w.setCell ⟨B, o, none⟩ v) :=
  ⟨h.os, h.tape, h.output, by simpa using h.size, fun k hk hne => (Below.heap_setCell w ⟨B, o, none⟩ v k (by show k ≠ B; omega)).trans (h.block k hk hne)⟩
theorem Cur.set {w : World} {c len cap N B o : Nat} {a : Option Addr} {v : Value} (h : Cur w c a len cap N) (hB : B ≠ c) (hb : ∀ b off, a = some ⟨b, off, none⟩ → 0 < len → b ≠ B) : Cur (w.setCell ⟨B, o, none⟩ v) c a len cap N := by
  obtain ⟨h0, h1, ⟨x, h2, h2'⟩, ⟨y, h3, h3', h3''⟩, h4, h5, h6, h7⟩ := h
  have hc : ∀ i j, i ≠ B → (w.setCell ⟨B, o, none⟩ v).cell? ⟨i, j, none⟩ = w.cell? ⟨i, j, none⟩ := fun i j hi => World.cell?_of_block (w := w) (Below.heap_setCell w ⟨B, o, none⟩ v i hi)
  have hf : ∀ x, (w.setCell ⟨B, o, none⟩ v).frozen? x = w.frozen? x := fun x => World.frozen?_setCell _ _ _ _
  refine ⟨by simpa using h0, (hc _ _ (Ne.symm hB)).trans h1, ⟨x, (hc _ _ (Ne.symm hB)).trans h2, h2'⟩, ⟨y, (hc _ _ (Ne.symm hB)).trans h3, h3', h3''⟩, (hf _).trans h4, (hf _).trans h5, ?_, ?_⟩
  · rcases h6 with h | ⟨b, off, rfl, hbb⟩
    · exact Or.inl h
    · refine Or.inr ⟨b, off, rfl, fun i hi => ?_⟩
      obtain ⟨z, hz, hz'⟩ := hbb i hi
      exact ⟨z, (hc _ _ (hb b off rfl (by omega))).trans hz, hz'⟩
  · intro b off e hl
    obtain ⟨hne, hlt⟩ := h7 b off e hl
    exact ⟨hne, by simpa using hlt⟩
theorem Kp.var {c : Nat} {W w1 : World} (hk : Kp c W w1) (b : Nat) (hb : b < W.heap.size) (hne : b ≠ c) (v0 v1 : Value) (h0 : W.cell? ⟨b, 0, none⟩ = some v0) (h1 : W.cell? ⟨b, 1, none⟩ = some v1) (h2 : W.frozen? ⟨b, 0, none⟩ = false) (h3 : W.frozen? ⟨b, 1, none⟩ = false) :
    w1.cell? ⟨b, 0, none⟩ = some v0 ∧ w1.cell? ⟨b, 1, none⟩ = some v1 ∧ w1.frozen? ⟨b, 0, none⟩ = false ∧ w1.frozen? ⟨b, 1, none⟩ = false :=
  ⟨(hk.cell hb hne).trans h0, (hk.cell hb hne).trans h1, (hk.frozen hb hne).trans h2, (hk.frozen hb hne).trans h3⟩
theorem six_cells (w : World) (t : TypeId) (z0 z1 z2 z3 z4 z5 : Int) : ∀ i, i < 6 → ∃ z : Int, (w.alloc (.cells #[.int .i64 z0, .int .i64 z1, .int .i64 z2, .int .i64 z3, .int .i64 z4, .int .i64 z5] t)).cell? ⟨w.heap.size, i, none⟩ = some (.int .i64 z) := by
  intro i hi
  have : i = 0 ∨ i = 1 ∨ i = 2 ∨ i = 3 ∨ i = 4 ∨ i = 5 := by omega
  rcases this with rfl | rfl | rfl | rfl | rfl | rfl
  · exact ⟨z0, by simp⟩
  · exact ⟨z1, by simp⟩
  · exact ⟨z2, by simp⟩
  · exact ⟨z3, by simp⟩
  · exact ⟨z4, by simp⟩
  · exact ⟨z5, by simp⟩

/-- Bytes that were handed in: they lie in old memory. -/
def Src (w : World) (a : Option Addr) (len : Nat) : Prop := Bytes w a len ∧ ∀ b off, a = some ⟨b, off, none⟩ → 0 < len → b < w.heap.size
theorem Src.below {w w' : World} {a : Option Addr} {len : Nat} (h : Src w a len) (hb : Below w.heap.size w w') : Src w' a len := by
  obtain ⟨h6, h7⟩ := h
  obtain ⟨hc, _⟩ := bcell hb
  refine ⟨?_, fun b off e hl => Nat.lt_of_lt_of_le (h7 b off e hl) hb.size⟩
  rcases h6 with h | ⟨b, off, rfl, hbb⟩
  · exact Or.inl h
  · refine Or.inr ⟨b, off, rfl, fun i hi => ?_⟩
    obtain ⟨z, hz, hz'⟩ := hbb i hi
    exact ⟨z, (hc _ _ (h7 b off rfl (by omega))).trans hz, hz'⟩
theorem cur_new {w : World} {a : Option Addr} {len cap : Nat} (h : Src w a len) : Cur (w.alloc (.cells #[.slice a len cap, .int .i64 0, .int .u64 0] 55)) w.heap.size a len cap 0 := by
  have h' := h.below (below_alloc w (.cells #[.slice a len cap, .int .i64 0, .int .u64 0] 55))
  exact ⟨by simp, by simp, ⟨0, by simp, Nat.le_refl _⟩, ⟨0, by simp, by omega, by omega⟩, by simp [go_sem], by simp [go_sem], h'.1, fun b off e hl => ⟨by have := h.2 b off e hl; omega, h'.2 b off e hl⟩⟩

end Go.Proofs.Ytnchkgblpnompaa
namespace Go.Proofs.Ytnchkgblpnompaa
open Go.RowKit

theorem own_far {w : World} {base e s n k : Nat} {v : Value} {xs : List Value} (h : w.ownsRow base e s v n xs) (hk : k < base) : some k ≠ v.ownBlock := by
  rcases h.2 with ⟨rfl, _⟩ | ⟨g, cap, cur, rfl, hb, _⟩
  · simp [Value.ownBlock]
  · simp [Value.ownBlock]; omega
theorem own_some {w : World} {base e s n : Nat} {v : Value} {xs : List Value} (h : w.ownsRow base e s v n xs) (hn : n ≠ 0) : ∃ g cap, v = .slice (some ⟨g, 0, none⟩) n cap ∧ base ≤ g ∧ g < w.heap.size := by
  rcases h.2 with ⟨_, h0⟩ | ⟨g, cap, cur, hv, hb, hg, _⟩
  · exact absurd h0 hn
  · exact ⟨g, cap, hv, hb, (Array.getElem?_eq_some_iff.1 hg).1⟩
theorem Cur.blocks {w w' : World} {c len cap N : Nat} {a : Option Addr} (h : Cur w c a len cap N) (hs : w.heap.size ≤ w'.heap.size) (hc : w'.heap[c]? = w.heap[c]?)
    (hb : ∀ b off, a = some ⟨b, off, none⟩ → 0 < len → w'.heap[b]? = w.heap[b]?) : Cur w' c a len cap N := by
  obtain ⟨h0, h1, ⟨x, h2, h2'⟩, ⟨y, h3, h3', h3''⟩, h4, h5, h6, h7⟩ := h
  have ec : ∀ o, w'.cell? ⟨c, o, none⟩ = w.cell? ⟨c, o, none⟩ := fun o => World.cell?_of_block (w := w) hc
  have ef : ∀ o, w'.frozen? ⟨c, o, none⟩ = w.frozen? ⟨c, o, none⟩ := fun o => World.frozen?_of_block (w := w) hc
  refine ⟨Nat.lt_of_lt_of_le h0 hs, (ec 0).trans h1, ⟨x, (ec 1).trans h2, h2'⟩, ⟨y, (ec 2).trans h3, h3', h3''⟩, (ef 1).trans h4, (ef 2).trans h5, ?_, ?_⟩
  · rcases h6 with h | ⟨b, off, rfl, hbb⟩
    · exact Or.inl h
    · refine Or.inr ⟨b, off, rfl, fun i hi => ?_⟩
      obtain ⟨z, hz, hz'⟩ := hbb i hi
      exact ⟨z, (World.cell?_of_block (w := w) (hb b off rfl (by omega))).trans hz, hz'⟩
  · intro b off e hl
    obtain ⟨hne, hlt⟩ := h7 b off e hl
    exact ⟨hne, Nat.lt_of_lt_of_le hlt hs⟩
theorem Cur.old {w : World} {c len cap N : Nat} {a : Option Addr} (h : Cur w c a len cap N) : ∀ b off, a = some ⟨b, off, none⟩ → 0 < len → b < w.heap.size := fun b off e hl => (h.2.2.2.2.2.2.2 b off e hl).2
theorem own_kp {w w' : World} {c base e s n : Nat} {v : Value} {xs : List Value} (h : w.ownsRow base e s v n xs) (hk : Kp c w w') (hc : c < base) : w'.ownsRow base e s v n xs := by
  refine ⟨h.1, ?_⟩
  rcases h.2 with h0 | ⟨g, cap, cur, hv, hb, hg, r⟩
  · exact Or.inl h0
  · exact Or.inr ⟨g, cap, cur, hv, hb, (hk.block g (Array.getElem?_eq_some_iff.1 hg).1 (by omega)).trans hg, r⟩
theorem kp_set {w w3 : World} {c g o : Nat} {v : Value} (h : Kp c w w3) (hg : w.heap.size ≤ g) : Kp c w (w3.setCell ⟨g, o, none⟩ v) := h.setNew hg o v
theorem cur_set {w w3 : World} {c g o len cap N : Nat} {a : Option Addr} {v : Value} (hc : Cur w3 c a len cap N) (hcw : c < w.heap.size) (hold : ∀ b off, a = some ⟨b, off, none⟩ → 0 < len → b < w.heap.size) (hg : w.heap.size ≤ g) : Cur (w3.setCell ⟨g, o, none⟩ v) c a len cap N :=
  hc.set (by omega) (fun b off e hl => by have := hold b off e hl; omega)
set_option maxRecDepth 100000 in
set_option maxHeartbeats 400000 in
theorem amongB_any {c len cap N b l k : Nat} {lo hi : Int} {a : Option Addr} {w : World} (hc : Cur w c a len cap N) (hN : N ≤ 900000000) (hl : 0 < l) (hl1 : l ≤ 1000000) (hb : b < w.heap.size) (hne : b ≠ c)
    (hz : ∀ i, i < l → ∃ z : Int, w.cell? ⟨b, i, none⟩ = some (.int .i64 z) ∧ lo ≤ z ∧ z ≤ hi) :
    Calls Try.prog 59 #[.pointer (some ⟨c, 0, none⟩), .slice (some ⟨b, 0, none⟩) l k] w fun e w' => ∃ r : Int, e = .returned (.int .i64 r) ∧ lo ≤ r ∧ r ≤ hi ∧ Cur w' c a len cap (N + 2) ∧ Kp c w w' := by
  have HC := hide hc
  have HZ := hide hz
  clear hc hz
  go_enter Try.func59, Try.ntmps59
  go_wp2_with fail
  refine (pick_any (l : Int) (by omega) HC.out hN).mono ?_
  rintro e w1 ⟨r, rfl, r0, r1, hc1, hk1⟩
  have HC1 := hide hc1
  clear hc1
  obtain ⟨i, rfl⟩ := Int.eq_ofNat_of_zero_le r0
  have hi : i < l := by omega
  have hi' : (i : Int) < (l : Int) := by omega
  obtain ⟨z, hcell, z0, z1⟩ := HZ.out i hi
  have hcell' : w1.cell? ⟨b, i, none⟩ = some (.int .i64 z) := (hk1.cell hb hne).trans hcell
  clear r1
  go_wp2_with fail
  go_ret
  exact ⟨_, rfl, z0, z1, HC1.out, hk1⟩
theorem three_cells (w : World) (t : TypeId) {z0 z1 z2 lo hi : Int} (h0 : lo ≤ z0 ∧ z0 ≤ hi) (h1 : lo ≤ z1 ∧ z1 ≤ hi) (h2 : lo ≤ z2 ∧ z2 ≤ hi) : ∀ i, i < 3 → ∃ z : Int, (w.alloc (.cells #[.int .i64 z0, .int .i64 z1, .int .i64 z2] t)).cell? ⟨w.heap.size, i, none⟩ = some (.int .i64 z) ∧ lo ≤ z ∧ z ≤ hi := by
  intro i hi
  have : i = 0 ∨ i = 1 ∨ i = 2 := by omega
  rcases this with rfl | rfl | rfl
  · exact ⟨z0, by simp, h0⟩
  · exact ⟨z1, by simp, h1⟩
  · exact ⟨z2, by simp, h2⟩
theorem kp_push {w w3 w4 : World} {c e s n : Nat} {v : Value} {xs : List Value} (h : Kp c w w3) (own : w3.ownsRow w.heap.size e s v n xs) (hg : w3.grownBy w4 v.ownBlock) : Kp c w w4 := by
  have hz := h.size
  refine ⟨hg.os.trans h.os, hg.tape.trans h.tape, hg.output.trans h.output, by have := hg.size; omega, fun k hk hne => ?_⟩
  rw [hg.block k (by omega) (own_far own hk)]
  exact h.block k hk hne
theorem cur_push {w w3 w4 : World} {c e s n len cap N : Nat} {a : Option Addr} {v : Value} {xs : List Value} (hc : Cur w3 c a len cap N) (hcw : c < w.heap.size) (hold : ∀ b off, a = some ⟨b, off, none⟩ → 0 < len → b < w.heap.size) (hs : w.heap.size ≤ w3.heap.size)
    (own : w3.ownsRow w.heap.size e s v n xs) (hg : w3.grownBy w4 v.ownBlock) : Cur w4 c a len cap N := by
  have blk : ∀ k, k < w.heap.size → w4.heap[k]? = w3.heap[k]? := fun k hk => hg.block k (by omega) (own_far own hk)
  exact hc.blocks (by have := hg.size; omega) (blk c hcw) (fun b off e hl => blk b (hold b off e hl))
/-- One number more, and where the list lies then. -/
theorem push_lies {w : World} {base n : Nat} {v : Value} {xs : List Value} {x : Int} (hown : w.ownsRow base 3 1 v n xs) (hn : n ≤ 100000) (hb : base ≤ w.heap.size) :
    ∃ g cap w', (∀ ty, (Builtin.append_ #[23, 23] ty #[v, .slice (some ⟨w.heap.size, 0, none⟩) 1 1]).run Try.prog (w.alloc (.cells #[.int .i64 x] 3)) = .ok (.slice (some ⟨g, 0, none⟩) (n + 1) cap) w') ∧ w'.ownsRow base 3 1 (.slice (some ⟨g, 0, none⟩) (n + 1) cap) (n + 1) (xs ++ [.int .i64 x]) ∧ w.grownBy w' v.ownBlock ∧ (v.ownBlock = some g ∨ w.heap.size ≤ g) := by
  obtain ⟨i0, hi, hz0, hz1, hz2⟩ := infoI
  obtain ⟨g, cap, w', h1, h2, h3, h4, _⟩ := run_append_lies (P := Try.prog) (w := w.alloc (.cells #[.int .i64 x] 3)) 23 0 base 3 i0 _ 1 8 Try.underlying23 hi hz0 hz1 hz2 rfl (by decide) v n xs (hown.alloc _) ⟨w.heap.size, 0, none⟩ 1 1 [.int .i64 x] rfl (fun j u hj => by
      rcases vrow_new w (.int .i64 x) 3 with h | ⟨b, off, e, _, hc⟩
      · cases h
      · cases e; rw [add_plain']; exact hc j u hj) (fun u hu => by simp at hu; subst hu; rfl) (by omega) (by unfold maxLen; omega) (by omega) (by simp; omega) _ rfl
  refine ⟨g, cap, w', fun _ => h1, h2, ?_, ?_⟩
  · have hg := World.grownBy_alloc w (.cells #[.int .i64 x] 3) v.ownBlock
    exact ⟨h3.os.trans hg.os, h3.tape.trans hg.tape, h3.output.trans hg.output, Nat.le_trans hg.size h3.size, fun b hb hne => (h3.block b (Nat.lt_of_lt_of_le hb hg.size) hne).trans (hg.block b hb hne)⟩
  · rcases h4 with h | h
    · exact Or.inl h
    · right; simp at h; omega
theorem own_cap {w : World} {base n : Nat} {v : Value} {xs : List Int} (hx : xs.length = n) (h : w.ownsRow base 3 1 v n (ints xs)) : ∃ a cap, v = .slice a n cap ∧ n ≤ cap ∧ ARow w a xs := by
  rcases h.2 with ⟨rfl, hn⟩ | ⟨g, cap, cur, rfl, _, _, hc, _⟩
  · subst hn; exact ⟨none, 0, rfl, Nat.le_refl _, Or.inl (List.length_eq_zero_iff.1 hx)⟩
  · exact ⟨_, _, rfl, hc, arow_owns hx.symm h⟩
end Go.Proofs.Ytnchkgblpnompaa
namespace Go.Proofs.Ytnchkgblpnompaa
open Go.RowKit

/-- Two lists apart. -/
def Aprt (v u : Value) : Prop := ∀ b, v.ownBlock = some b → u.ownBlock ≠ some b
theorem aprt_keep {w w' : World} {base e s n : Nat} {v u : Value} {xs : List Value} (h : w.ownsRow base e s u n xs) (hg : w.grownBy w' v.ownBlock) (hne : Aprt v u) : w'.ownsRow base e s u n xs := by
  refine h.kept hg ?_
  cases hb : u.ownBlock with
  | none => exact Or.inl rfl
  | some b => exact Or.inr fun e => hne b (e.symm) hb
theorem aprt_first {w : World} {base e s n g k cap : Nat} {v u : Value} {xs : List Value} (hu : w.ownsRow base e s u n xs) (hat : v.ownBlock = some g ∨ w.heap.size ≤ g) (hne : Aprt v u) : Aprt (.slice (some ⟨g, 0, none⟩) k cap) u := by
  intro b hb hub
  have hbg : g = b := by simpa [Value.ownBlock] using hb
  subst hbg
  rcases hat with h | h
  · exact hne _ h hub
  · have := (hu.lt _ hub).2; omega
theorem aprt_symm {v u : Value} (h : Aprt v u) : Aprt u v := fun b h1 h2 => h b h2 h1
end Go.Proofs.Ytnchkgblpnompaa
namespace Go.Proofs.Ytnchkgblpnompaa
open Go.RowKit

theorem nine_cells (w : World) (t : TypeId) : ∀ i, i < 9 → ∃ z : Int, (w.alloc (.cells #[.int .i64 1, .int .i64 3, .int .i64 5, .int .i64 7, .int .i64 9, .int .i64 10, .int .i64 11, .int .i64 12, .int .i64 20] t)).cell? ⟨w.heap.size, i, none⟩ = some (.int .i64 z) ∧ 0 ≤ z ∧ z ≤ 21 := by
  intro i hi
  have : i = 0 ∨ i = 1 ∨ i = 2 ∨ i = 3 ∨ i = 4 ∨ i = 5 ∨ i = 6 ∨ i = 7 ∨ i = 8 := by omega
  rcases this with rfl | rfl | rfl | rfl | rfl | rfl | rfl | rfl | rfl
  · exact ⟨1, by simp, by omega, by omega⟩
  · exact ⟨3, by simp, by omega, by omega⟩
  · exact ⟨5, by simp, by omega, by omega⟩
  · exact ⟨7, by simp, by omega, by omega⟩
  · exact ⟨9, by simp, by omega, by omega⟩
  · exact ⟨10, by simp, by omega, by omega⟩
  · exact ⟨11, by simp, by omega, by omega⟩
  · exact ⟨12, by simp, by omega, by omega⟩
  · exact ⟨20, by simp, by omega, by omega⟩
theorem two_cells12 (w : World) (t : TypeId) : ∀ i, i < 2 → ∃ z : Int, (w.alloc (.cells #[.int .i64 0, .int .i64 21] t)).cell? ⟨w.heap.size, i, none⟩ = some (.int .i64 z) ∧ 0 ≤ z ∧ z ≤ 21 := by
  intro i hi
  have : i = 0 ∨ i = 1 := by omega
  rcases this with rfl | rfl
  · exact ⟨0, by simp, by omega, by omega⟩
  · exact ⟨21, by simp, by omega, by omega⟩
def ItPost (w : World) (c : Nat) (a : Option Addr) (len cap M : Nat) (e : Ending) (w' : World) : Prop :=
  ∃ v xs, e = .returned v ∧ xs.length ≤ 10 ∧ w'.ownsRow w.heap.size 3 1 v xs.length (ints xs) ∧ Cur w' c a len cap M ∧ Kp c w w'
set_option maxRecDepth 100000 in
set_option maxHeartbeats 2000000 in
theorem items_any {c len cap N : Nat} {a : Option Addr} {w : World} (hc : Cur w c a len cap N) (hN : N ≤ 700000000) :
    Calls Try.prog 41 #[.pointer (some ⟨c, 0, none⟩)] w (ItPost w c a len cap (N + 80)) := by
  have hcw := hc.1
  have HOLD := hide hc.old
  have HC := hide hc
  clear hc
  go_enter Try.func41, Try.ntmps41
  go_wp2_with fail
  refine (pick_any 8 (by omega) HC.out (by omega)).mono ?_
  rintro e w1 ⟨r1, rfl, p0, p1, hc1, hk1⟩
  have HC1 := hide hc1
  have HK1 := hide hk1
  clear hc1 hk1
  go_upto_if 8 with (go_at_call 42; refine (one_any 20 (by omega) HC1.out (by omega)).mono ?_; rintro e w2 ⟨r2, rfl, hc2, hk2⟩; have HC2 := hide hc2; have HK2 := hide (HK1.out.trans hk2); clear hc2 hk2)
  go_cut [4] (fun s4 wc => ∃ k : Nat, s4 = .int .i64 k ∧ k ≤ 10 ∧ Hid (Cur wc c a len cap (N + 6)) ∧ Hid (Kp c w wc))
  case first =>
    cases r2
    · go_wp2_with fail
      go_meet
      case rel => exact ⟨r1.toNat, by congr 1; omega, by omega, hide (HC2.out.le (by omega)), HK2⟩
    · go_wp2_with fail
      refine (pick_any 2 (by omega) HC2.out (by omega)).mono ?_
      rintro e w3 ⟨r3, rfl, q0, q1, hc3, hk3⟩
      have HK3 := hide (HK2.out.trans hk3)
      have HC3 := hide hc3
      clear hc3 hk3
      go_wp2_with fail
      go_meet
      case rel => exact ⟨(9 + r3).toNat, by congr 1; omega, by omega, hide (HC3.out.le (by omega)), HK3⟩
  case rest =>
    obtain ⟨k0, rfl, hk0, HC4, HK4⟩ := hcut
    go_wp2_with fail
    go_loopw [3, 4] (fun v s wr => ∃ (k : Nat) (xs : List Int), s = .int .i64 k ∧ xs.length + k ≤ 10 ∧ wr.ownsRow w.heap.size 3 1 v xs.length (ints xs) ∧ Hid (Cur wr c a len cap (N + 6 + 4 * xs.length)) ∧ Hid (Kp c w wr)) (fun _ s _ => (intOf s).toNat)
    case atStart => exact ⟨k0, [], rfl, by simp; omega, World.ownsRow_nil _ _ _ _, hide (HC4.out.le (by simp)), HK4⟩
    case round =>
      obtain ⟨k, xs, rfl, hlen, hown, HCR, HKR⟩ := hrel
      have HO := hide hown
      clear hown HC HC1 HK1 HC2 HK2 HC4 HK4
      by_cases hk : 0 < k
      · have k1 : (0 : Int) < (k : Int) := by omega
        obtain ⟨av, cv, ev⟩ := own_form HO.out
        subst ev
        go_wp2_with fail
        refine (amongB_any (lo := 0) (hi := 21) (HCR.out.below (below_alloc wr _)) (by omega) (by omega) (by omega) (by simp) (by have := HCR.out.1; omega) (nine_cells wr 3)).mono ?_
        rintro e w3 ⟨z, rfl, z0, z1, hc3, hk3⟩
        have hk3' := (HKR.out.alloc _).trans hk3
        have own3 := own_kp (own_below HO.out (below_alloc wr _)) hk3 hcw
        obtain ⟨v', w4, hr4, own4, hg4⟩ := push_int (x := z) own3 (by omega) hk3'.size
        have HO4 : Hid (w4.ownsRow w.heap.size 3 1 v' (xs ++ [z]).length (ints (xs ++ [z]))) := hide (by rw [List.length_append, ints_snoc]; exact own4)
        have HK4 := hide (kp_push hk3' own3 hg4)
        have HC4 := hide (cur_push hc3 hcw HOLD.out hk3'.size own3 hg4)
        clear own3 own4 hg4 hc3 hk3 hk3' HO HCR HKR
        go_wp2_with (first | (at_builtin; refine Lib.wpList_append_run _ rfl _ _ _ _ rfl _ _ rfl rfl _ _ (hr4 _) ?_))
        go_roundw
        case rel => exact ⟨k - 1, xs ++ [z], by congr 1; omega, by rw [List.length_append]; simp only [List.length_cons, List.length_nil]; omega, HO4.out, hide (HC4.out.le (by rw [List.length_append]; simp only [List.length_cons, List.length_nil]; omega)), HK4⟩
        case measure => simp only [intOf]; omega
      · have k1 : ¬ (0 : Int) < (k : Int) := by omega
        by_cases hx0 : xs.length = 0
        · have hxi : ¬ (0 : Int) < (xs.length : Int) := by omega
          obtain ⟨av, cv, ev⟩ := own_form HO.out
          subst ev
          generalize hn : xs.length = n at *
          obtain rfl : n = 0 := hx0
          have HN := hide hn
          clear hn hxi
          go_wp2_with fail
          go_ret
          exact ⟨.slice av 0 cv, xs, rfl, by rw [HN.out]; omega, by rw [HN.out]; exact HO.out, HCR.out.le (by omega), HKR.out⟩
        · have hxi : (0 : Int) < (xs.length : Int) := by omega
          obtain ⟨g, cp, ev, hg0, hg1⟩ := own_some HO.out hx0
          subst ev
          generalize hn : xs.length = n at *
          have HN := hide hn
          clear hn
          go_wp2_with fail
          refine (one_any 30 (by omega) HCR.out (by omega)).mono ?_
          rintro e w3 ⟨r3, rfl, hc3, hk3⟩
          have HK3 := hide (HKR.out.trans hk3)
          have HC3 := hide hc3
          have HO3 := hide (own_kp HO.out hk3 hcw)
          clear hc3 hk3 HO HCR HKR
          cases r3
          · go_wp2_with fail
            go_ret
            exact ⟨.slice (some ⟨g, 0, none⟩) n cp, xs, rfl, by rw [HN.out]; omega, by rw [HN.out]; exact HO3.out, HC3.out.le (by omega), HK3.out⟩
          · go_wp2_with fail
            refine (amongB_any (lo := 0) (hi := 21) (HC3.out.below (below_alloc w3 _)) (by omega) (by omega) (by omega) (by simp) (by have := HC3.out.1; omega) (two_cells12 w3 3)).mono ?_
            rintro e w4 ⟨z, rfl, z0, z1, hc4, hk4⟩
            have hk4' := (HK3.out.alloc _).trans hk4
            have own4 := own_kp (own_below HO3.out (below_alloc w3 _)) hk4 hcw
            have q1 : w4.cell? ⟨g, 0, none⟩ = some (.int .i64 (xs.getD 0 0)) := by rw [own4.cellAt 0 (by omega), ints_get xs 0 (by rw [HN.out]; omega)]
            have q2 := own4.frozenAt 0
            obtain ⟨st1, _⟩ := own4.stored 0 (.int .i64 z)
            rw [ints_set] at st1
            have HST := hide st1
            have HC5 := hide (cur_set (o := 0) (v := .int .i64 z) hc4 hcw HOLD.out hg0)
            have HK5 := hide (kp_set (o := 0) (v := .int .i64 z) hk4' hg0)
            have hn0 : (0 : Int) < (n : Int) := hxi
            generalize xs.getD 0 0 = y1 at *
            clear own4 st1 hc4 hk4 hk4' HO3 HC3 HK3
            go_wp2_with fail
            go_ret
            exact ⟨.slice (some ⟨g, 0, none⟩) n cp, xs.set 0 z, rfl, by rw [List.length_set, HN.out]; omega, by rw [List.length_set, HN.out]; exact HST.out, HC5.out.le (by omega), HK5.out⟩
theorem cur_below12 {w w1 : World} {o : Obj} (hk : Kp w.heap.size (w.alloc o) w1) : Below w.heap.size w w1 :=
  ⟨hk.os, hk.tape, hk.output, Nat.le_trans (by simp) hk.size, fun b hb => (hk.block b (by simp; omega) (by omega)).trans ((below_alloc w o).block b hb)⟩
def DIPost (w : World) (e : Ending) (w' : World) : Prop := ∃ a c xs, e = .returned (.slice a xs.length c) ∧ xs.length ≤ 10 ∧ xs.length ≤ c ∧ ARow w' a xs ∧ Below w.heap.size w w'
set_option maxRecDepth 100000 in
set_option maxHeartbeats 1000000 in
theorem drawGI_any {a : Option Addr} {len cap : Nat} {w : World} (hs : Hid (Src w a len)) :
    Calls Try.prog 25 #[.slice a len cap] w (DIPost w) := by
  have HC := hide (cur_new (cap := cap) hs.out)
  go_enter Try.func25, Try.ntmps25
  go_wp2_with fail
  refine (items_any HC.out (by omega)).mono ?_
  rintro e w1 ⟨v, xs, rfl, hl, own1, hc1, hk1⟩
  obtain ⟨a1, c1, e1, hcap, r1⟩ := own_cap rfl own1
  subst e1
  have HB := hide (cur_below12 hk1)
  have HR := hide r1
  clear own1 hc1 hk1 r1
  generalize hn : xs.length = n at *
  have HN := hide hn
  clear hn
  go_wp2_with fail
  go_ret
  exact ⟨a1, c1, xs, by rw [HN.out]; rfl, by rw [HN.out]; exact hl, by rw [HN.out]; exact hcap, HR.out, HB.out⟩
theorem drawFF_any {a : Option Addr} {len cap : Nat} {w : World} (hs : Hid (Src w a len)) :
    Calls Try.prog 5 #[.slice a len cap] w (DIPost w) := by
  go_enter Try.func5, Try.ntmps5
  go_wp2_with fail
  refine (drawGI_any hs).mono ?_
  rintro e w1 ⟨a1, c1, xs, rfl, h⟩
  generalize hn : xs.length = n at *
  go_wp2_with fail
  go_ret
  exact ⟨a1, c1, xs, by rw [hn]; rfl, by rw [hn]; exact h⟩
theorem drawLB_any {a : Option Addr} {len cap : Nat} {w : World} (hs : Hid (Src w a len)) :
    Calls Try.prog 24 #[.slice a len cap] w (DIPost w) := by
  go_enter Try.func24, Try.ntmps24
  go_wp2_with fail
  refine (drawGI_any hs).mono ?_
  rintro e w1 ⟨a1, c1, xs, rfl, h⟩
  generalize hn : xs.length = n at *
  go_wp2_with fail
  go_ret
  exact ⟨a1, c1, xs, by rw [hn]; rfl, by rw [hn]; exact h⟩
end Go.Proofs.Ytnchkgblpnompaa
namespace Go.Proofs.Ytnchkgblpnompaa
open Go.RowKit

theorem SI.low {W : World} {P B : Nat} {xs : List Int} (h : SI W P B xs) : ∃ a c, W.cell? ⟨P, 0, none⟩ = some (.slice a xs.length c) := by
  obtain ⟨_, _, v, c0, _, own⟩ := h
  obtain ⟨a, c, rfl⟩ := own_form own
  exact ⟨a, c, c0⟩
theorem si_new (w : World) (t : TypeId) : SI (w.alloc (.cells #[.slice none 0 0] t)) w.heap.size (w.heap.size + 1) [] := by
  refine ⟨by omega, by simp, .slice none 0 0, by simp, ?_, ⟨rfl, Or.inl ⟨rfl, rfl⟩⟩⟩
  simp [go_sem]
set_option maxRecDepth 100000 in
set_option maxHeartbeats 4000000 in
theorem pk_any {a a' : Option Addr} {n m c d : Nat} {l : List Int} {F : List (List Int)} {w : World} (hx : l.length = n) (hf : F.length = m) (hg : It.goodB l = true) (hm : m ≤ 1048576) (hl : ∀ i, i < m → (F.getD i []).length ≤ 1048576) (ha : ARow w a l) (hF : CRow w a' F) :
    Calls Try.prog 40 #[.slice a n c, .slice a' m d] w fun e w' => e = .returned (.bool (It.packB l F)) ∧ Below w.heap.size w w' := by
  have HX := hide hx
  have HF := hide hf
  have HG := hide hg
  have HL := hide hl
  have HA := hide fun (W : World) (h : Below w.heap.size w W) => ha.below h
  have HC := hide hF
  have h9 := It.good_len hg
  rw [hx] at h9
  have n9 : (n : Int) ≤ 9 := by omega
  have HS0 := hide (si_new w 71)
  have HB0 := hide (below_alloc w (.cells #[.slice none 0 0] 71))
  obtain ⟨R, hR⟩ : ∃ R, It.packB l F = R := ⟨_, rfl⟩
  have HR := hide hR
  rw [hR]
  obtain ⟨P, hP⟩ : ∃ P, w.heap.size = P := ⟨_, rfl⟩
  have HP := hide hP
  rw [hP] at HS0 HB0
  clear hP
  clear hx hf hg hl ha hF hR
  go_enter Try.func40, Try.ntmps40
  go_wp2_with fail
  rw [HP.out]
  go_loopw [4, 7, 8, 10, 13] (fun s4 _ _ _ s13 wr => ∃ (k : Nat) (sn : List Int), s4 = .bool false ∧ s13 = .int .i64 k ∧ k ≤ m ∧ Hid (It.PW l F k sn) ∧ Hid (SI wr P (P + 1) sn) ∧ Hid (Below w.heap.size w wr)) (fun _ _ _ _ s13 _ => m - (intOf s13).toNat)
  case atStart => exact ⟨0, [], rfl, rfl, Nat.zero_le _, hide It.pw_start, HS0, hide (by rw [HP.out]; exact HB0.out)⟩
  case round =>
    obtain ⟨k, sn, rfl, rfl, hk, HPW, HSI, HB⟩ := hrel
    by_cases hlt : k < m
    · obtain ⟨b, off, ai, ci, rfl, hbl, r1, r2⟩ := HC.out.at (i := k) (by rw [HF.out]; exact hlt)
      have i0 : (0 : Int) ≤ (k : Int) := by omega
      have i1 : (k : Int) < (m : Int) := by omega
      have hL := HL.out k hlt
      obtain ⟨Q, hQ⟩ : ∃ Q, F.getD k [] = Q := ⟨_, rfl⟩
      obtain ⟨L, hLQ⟩ : ∃ L, Q.length = L := ⟨_, rfl⟩
      rw [hQ] at hL r1
      rw [hLQ] at hL r1
      rw [hQ] at r2
      have HQ := hide hQ
      have HLQ := hide hLQ
      have HRB := hide fun (W : World) (h : Below w.heap.size w W) => r2.below h
      have q1 := (HB.out.cell (p := ⟨b, off + k, none⟩) hbl).trans r1
      have H0 := hide (It.bw_start (b := Q) HPW.out.2)
      clear hQ hLQ r2 HC HL HS0 HB0 r1
      go_wp2_with fail
      go_loopw [4, 8, 10, 19] (fun s4 s8 _ s19 wq => ∃ (j : Nat) (sm : List Int) (h : Int), s4 = .bool false ∧ s8 = .int .i64 h ∧ s19 = .int .i64 j ∧ j ≤ L ∧ Hid (It.BW l Q sn j sm h) ∧ Hid (SI wq P (P + 1) sm) ∧ Hid (Below w.heap.size w wq)) (fun _ _ _ s19 _ => L - (intOf s19).toNat)
      case atStart => exact ⟨0, sn, 0, rfl, rfl, rfl, Nat.zero_le _, H0, HSI, HB⟩
      case round =>
        clear HSI HB q1
        obtain ⟨j, sm, h, rfl, rfl, rfl, hj, HBW, HSI, HB⟩ := hrel
        have hsm := HBW.out.2.1.few
        rw [HX.out] at hsm
        obtain ⟨h0, h1, h2⟩ := HBW.out.2.2
        have h180 : h ≤ 180 := by omega
        by_cases hjl : j < L
        · obtain ⟨b2, o2, rfl, q2⟩ := (HRB.out _ HB.out).at (i := j) (by rw [HLQ.out]; exact hjl)
          have j0 : (0 : Int) ≤ (j : Int) := by omega
          have j1 : (j : Int) < (L : Int) := by omega
          have HNO := hide fun (e : (Pf.inB (Q.getD j 0) 0 ((n : Int) - 1) && !sm.contains (Q.getD j 0)) = false) => It.pw_none HPW.out (by rw [HF.out]; exact hlt) (by rw [HQ.out]; exact It.bw_no HBW.out (by rw [HLQ.out]; exact hjl) (by rw [HX.out]; exact e))
          have HYE := hide fun (e1 : Pf.inB (Q.getD j 0) 0 ((n : Int) - 1) = true) (e2 : sm.contains (Q.getD j 0) = false) => It.bw_step HG.out HBW.out (by rw [HLQ.out]; exact hjl) (by rw [HX.out]; exact e1) e2
          have HAD := hide (add_any (x := Q.getD j 0) HSI.out (by omega))
          generalize Q.getD j 0 = x at *
          clear h1 h2 HBW
          cases e1 : Pf.inB x 0 ((n : Int) - 1)
          · have H1 := hide (HNO.out (by rw [e1]; rfl))
            clear HNO HYE HAD
            go_wp2_with fail
            refine (between_eq e1).mono ?_
            rintro e w1 ⟨rfl, rfl⟩
            go_wp2_with fail
            go_ret
            exact ⟨ret_bool (by rw [← HR.out, H1.out]), HB.out⟩
          · cases e2 : sm.contains x
            · have H2 := hide (HYE.out e1 e2)
              rw [e2] at HAD
              obtain ⟨x0, x1⟩ := Pf.inB_yes e1
              obtain ⟨xi, rfl⟩ : ∃ xi : Nat, x = (xi : Int) := ⟨x.toNat, by omega⟩
              have hxi : xi < n := by omega
              have hv := It.good_at HG.out (i := xi) (by rw [HX.out]; exact hxi)
              rw [Int.toNat_natCast] at H2
              clear HNO HYE HSI
              go_wp2_with fail
              refine (between_eq e1).mono ?_
              rintro e w1 ⟨rfl, rfl⟩
              go_wp2_with fail
              refine HAD.out.mono ?_
              rintro e w2 ⟨rfl, hs2, hb2⟩
              have HS2 := hide hs2
              have HB2 := hide (HB.out.trans (HP.out ▸ hb2))
              obtain ⟨b3, o3, rfl, q3⟩ := (HA.out _ HB2.out).at (i := xi) (by rw [HX.out]; exact hxi)
              have y0 : (0 : Int) ≤ (xi : Int) := by omega
              have y1 : (xi : Int) < (n : Int) := by omega
              generalize l.getD xi 0 = z at *
              have hwr : IntKind.i64.wrap (h + z) = h + z := by rw [IntKind.wrap_i64]; omega
              clear hs2 hb2 HAD HB
              go_wp2_with fail
              go_roundw
              case rel => exact ⟨j + 1, sm ++ [(xi : Int)], h + z, rfl, by go_num, by go_num, by omega, H2, HS2, HB2⟩
              case measure => simp only [intOf]; omega
            · have H1 := hide (HNO.out (by rw [e1, e2]; rfl))
              rw [e2] at HAD
              clear HNO HYE HSI
              go_wp2_with fail
              refine (between_eq e1).mono ?_
              rintro e w1 ⟨rfl, rfl⟩
              go_wp2_with fail
              refine HAD.out.mono ?_
              rintro e w2 ⟨rfl, hs2, hb2⟩
              have HB2 := hide (HB.out.trans (HP.out ▸ hb2))
              clear hs2 hb2
              go_wp2_with fail
              go_ret
              exact ⟨ret_bool (by rw [← HR.out, H1.out]), HB2.out⟩
        · have hje : j = L := by omega
          subst hje
          have HE := hide (It.bw_end HBW.out (by rw [HLQ.out]; exact Nat.le_refl _))
          have heq := It.held_eq (b := Q) h0 (by rw [HLQ.out]; exact h2)
          have HST := hide (fun (e : Pf.inB h 1 20 = true) => It.pw_step HPW.out (by rw [HF.out]; exact hlt) HBW.out.2.1 (by rw [HQ.out]; exact HE.out) (by rw [HQ.out, ← heq]; exact e))
          have HBD := hide (fun (e : Pf.inB h 1 20 = false) => It.pw_bad HPW.out (by rw [HF.out]; exact hlt) (by rw [HQ.out]; exact HE.out) (by rw [HQ.out, ← heq]; exact e))
          clear heq h1 h2 HBW HE
          cases e1 : Pf.inB h 1 20
          · have H1 := hide (HBD.out e1)
            clear HST HBD
            go_wp2_with fail
            refine (between_eq e1).mono ?_
            rintro e w1 ⟨rfl, rfl⟩
            go_wp2_with fail
            go_ret
            exact ⟨ret_bool (by rw [← HR.out, H1.out]), HB.out⟩
          · have H1 := hide (HST.out e1)
            clear HST HBD
            go_wp2_with fail
            refine (between_eq e1).mono ?_
            rintro e w1 ⟨rfl, rfl⟩
            go_wp2_with fail
            go_roundw
            case rel => exact ⟨k + 1, sm, rfl, by go_num, by omega, H1, HSI, HB⟩
            case measure => simp only [intOf]; omega
    · have hke : k = m := by omega
      subst hke
      have HE := hide (It.pw_end HPW.out (by rw [HF.out]; exact Nat.le_refl _))
      obtain ⟨aS, cS, c1⟩ := HSI.out.low
      obtain ⟨N, hN⟩ : ∃ N, sn.length = N := ⟨_, rfl⟩
      rw [hN] at c1
      have HE2 : Hid (R = ((N : Int) == (n : Int))) := hide (by
        rw [← HR.out, HE.out, hN, HX.out]
        by_cases e : N = n
        · subst e; simp
        · have : ¬ (N : Int) = (n : Int) := by omega
          rw [beq_eq_false_iff_ne.2 e, beq_eq_false_iff_ne.2 this])
      clear HE hN HS0 HB0
      go_wp2_with fail
      go_ret
      exact ⟨ret_bool HE2.out.symm, HB.out⟩
theorem pk_eq {a a' : Option Addr} {n m c d : Nat} {l : List Int} {F : List (List Int)} {w : World} {r : Bool} (hx : Hid (l.length = n)) (hf : Hid (F.length = m)) (hg : Hid (It.goodB l = true)) (hm : m ≤ 1048576) (hl : Hid (∀ i, i < m → (F.getD i []).length ≤ 1048576)) (ha : Hid (ARow w a l)) (hF : Hid (CRow w a' F)) (h : Hid (It.packB l F = r)) :
    Calls Try.prog 40 #[.slice a n c, .slice a' m d] w fun e w' => e = .returned (.bool r) ∧ Below w.heap.size w w' := h.out ▸ pk_any hx.out hf.out hg.out hm hl.out ha.out hF.out
set_option maxRecDepth 100000 in
set_option maxHeartbeats 1000000 in
theorem ip_w {a a' : Option Addr} {n m c d : Nat} {l : List Int} {F : List (List Int)} {w : World} (hx : l.length = n) (hf : F.length = m) (hm : m ≤ 1048576) (hl : ∀ i, i < m → (F.getD i []).length ≤ 1048576) (ha : ARow w a l) (hF : CRow w a' F) :
    Calls Try.prog 16 #[.slice a n c, .slice a' m d] w fun e w' => e = .returned (.tuple #[.bool (It.ipB l F), .bool (It.goodB l)]) ∧ Below w.heap.size w w' := by
  have HX := hide hx
  have HF := hide hf
  have HL := hide hl
  have HA := hide ha
  have HC := hide hF
  unfold It.ipB
  cases hg : It.goodB l
  · have HG := hide hg
    clear hx hf hl ha hF hg
    go_enter Try.func16, Try.ntmps16
    go_wp2_with fail
    refine (gi_eq HX HA HG).mono ?_
    rintro e w1 ⟨rfl, rfl⟩
    go_wp2_with fail
    refine bodyPost_ret (v := .tuple #[.bool false, .bool false]) (by simp [results, Try.results16, go_sem]) rfl ?_
    exact ⟨rfl, Below.refl _ _⟩
  · have HG := hide hg
    obtain ⟨R, hR⟩ : ∃ R, It.packB l F = R := ⟨_, rfl⟩
    have HR := hide hR
    rw [hR]
    clear hx hf hl ha hF hg hR
    go_enter Try.func16, Try.ntmps16
    go_wp2_with fail
    refine (gi_eq HX HA HG).mono ?_
    rintro e w1 ⟨rfl, rfl⟩
    go_wp2_with fail
    refine (pk_eq HX HF HG hm HL HA HC HR).mono ?_
    rintro e w2 ⟨rfl, hb⟩
    go_wp2_with fail
    refine bodyPost_ret (v := .tuple #[.bool R, .bool true]) (by simp [results, Try.results16, go_sem]) rfl ?_
    exact ⟨by rw [Bool.true_and], hb⟩
theorem ip_eq {a a' : Option Addr} {n m c d : Nat} {l : List Int} {F : List (List Int)} {w : World} {r g : Bool} (hx : Hid (l.length = n)) (hf : Hid (F.length = m)) (hm : m ≤ 1048576) (hl : Hid (∀ i, i < m → (F.getD i []).length ≤ 1048576)) (ha : Hid (ARow w a l)) (hF : Hid (CRow w a' F)) (h : Hid (It.ipB l F = r)) (h' : Hid (It.goodB l = g)) :
    Calls Try.prog 16 #[.slice a n c, .slice a' m d] w fun e w' => e = .returned (.tuple #[.bool r, .bool g]) ∧ Below w.heap.size w w' := h.out ▸ h'.out ▸ ip_w hx.out hf.out hm hl.out ha.out hF.out
theorem isum_n2 {a : Option Addr} {n c : Nat} {xs : List Int} {w : World} {S : Int} (hx : Hid (xs.length = n)) (ha : Hid (ARow w a xs)) (hg : Hid (It.goodB xs = true)) (hs : Hid (xs.sum = S)) :
    Calls Try.prog 45 #[.slice a n c] w fun e w' => e = .returned (.int .i64 S) ∧ w' = w := by
  have h1 := hx.out
  have h2 := hs.out
  subst h1 h2
  exact isum_any ha.out (by have := It.good_len hg.out; omega) (It.good_wide hg.out)
set_option maxRecDepth 100000 in
set_option maxHeartbeats 1000000 in
theorem wa_w {a a' : Option Addr} {n m c d : Nat} {l : List Int} {F : List (List Int)} {w : World} (hx : l.length = n) (hf : F.length = m) (hm : m ≤ 1048576) (hl : ∀ i, i < m → (F.getD i []).length ≤ 1048576) (ha : ARow w a l) (hF : CRow w a' F) :
    Calls Try.prog 20 #[.slice a n c, .slice a' m d] w fun e w' => e = .returned (.tuple #[.int .i64 (It.waI l F), .bool (It.ipB l F)]) ∧ Below w.heap.size w w' := by
  have HX := hide hx
  have HF := hide hf
  have HL := hide hl
  have HA := hide ha
  have HC := hide hF
  cases hp : It.ipB l F
  · have e0 : It.waI l F = 0 := by simp [It.waI, hp]
    rw [e0]
    obtain ⟨G, hG⟩ : ∃ G, It.goodB l = G := ⟨_, rfl⟩
    have HIP := hide (ip_eq (w := w) (c := c) (d := d) HX HF hm HL HA HC (hide hp) (hide hG))
    clear hx hf hl ha hF hp e0 hG
    go_enter Try.func20, Try.ntmps20
    go_wp2_with fail
    refine HIP.out.mono ?_
    rintro e w1 ⟨rfl, hb⟩
    go_wp2_with fail
    refine bodyPost_ret (v := .tuple #[.int .i64 0, .bool false]) (by simp [results, Try.results20, go_sem]) rfl ?_
    exact ⟨rfl, hb⟩
  · have hg : It.goodB l = true := by simp only [It.ipB, Bool.and_eq_true] at hp; exact hp.1
    have e0 : It.waI l F = 20 * (F.length : Int) - l.sum := by simp [It.waI, hp]
    rw [e0, hf]
    obtain ⟨s0, s1⟩ := It.good_sum hg
    obtain ⟨S, hS⟩ : ∃ S, l.sum = S := ⟨_, rfl⟩
    have HS := hide hS
    rw [hS] at s0 s1 ⊢
    have HG := hide hg
    have HIP := hide (ip_eq (w := w) (c := c) (d := d) HX HF hm HL HA HC (hide hp) HG)
    have hwr : wrap64 ((m : Int) * 20) = 20 * (m : Int) := by unfold wrap64; omega
    have hwr2 : wrap64 (20 * (m : Int) - S) = 20 * (m : Int) - S := by unfold wrap64; omega
    clear hx hf hl ha hF hp e0 hS hg
    go_enter Try.func20, Try.ntmps20
    go_wp2_with fail
    refine HIP.out.mono ?_
    rintro e w1 ⟨rfl, hb⟩
    have HA1 := hide (HA.out.below hb)
    go_wp2_with fail
    refine (isum_n2 HX HA1 HG HS).mono ?_
    rintro e w2 ⟨rfl, hw2⟩
    obtain rfl : w1 = w2 := hw2.symm
    go_wp2_with fail
    refine bodyPost_ret (v := .tuple #[.int .i64 (20 * (m : Int) - S), .bool true]) (by simp [results, Try.results20, go_sem]; try omega) rfl ?_
    exact ⟨rfl, hb⟩
end Go.Proofs.Ytnchkgblpnompaa
namespace Go.Proofs.Ytnchkgblpnompaa.Od

def waysB (us ws : List Int) : Bool := decide (us.length = ws.length) && (decide (us.length ≤ 10) && (Pf.allB us 0 1000 && Pf.allB ws 0 1000))
theorem waysB_yes {us ws : List Int} (h : waysB us ws = true) : us.length = ws.length ∧ us.length ≤ 10 ∧ Pf.allB us 0 1000 = true ∧ Pf.allB ws 0 1000 = true := by
  simpa [waysB] using h
theorem waysB_ne {us ws : List Int} (h : us.length ≠ ws.length) : waysB us ws = false := by simp [waysB, h]
theorem waysB_many {us ws : List Int} (h : 10 < us.length) : waysB us ws = false := by simp [waysB, show ¬ us.length ≤ 10 by omega]

/-- The number at i is one of 0 up to n - 1, and none ahead of it is the same. -/
def okAt (xs : List Int) (n i : Nat) : Bool := Pf.inB (xs.getD i 0) 0 ((n : Int) - 1) && !(xs.take i).contains (xs.getD i 0)
def ordB (xs : List Int) (n : Nat) : Bool := decide (xs.length = n) && (List.range n).all (okAt xs n)
theorem ordB_len {xs : List Int} {n : Nat} (h : ordB xs n = true) : xs.length = n := by
  simp only [ordB, Bool.and_eq_true, decide_eq_true_eq] at h; exact h.1
theorem ordB_at {xs : List Int} {n i : Nat} (h : ordB xs n = true) (hi : i < n) : okAt xs n i = true := by
  simp only [ordB, Bool.and_eq_true, List.all_eq_true, List.mem_range] at h; exact h.2 i hi
theorem ordB_of {xs : List Int} {n : Nat} (h1 : xs.length = n) (h : ∀ i, i < n → okAt xs n i = true) : ordB xs n = true := by
  simp only [ordB, Bool.and_eq_true, decide_eq_true_eq, List.all_eq_true, List.mem_range]; exact ⟨h1, h⟩
theorem ordB_ne {xs : List Int} {n : Nat} (h : xs.length ≠ n) : ordB xs n = false := by simp [ordB, h]
theorem ordB_not {xs : List Int} {n i : Nat} (hi : i < n) (h : okAt xs n i = false) : ordB xs n = false := by
  cases e : ordB xs n
  · rfl
  · rw [ordB_at e hi] at h; cases h
theorem ordB_in {xs : List Int} {n i : Nat} (h : ordB xs n = true) (hi : i < n) : 0 ≤ xs.getD i 0 ∧ xs.getD i 0 < n := by
  have := ordB_at h hi
  simp only [okAt, Bool.and_eq_true] at this
  have := Pf.inB_yes this.1
  omega
/-- The number at i as a natural one. -/
def nth (xs : List Int) (i : Nat) : Nat := (xs.getD i 0).toNat
theorem nth_cast {xs : List Int} {n i : Nat} (h : ordB xs n = true) (hi : i < n) : xs.getD i 0 = (nth xs i : Int) := by
  have := ordB_in h hi; unfold nth; omega
theorem nth_lt {xs : List Int} {n i : Nat} (h : ordB xs n = true) (hi : i < n) : nth xs i < n := by
  have := ordB_in h hi; unfold nth; omega

/-- Whether j is among the first k. -/
def seen (xs : List Int) (k n : Nat) : List Bool := (List.range n).map fun (j : Nat) => (xs.take k).contains (j : Int)
theorem seen_len (xs : List Int) (k n : Nat) : (seen xs k n).length = n := by simp [seen]
theorem seen_zero (xs : List Int) (n : Nat) : seen xs 0 n = List.replicate n false := by
  apply List.ext_getElem
  · simp [seen]
  · intro i h1 h2; simp [seen]
theorem seen_get (xs : List Int) (k n j : Nat) (h : j < n) : (seen xs k n).getD j false = (xs.take k).contains (j : Int) := by simp [seen, h]
theorem seen_step (xs : List Int) (k n j : Nat) (hk : k < xs.length) (h : xs.getD k 0 = (j : Int)) : (seen xs k n).set j true = seen xs (k + 1) n := by
  apply List.ext_getElem
  · simp [seen]
  · intro i h1 h2
    have hi : i < n := by simpa [seen] using h2
    have e : xs[k] = (j : Int) := by rw [Pf.getD_lt xs 0 hk] at h; exact h
    simp only [seen, List.getElem_map, List.getElem_range, List.getElem_set]
    rw [List.take_add_one]
    by_cases hij : j = i
    · subst hij; simp [hk, e]
    · have : ¬ (i : Int) = (j : Int) := by omega
      simp [hij, hk, e, this]

/-- The sum of use times way over the first k. -/
def pairTo (us ws : List Int) : Nat → Int
  | 0 => 0
  | k + 1 => pairTo us ws k + us.getD k 0 * ws.getD k 0
def pair (us ws : List Int) : Int := pairTo us ws us.length
/-- What an order costs over the first k places. -/
def costTo (us ws os : List Int) : Nat → Int
  | 0 => 0
  | k + 1 => costTo us ws os k + us.getD (nth os k) 0 * ws.getD k 0
def cost (us ws os : List Int) : Int := costTo us ws os os.length
theorem term_bd {x y : Int} (hx : 0 ≤ x ∧ x ≤ 1000) (hy : 0 ≤ y ∧ y ≤ 1000) : 0 ≤ x * y ∧ x * y ≤ 1000000 := by
  refine ⟨Int.mul_nonneg hx.1 hy.1, ?_⟩
  exact Int.le_trans (Int.mul_le_mul_of_nonneg_right hx.2 hy.1) (Int.le_trans (Int.mul_le_mul_of_nonneg_left hy.2 (show (0 : Int) ≤ 1000 by omega)) (by omega))
theorem pairTo_bd {us ws : List Int} (hu : Pf.allB us 0 1000 = true) (hw : Pf.allB ws 0 1000 = true) : ∀ k, k ≤ us.length → k ≤ ws.length → 0 ≤ pairTo us ws k ∧ pairTo us ws k ≤ 1000000 * (k : Int)
  | 0, _, _ => by simp [pairTo]
  | k + 1, h1, h2 => by
    have := pairTo_bd hu hw k (by omega) (by omega)
    have := term_bd (Pf.inB_yes (Pf.allB_get hu (show k < us.length by omega))) (Pf.inB_yes (Pf.allB_get hw (show k < ws.length by omega)))
    simp only [pairTo]; omega
theorem costTo_bd {us ws os : List Int} (hu : Pf.allB us 0 1000 = true) (hw : Pf.allB ws 0 1000 = true) (hl : us.length = ws.length) (ho : ordB os us.length = true) : ∀ k, k ≤ us.length → 0 ≤ costTo us ws os k ∧ costTo us ws os k ≤ 1000000 * (k : Int)
  | 0, _ => by simp [costTo]
  | k + 1, h1 => by
    have := costTo_bd hu hw hl ho k (by omega)
    have := term_bd (Pf.inB_yes (Pf.allB_get hu (nth_lt ho (show k < us.length by omega)))) (Pf.inB_yes (Pf.allB_get hw (show k < ws.length by omega)))
    simp only [costTo]; omega
/-- The uses as they stand in an order. -/
def placed (us os : List Int) : List Int := os.map fun o => us.getD o.toNat 0
theorem placed_len (us os : List Int) : (placed us os).length = os.length := by simp [placed]
theorem placed_get (us os : List Int) {k : Nat} (h : k < os.length) : (placed us os).getD k 0 = us.getD (nth os k) 0 := by simp [placed, nth, h]
theorem placed_pair (us ws os : List Int) : ∀ k, k ≤ os.length → pairTo (placed us os) ws k = costTo us ws os k
  | 0, _ => rfl
  | k + 1, h => by simp only [pairTo, costTo]; rw [placed_pair us ws os k (by omega), placed_get us os (by omega)]
theorem placed_cost (us ws os : List Int) : pair (placed us os) ws = cost us ws os := by
  unfold pair cost; rw [placed_len]; exact placed_pair us ws os _ (Nat.le_refl _)
theorem placed_all {us os : List Int} (hu : Pf.allB us 0 1000 = true) (ho : ordB os us.length = true) : Pf.allB (placed us os) 0 1000 = true := by
  refine Pf.allB_of fun i hi => ?_
  rw [placed_len] at hi
  have hl := ordB_len ho
  rw [placed_get us os hi]
  exact Pf.allB_get hu (nth_lt ho (by omega))
theorem placed_step (us os ys : List Int) (k : Nat) (hy : ys.length = os.length) (hk : k < os.length) (h : ys.take k = (placed us os).take k) : (ys.set k (us.getD (nth os k) 0)).take (k + 1) = (placed us os).take (k + 1) := by
  rw [List.take_add_one, List.take_add_one, List.take_set_of_le (Nat.le_refl _), h]
  congr 1
  simp [hk, hy, placed, nth]

/-- The goods of two places changed. -/
def swap (os : List Int) (a b : Nat) : List Int := (os.set a (os.getD b 0)).set b (os.getD a 0)
theorem swap_len (os : List Int) (a b : Nat) : (swap os a b).length = os.length := by simp [swap]
theorem swap_get (os : List Int) {a b i : Nat} (ha : a < os.length) (hb : b < os.length) (hi : i < os.length) : (swap os a b).getD i 0 = if i = b then os.getD a 0 else if i = a then os.getD b 0 else os.getD i 0 := by
  simp only [swap, List.getD_eq_getElem?_getD, List.getElem?_set, List.length_set]
  by_cases h1 : b = i
  · subst h1; simp [hb]
  · rw [if_neg h1, if_neg (show ¬ i = b by omega)]
    by_cases h2 : a = i
    · subst h2; simp [ha]
    · rw [if_neg h2, if_neg (show ¬ i = a by omega)]
theorem okAt_iff {xs : List Int} {n i : Nat} (hl : xs.length = n) (hi : i < n) : okAt xs n i = true ↔ (0 ≤ xs.getD i 0 ∧ xs.getD i 0 < n) ∧ ∀ j, j < i → xs.getD j 0 ≠ xs.getD i 0 := by
  simp only [okAt, Bool.and_eq_true, Bool.not_eq_true', List.contains_eq_mem, decide_eq_false_iff_not]
  constructor
  · rintro ⟨h1, h2⟩
    have := Pf.inB_yes h1
    refine ⟨by omega, fun j hj e => h2 ?_⟩
    rw [← e]
    have hj' : j < xs.length := by omega
    rw [Pf.getD_lt xs 0 hj']
    exact List.mem_take_iff_getElem.2 ⟨j, by omega, rfl⟩
  · rintro ⟨h1, h2⟩
    refine ⟨Pf.inB_of h1.1 (by omega), fun hm => ?_⟩
    obtain ⟨j, hj, e⟩ := List.mem_take_iff_getElem.1 hm
    have hj' : j < xs.length := by omega
    exact h2 j (by omega) (by rw [Pf.getD_lt xs 0 hj']; exact e)
/-- An order: its numbers are 0 up to n - 1, no two alike. -/
theorem ordB_iff {xs : List Int} {n : Nat} : ordB xs n = true ↔ xs.length = n ∧ (∀ i, i < n → 0 ≤ xs.getD i 0 ∧ xs.getD i 0 < n) ∧ ∀ i j, i < n → j < n → xs.getD i 0 = xs.getD j 0 → i = j := by
  constructor
  · intro h
    have hl := ordB_len h
    refine ⟨hl, fun i hi => ordB_in h hi, fun i j hi hj e => ?_⟩
    rcases Nat.lt_trichotomy i j with c | c | c
    · exact absurd e (((okAt_iff hl hj).1 (ordB_at h hj)).2 i c)
    · exact c
    · exact absurd e.symm (((okAt_iff hl hi).1 (ordB_at h hi)).2 j c)
  · rintro ⟨hl, h1, h2⟩
    refine ordB_of hl fun i hi => (okAt_iff hl hi).2 ⟨h1 i hi, fun j hj e => ?_⟩
    have := h2 j i (by omega) hi e
    omega
theorem swap_ord {os : List Int} {n a b : Nat} (h : ordB os n = true) (ha : a < n) (hb : b < n) : ordB (swap os a b) n = true := by
  obtain ⟨hl, h1, h2⟩ := ordB_iff.1 h
  subst hl
  refine ordB_iff.2 ⟨swap_len _ _ _, fun i hi => ?_, fun i j hi hj => ?_⟩
  · rw [swap_get os ha hb hi]; split
    · exact h1 a ha
    · split
      · exact h1 b hb
      · exact h1 i hi
  · rw [swap_get os ha hb hi, swap_get os ha hb hj]
    intro e
    by_cases i1 : i = b
    · rw [if_pos i1] at e
      by_cases j1 : j = b
      · omega
      · rw [if_neg j1] at e
        by_cases j2 : j = a
        · rw [if_pos j2] at e
          have := h2 a b ha hb e; omega
        · rw [if_neg j2] at e
          have := h2 a j ha hj e; omega
    · rw [if_neg i1] at e
      by_cases i2 : i = a
      · rw [if_pos i2] at e
        by_cases j1 : j = b
        · rw [if_pos j1] at e; have := h2 b a hb ha e; omega
        · rw [if_neg j1] at e
          by_cases j2 : j = a
          · omega
          · rw [if_neg j2] at e
            have := h2 b j hb hj e; omega
      · rw [if_neg i2] at e
        by_cases j1 : j = b
        · rw [if_pos j1] at e; have := h2 i a hi ha e; omega
        · rw [if_neg j1] at e
          by_cases j2 : j = a
          · rw [if_pos j2] at e; have := h2 i b hi hb e; omega
          · rw [if_neg j2] at e; exact h2 i j hi hj e

theorem count_set {l : List Bool} {k : Nat} (h : l.getD k true = false) : l.count false = (l.set k true).count false + 1 := by
  have hk : k < l.length := by
    by_cases hk : k < l.length
    · exact hk
    · simp [hk] at h
  have e : l[k] = false := by simpa [hk] using h
  have h1 := List.take_append_drop k l
  have h2 : l.drop k = l[k] :: l.drop (k + 1) := List.drop_eq_getElem_cons hk
  have h3 : l.set k true = l.take k ++ true :: l.drop (k + 1) := by rw [List.set_eq_take_append_cons_drop, if_pos hk]
  rw [h3]
  conv => lhs; rw [← h1, h2, e]
  simp [List.count_append]; omega
/-- From k on along the order, until one is met that was gone to. -/
def gone (xs : List Int) (l : List Bool) (k : Nat) : List Bool :=
  if _h : l.getD k true = false then gone xs (l.set k true) (nth xs k) else l
termination_by l.count false
decreasing_by
  have := count_set _h
  omega
theorem gone_stop {xs : List Int} {l : List Bool} {k : Nat} (h : l.getD k true = true) : gone xs l k = l := by
  rw [gone, dif_neg (by rw [h]; decide)]
theorem gone_step {xs : List Int} {l : List Bool} {k : Nat} (h : l.getD k true = false) : gone xs l k = gone xs (l.set k true) (nth xs k) := by
  rw [gone, dif_pos h]
/-- What was gone to, and how many rings there are, behind the first i. -/
def ringsTo (xs : List Int) (n : Nat) : Nat → List Bool × Nat
  | 0 => (List.replicate n false, 0)
  | i + 1 => let s := ringsTo xs n i; (gone xs s.1 i, if s.1.getD i true = false then s.2 + 1 else s.2)
def rings (xs : List Int) : Nat := (ringsTo xs xs.length xs.length).2
theorem gone_len (xs : List Int) : ∀ (m : Nat) (l : List Bool) (k : Nat), l.count false = m → (gone xs l k).length = l.length
  | m, l, k, hm => by
    cases h : l.getD k true
    · have := count_set h
      rw [gone_step h]
      cases m with
      | zero => omega
      | succ m => rw [gone_len xs m _ _ (by omega)]; simp
    · rw [gone_stop h]
theorem ringsTo_len (xs : List Int) (n : Nat) : ∀ i, (ringsTo xs n i).1.length = n
  | 0 => by simp [ringsTo]
  | i + 1 => by simp only [ringsTo]; rw [gone_len xs _ _ _ rfl, ringsTo_len xs n i]
theorem ringsTo_le (xs : List Int) (n : Nat) : ∀ i, (ringsTo xs n i).2 ≤ i
  | 0 => by simp [ringsTo]
  | i + 1 => by have := ringsTo_le xs n i; simp only [ringsTo]; split <;> omega
end Go.Proofs.Ytnchkgblpnompaa.Od
