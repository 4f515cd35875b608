/-
  What wayToFree of the program answers: the way to a free bin, in memory of its own.
-/
import Derived.Test.YtfmdahpldjkifaaJj
import Derived.Deep.LoopGhost
namespace Go.Proofs.Ytfmdahpldjkifaa
open Go.RowKit

theorem ws_new (w : World) (M : Nat) (l : Int) (hM : M ≤ 8) : WS w ((w.alloc (.cells (madeCells #[.bool false] M) 4)).alloc (.cells #[.int .i64 l, .int .i64 (-1)] 66)) w.heap.size M (List.replicate M false) (w.heap.size + 1) 1 1 [(l, -1)] := by
  have h := World.ownsRow_lit (base := w.heap.size) (e := 66) (size := 2) (w.alloc (.cells (madeCells #[.bool false] M) 4)) #[.int .i64 l, .int .i64 (-1)] 1 (by simp) (by unfold maxLen; omega) (by simp)
  rw [World.size_alloc] at h
  exact ⟨((Below.refl _ _).alloc (Nat.le_refl _) _).alloc (by simp) _, (madeB_own w M (by omega)).alloc _, h, by omega, by simp, rfl⟩
set_option maxRecDepth 20000 in
set_option maxHeartbeats 8000000 in
theorem wf_any {a b : Option Addr} {n c d l M : Nat} {F : List (List Bool)} {m own : List Int} {w : World} (hn : F.length = n) (hG : Ma.goodB F = true) (hMO : Ma.MO F m own) (hM : Ma.bins F = M) (hl : l < n) (ha : GRow w a F) (hb : ARow w b m) :
    Calls Try.prog 47 #[.slice a n c, .slice b n d, .int .i64 l] w fun e w' => ∃ v, e = .returned v ∧ Below w.heap.size w w' ∧ w'.ownsRow w.heap.size 66 2 v ((Ma.look F own l).getD []).length (wc (casts ((Ma.look F own l).getD []))) := by
  have hM8 : M ≤ 8 := by rw [← hM]; exact Ma.goodB_bins hG
  have n8 : n ≤ 8 := by rw [← hn]; exact Ma.goodB_len hG
  have HBI := hide (bi_any (c := c) hn ha)
  rw [hM] at HBI
  have HN := hide hn
  have HA := hide ha
  have HB := hide hb
  have HMO := hide hMO
  have HM := hide hM
  have HG := hide hG
  have hmk := makeB_run M (by omega)
  have HW0 := hide (ws_new w M l hM8)
  have HL0 : Hid (Ma.look F own l = Ma.outc F own [] 9 l (List.replicate M false)) := hide (by rw [← hM]; exact (Ma.outc_look F own l).symm)
  clear hn ha hb hMO hM hG
  generalize Ma.look F own l = LK at HL0 ⊢
  go_enter Try.func47, Try.ntmps47
  go_wp2_with fail
  go_step3
  go_wp2_with fail
  refine HBI.out.mono ?_
  rintro e w1 ⟨rfl, hw1⟩
  obtain rfl : w = w1 := hw1.symm
  go_wp2_with fail
  go_step3
  go_wp2_with fail
  clear HBI hmk
  go_loopg [8, 9, 10, 11, 12] (2 * M + 1) (fun gk s8 _ _ _ _ wr => ∃ (L g C : Nat) (t : List Bool) (ws : List (Int × Int)), s8 = .slice (some ⟨g, 0, none⟩) L C ∧ L ≤ 9 ∧ Hid (WS w wr w.heap.size M t g L C ws) ∧ Hid (gk = 2 * Ma.left t + L) ∧
    ((L = 0 ∧ Hid (LK = none)) ∨ ∃ (p top f : Nat) (x : Int) (st : List (Nat × Nat)), Hid (L = p + 1) ∧ top < n ∧ Hid (ws = casts st.reverse ++ [((top : Int), x)] ∧ LK = Ma.outc F own st (f + 1) top t ∧ Ma.left t < f + 1 ∧ st.length = p ∧ p + f = 8 ∧ ∀ q ∈ st, q.1 < n)))
  case atStart => exact ⟨1, w.heap.size + 1, 1, List.replicate M false, [((l : Int), -1)], rfl, by omega, HW0, hide (by rw [Ma.left_new]), Or.inr ⟨0, l, 8, -1, [], hide rfl, hl, hide ⟨rfl, HL0.out, by rw [Ma.left_new]; omega, rfl, rfl, by simp⟩⟩⟩
  case round =>
    clear HW0 HL0
    obtain ⟨L, g, C, t, ws, rfl, hL, HW, HGK, hcase⟩ := hrel
    rcases hcase with ⟨rfl, HK⟩ | ⟨p, top, f, x, st, HLp, htop, HS⟩
    · have HE : Hid (wr.ownsRow w.heap.size 66 2 (.slice (some ⟨g, 0, none⟩) 0 C) (LK.getD []).length (wc (casts (LK.getD [])))) := hide (by
        have hz : ws = [] := List.length_eq_zero_iff.1 HW.out.2.2.2.2.2
        have := HW.out.2.2.1
        rw [hz] at this
        rw [HK.out]
        exact this)
      have HBE := hide HW.out.1
      go_wp2_with fail
      rw [Exit.noGoto_ret]
      go_ret
      exact ⟨.slice (some ⟨g, 0, none⟩) 0 C, rfl, HBE.out, HE.out⟩
    · have hLp := HLp.out
      have hw1 : wrap64 ((L : Int) - 1) = (p : Int) := by unfold wrap64; omega
      have hw2 : IntKind.i64.wrap ((L : Int) - 1) = (p : Int) := by rw [IntKind.wrap_i64]; omega
      have l0 : (0 : Int) < (L : Int) := by omega
      have l0' : 0 < L := by omega
      have p0 : (0 : Int) ≤ (p : Int) := by omega
      have p1 : (p : Int) < (L : Int) := by omega
      have HW1 : Hid (WS w wr w.heap.size M t g (p + 1) C (casts st.reverse ++ [((top : Int), x)])) := hide (by rw [← hLp, ← HS.out.1]; exact HW.out)
      obtain ⟨c1, c2, f2⟩ := HW1.out.getL
      obtain ⟨ba, oa, ai, ci, rfl, hba, r0, R0⟩ := (HA.out.below HW1.out.1).at (i := top) (by rw [HN.out]; exact htop)
      have HLr : Hid ((F.getD top []).length = M) := hide ((Ma.goodB_row HG.out (by rw [HN.out]; exact htop)).trans HM.out)
      rw [HLr.out] at r0
      have HRR := hide R0
      have t0 : (0 : Int) ≤ (top : Int) := by omega
      have t1 : (top : Int) < (n : Int) := by omega
      obtain ⟨hpop, hpC⟩ := HW1.out.pop
      have HPop := hide hpop
      have pC : (p : Int) ≤ (C : Int) := by omega
      clear R0 hpop HW hLp
      go_wp2_with fail
      obtain ⟨W1, hW1⟩ : ∃ W1 : World, W1 = wr := ⟨_, rfl⟩
      subst hW1
      go_loopg [8, 10, 11, 12, 34] M (fun gi s8 _ _ _ s wi => ∃ (q : Nat), s8 = .slice (some ⟨g, 0, none⟩) L C ∧ s = .int .i64 q ∧ wi = W1 ∧ q ≤ M ∧ gi = M - q ∧ Hid (∀ c, c < q → (Ma.fit F top c && !t.getD c false) = false))
      case atStart => exact ⟨0, rfl, rfl, rfl, Nat.zero_le _, by omega, hide fun c hc => absurd hc (Nat.not_lt_zero _)⟩
      case round =>
        obtain ⟨q, rfl, rfl, hwi, hq, hgi, HQ⟩ := hrel
        obtain rfl : W1 = wr := hwi.symm
        by_cases hqM : q < M
        · obtain ⟨br, orr, rfl, _, r2⟩ := HRR.out.at (i := q) (by rw [HLr.out]; exact hqM)
          have r2' : W1.cell? ⟨br, orr + q, none⟩ = some (.bool (Ma.fit F top q)) := r2
          obtain ⟨r3, f3⟩ := HW1.out.getT hqM
          have q0 : (0 : Int) ≤ (q : Int) := by omega
          have q1 : (q : Int) < (M : Int) := by omega
          have hqt : q < t.length := by rw [HW1.out.2.2.2.2.1]; exact hqM
          have HNX : Hid ((Ma.fit F top q && !t.getD q false) = false → ∀ c, c < q + 1 → (Ma.fit F top c && !t.getD c false) = false) := hide fun h c hc => by
            by_cases e : c = q
            · subst e; exact h
            · exact HQ.out c (by omega)
          have hqb : q < Ma.bins F := by rw [HM.out]; exact hqM
          have HFound := hide fun (hf : (Ma.fit F top q && !t.getD q false) = true) (ho : own.getD q (-1) < 0) => HS.out.2.1.trans (Ma.outc_found hqb HQ.out hf ho)
          have HDown := hide fun (f' : Nat) (hf' : f = f' + 1) (hf : (Ma.fit F top q && !t.getD q false) = true) (k : Nat) (ho : own.getD q (-1) = (k : Int)) => show LK = Ma.outc F own ((top, q) :: st) (f' + 1) k (t.set q true) from by
            rw [HS.out.2.1, Ma.outc_down (by rw [HM.out]; exact HW1.out.2.2.2.2.1) hqb HQ.out hf ho, hf']
          have HIX := hide (HMO.out.idx_eq hqb)
          have HOM := hide (HMO.out.om q hqb)
          have HMl := hide (HMO.out.lm.trans HN.out)
          have HLS := hide fun (h : t.getD q false = false) => Ma.left_set hqt h
          have HW2 := hide ((HW1.out.setT q).setB (q : Int))
          obtain ⟨d1, d2, f4⟩ := (HW1.out.setT q).getL
          have HC := hide (ix_any (c := d) (x := (q : Int)) HMl.out (by omega) (HB.out.below HW2.out.1))
          rw [HIX.out] at HC
          clear hqt hqb r2 HIX
          generalize Ma.fit F top q = fq at *
          generalize hto : t.getD q false = tb at *
          cases fq
          · have H1 := hide (HNX.out (by simp))
            clear hto
            go_wp2_with fail
            go_roundg (M - (q + 1))
            case measure => omega
            case rel => exact ⟨q + 1, rfl, by go_num, rfl, by omega, rfl, H1⟩
          · cases tb
            · have hls := HLS.out rfl
              rcases HOM.out with ho | ⟨k, hk, ho, _⟩
              · have H1 := hide (HFound.out (by simp) (by omega))
                rw [ho] at HC
                have HE : Hid (((W1.setCell ⟨w.heap.size, q, none⟩ (.bool true)).setCell ⟨g, p * 2 + 1, none⟩ (.int .i64 (q : Int))).ownsRow w.heap.size 66 2 (.slice (some ⟨g, 0, none⟩) L C) (LK.getD []).length (wc (casts (LK.getD [])))) := hide (by
                  have hLp := HLp.out
                  have h1 := HW2.out.2.2.1
                  rw [H1.out]
                  simp only [Option.getD_some]
                  rw [← hLp] at h1
                  rw [show casts (st.reverse ++ [(top, q)]) = casts st.reverse ++ [((top : Int), (q : Int))] by simp [casts], show (st.reverse ++ [(top, q)]).length = L by simp [HS.out.2.2.2.1, hLp]]
                  exact h1)
                have HBE := hide HW2.out.1
                clear hto hls ho
                go_wp2_with fail
                refine HC.out.mono ?_
                rintro e w1 ⟨rfl, rfl⟩
                go_wp2_with fail
                rw [Exit.noGoto_ret]
                go_ret
                exact ⟨.slice (some ⟨g, 0, none⟩) L C, rfl, HBE.out, HE.out⟩
              · rw [ho] at HC
                obtain ⟨f', hf'⟩ : ∃ f', f = f' + 1 := ⟨f - 1, by have := HS.out.2.2.1; omega⟩
                have H1 := hide (HDown.out f' hf' (by simp) k ho)
                have k0 : ¬ (k : Int) < 0 := by omega
                clear hto ho
                go_wp2_with fail
                refine HC.out.mono ?_
                rintro e w2 ⟨rfl, hw2⟩
                have hW3 : WS w w2 w.heap.size M (t.set q true) g L C (casts st.reverse ++ [((top : Int), (q : Int))]) := by
                  rw [hw2, HLp.out]; exact HW2.out
                obtain ⟨g', C', w3, hr3, hW4⟩ := hW3.push (q := (k : Int)) (by omega)
                have HW4 := hide hW4
                clear hW3 hW4 hw2 HC HW2 HPop
                go_wp2_with (first | (at_builtin; refine Lib.wpList_append_run _ rfl _ _ _ _ rfl _ _ rfl rfl _ _ (hr3 _) ?_))
                go_roundg (2 * Ma.left (t.set q true) + (L + 1))
                case measure => have := HGK.out; omega
                case rel =>
                  refine ⟨L + 1, g', C', t.set q true, _, rfl, ?_, HW4, hide rfl, Or.inr ⟨p + 1, k, f', -1, (top, q) :: st, hide (by rw [HLp.out]), by rw [← HN.out]; exact hk, hide ⟨?_, H1.out, ?_, ?_, ?_, ?_⟩⟩⟩
                  · have := HS.out.2.2.2.2.1; have := HLp.out; omega
                  · simp [casts]
                  · have := HS.out.2.2.1; omega
                  · simp [HS.out.2.2.2.1]
                  · have := HS.out.2.2.2.2.1; omega
                  · intro z hz
                    rcases List.mem_cons.1 hz with rfl | hz
                    · exact htop
                    · exact HS.out.2.2.2.2.2 z hz
            · have H1 := hide (HNX.out (by simp))
              clear hto
              go_wp2_with fail
              go_roundg (M - (q + 1))
              case measure => omega
              case rel => exact ⟨q + 1, rfl, by go_num, rfl, by omega, rfl, H1⟩
        · have hqe : q = M := by omega
          subst hqe
          go_wp2_with fail
          go_roundg (2 * Ma.left t + p)
          case measure => have := HGK.out; have := HLp.out; omega
          case rel =>
            refine ⟨p, g, C, t, _, rfl, by have := HLp.out; omega, HPop, hide rfl, ?_⟩
            obtain ⟨s1, s2, s3, s4, s5, s6⟩ := HS.out
            have hall : ∀ c, c < Ma.bins F → (Ma.fit F top c && !t.getD c false) = false := by rw [HM.out]; exact HQ.out
            cases st with
            | nil => exact Or.inl ⟨s4.symm, hide (by rw [s2]; exact Ma.outc_end hall)⟩
            | cons z st =>
              refine Or.inr ⟨st.length, z.1, f + 1, (z.2 : Int), st, hide (by rw [← s4]; rfl), s6 z List.mem_cons_self, hide ⟨by simp [casts], by rw [s2]; exact Ma.outc_pop hall, by omega, rfl, by simp at s4; omega, fun y hy => s6 y (List.mem_cons_of_mem _ hy)⟩⟩
end Go.Proofs.Ytfmdahpldjkifaa
