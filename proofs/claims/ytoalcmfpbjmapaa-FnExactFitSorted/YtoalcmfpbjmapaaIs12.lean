/-
  What l12Fill and l12Numbers of the model answer: their walks.
-/
import Derived.Test.YtoalcmfpbjmapaaIr12
import Derived.BigQuiet
import Derived.Deep.DeepCutAuto
namespace Go.Proofs.Ytoalcmfpbjmapaa
open Go.RowKit

set_option maxHeartbeats 1000000 in
theorem ln_any {n : Nat} {w : World} (hn : n ≤ 1000) :
    Calls Try.prog 32 #[.int .i64 n] w fun e w' => ∃ a c, e = .returned (.slice a n c) ∧ ARow w' a ((List.range n).map fun (i : Nat) => (i : Int)) ∧ Below w.heap.size w w' := by
  go_enter Try.func32, Try.ntmps32
  go_wp2_with fail
  go_loopw [3, 4] (fun v s wr => ∃ k : Nat, s = .int .i64 k ∧ k ≤ n ∧ Hid (wr.ownsRow w.heap.size 3 1 v k (ints ((List.range k).map fun (i : Nat) => (i : Int)))) ∧ Hid (Below w.heap.size w wr)) (fun _ s _ => n - (intOf s).toNat)
  case atStart => exact ⟨0, rfl, Nat.zero_le _, hide (World.ownsRow_nil _ _ _ _), hide (Below.refl _ _)⟩
  case round =>
    obtain ⟨k, rfl, hk, HO, HB⟩ := hrel
    by_cases hlt : k < n
    · have i1 : (k : Int) < (n : Int) := by omega
      obtain ⟨av, cv, hv⟩ := own_form2 HO.out
      subst hv
      obtain ⟨v', w', hr, own', hg⟩ := push_int (x := (k : Int)) HO.out (by omega) HB.out.size
      have HO' : Hid (w'.ownsRow w.heap.size 3 1 v' (k + 1) (ints ((List.range (k + 1)).map fun (i : Nat) => (i : Int)))) := hide (by rw [List.range_succ, List.map_append, List.map_cons, List.map_nil, ints_snoc]; exact own')
      have HB' := hide (HB.out.trans (grown_under' hg HO.out (Nat.le_refl _) HB.out.size))
      clear own' hg HO
      go_wp2_with (first | (at_builtin; refine Lib.wpList_append_run _ rfl _ _ _ _ rfl _ _ rfl rfl _ _ (hr _) ?_))
      go_roundw
      case rel => exact ⟨k + 1, by go_num, by omega, HO', HB'⟩
      case measure => simp only [intOf]; omega
    · have hke : k = n := by omega
      subst hke
      obtain ⟨av, cv, hv, hr⟩ := own_row (by simp) HO.out
      subst hv
      have HR := hide hr
      clear hr HO
      go_wp2_with fail
      go_ret
      exact ⟨av, cv, rfl, HR.out, HB.out⟩
set_option maxRecDepth 100000 in
set_option maxHeartbeats 8000000 in
theorem lf_any {a ao : Option Addr} {n m c d : Nat} {l : List Int} {xs : List (Int × Int)} {w : World} (hx : l.length = n) (_hn : n ≤ 900) (hm : xs.length = m) (hm9 : m ≤ 900) (hxs : ∀ x ∈ xs, 0 ≤ x.1 ∧ x.1 < (n : Int) ∧ l.getD x.1.toNat 0 = x.2) (hsz : ∀ x ∈ xs, 1 ≤ x.2 ∧ x.2 ≤ 20) (ha : ARow w a l) (ho : ARow w ao (xs.map Prod.fst)) :
    Calls Try.prog 31 #[.slice a n c, .slice ao m d] w fun e w' => ∃ v us, e = .returned v ∧ LL w' w.heap.size 22 3 1 ints v us (It.nums (It.fill xs)) ∧ Below w.heap.size w w' := by
  have HA := hide fun (W : World) (h : Below w.heap.size w W) => ha.below h
  have HO := hide fun (W : World) (h : Below w.heap.size w W) => ho.below h
  have HX := hide hx
  have HM := hide hm
  have HXS := hide hxs
  have HSZ := hide hsz
  have HFI := hide (It.fi_all hsz)
  clear hx hm hxs hsz ha ho
  go_enter Try.func31, Try.ntmps31
  go_wp2_with fail
  go_loopw [5, 6, 8, 9, 12] (fun s5 s6 _ _ s12 wr => ∃ (j : Nat) (us : List Value), s12 = .int .i64 j ∧ j ≤ m ∧ Hid (FS wr w.heap.size s5 s6 us (It.fillTo xs j)) ∧ Hid (Below w.heap.size w wr)) (fun _ _ _ _ s12 _ => m - (intOf s12).toNat)
  case atStart => exact ⟨0, [], rfl, Nat.zero_le _, hide (FS.nil _ _ (Nat.le_refl _)), hide (Below.refl _ _)⟩
  case round =>
    obtain ⟨j, us, rfl, hj, HFS, HB⟩ := hrel
    by_cases hlt : j < m
    · have i0 : (0 : Int) ≤ (j : Int) := by omega
      have i1 : (j : Int) < (m : Int) := by omega
      have hjl : j < xs.length := by rw [HM.out]; exact hlt
      obtain ⟨bo, oo, eo, q1⟩ := (HO.out _ HB.out).at (i := j) (by simpa using hjl)
      subst eo
      have hmem : xs.getD j (0, 0) ∈ xs := by simp [hjl]
      obtain ⟨x1, x2, x3⟩ := HXS.out _ hmem
      obtain ⟨x4, x5⟩ := HSZ.out _ hmem
      have FIj := HFI.out j (by omega)
      have HST := hide (It.fillTo_succ hjl)
      rw [show (xs.map Prod.fst).getD j 0 = (xs.getD j (0, 0)).1 by simp [hjl]] at q1
      generalize hxe : xs.getD j (0, 0) = x at *
      obtain ⟨xk, xs2⟩ := x
      simp only at *
      obtain ⟨xi, rfl⟩ : ∃ xi : Nat, xk = (xi : Int) := ⟨xk.toNat, by omega⟩
      rw [Int.toNat_natCast] at x3
      generalize hBe : It.fillTo xs j = B at *
      have hfew := FIj.few
      have HFJ := hide FIj
      obtain ⟨a5, c5, e5⟩ := own_form2 HFS.out.1.1
      obtain ⟨a6, c6, e6⟩ := own_form2 HFS.out.2.1
      subst e5 e6
      rw [It.nums_len] at HFS ⊢
      obtain ⟨N, hN⟩ : ∃ N, B.length = N := ⟨_, rfl⟩
      have HN := hide hN
      rw [hN] at HFS hfew ⊢
      have hxi : xi < n := by omega
      have y0 : (0 : Int) ≤ (xi : Int) := by omega
      have y1 : (xi : Int) < (n : Int) := by omega
      clear hxe hBe hmem FIj hN
      go_wp2_with fail
      go_loopw [9] (fun s9 wq => ∃ i : Nat, s9 = .int .i64 i ∧ i ≤ N ∧ Hid (∀ t, t < i → ¬ xs2 ≤ It.rm (B.getD t [])) ∧ Hid (FS wq w.heap.size (.slice a5 N c5) (.slice a6 N c6) us B) ∧ Hid (Below w.heap.size w wq)) (fun s9 _ => N - (intOf s9).toNat)
      case atStart => exact ⟨0, rfl, Nat.zero_le _, hide fun t ht => absurd ht (Nat.not_lt_zero _), HFS, HB⟩
      case round =>
        clear HFS HB q1
        obtain ⟨i, rfl, hi, HNO, HFS, HB⟩ := hrel
        obtain ⟨bl, ol, el, ql⟩ := (HA.out _ HB.out).at (i := xi) (by rw [HX.out]; exact hxi)
        subst el
        rw [x3] at ql
        by_cases hiN : i < N
        · have own5 := HFS.out.1.1
          rw [It.nums_len, HN.out] at own5
          obtain ⟨G, cap, e5, _, _⟩ := own5.form (by omega)
          cases e5
          have own6 := HFS.out.2.1
          rw [HN.out] at own6
          obtain ⟨gl, capl, e6, _, _⟩ := own6.form (by omega)
          cases e6
          have hiB : i < (It.ext B i).length := It.ext_at (by rw [HN.out]; omega)
          have q6 : wr.cell? ⟨gl, i, none⟩ = some (.int .i64 (It.rm (B.getD i []))) := by rw [own6.cellAt i (by omega), ints_get _ i (by rw [It.rooms_len, HN.out]; exact hiN), It.rooms_at (by rw [HN.out]; exact hiN)]
          have j0 : (0 : Int) ≤ (i : Int) := by omega
          have j1 : (i : Int) < (N : Int) := by omega
          clear own6 own5
          by_cases hrm : It.rm (B.getD i []) < xs2
          · have HN1 : Hid (∀ t, t < i + 1 → ¬ xs2 ≤ It.rm (B.getD t [])) := hide fun t ht => by
              by_cases e : t = i
              · subst e; omega
              · exact HNO.out t (by omega)
            generalize It.rm (B.getD i []) = rr at *
            clear HNO
            go_upto_region 7 with fail
            go_quiet (fail)
            have HF2 := hide (HFS.out.below (below_drewN (Below.refl _ _) nq))
            have HB2 := hide (below_drewN HB.out nq)
            go_wp2_with fail
            go_roundw
            case rel => exact ⟨i + 1, by go_num, by omega, HN1, HF2, HB2⟩
            case measure => simp only [intOf]; omega
          · have HAT : Hid (It.atI B xs2 = i) := hide (It.at_yes (by rw [HN.out]; exact hiN) (by omega) HNO.out)
            have HEB : Hid (It.ext B i = B) := hide (by unfold It.ext; rw [if_pos (by rw [HN.out]; exact hiN)])
            have HEX := hide (It.fi_ext HFJ.out i)
            rw [HEB.out] at HEX hiB
            have HLN := HN
            have hine : ((i : Int) == (N : Int)) = false := by simp; omega
            have hine' : ¬ (i : Int) = (N : Int) := by omega
            generalize hrg : It.rm (B.getD i []) = rg at q6 hrm
            clear hrg
            go_upto_region 7 with fail
            go_quiet (fail)
            have HF2 := hide (HFS.out.below (below_drewN (Below.refl _ _) nq))
            have HBW := hide (below_drewN HB.out nq)
            clear q6 ql
            obtain ⟨ar, len, cr, a1, c1, w1, g2, cap2, w2, hS⟩ := FS.store (x := ((xi : Int), xs2)) HF2.out HLN.out hiN (by have := (HEX.out i hiB).1; omega)
            obtain ⟨r0, r1⟩ := (HEX.out i hiB).2
            have hr2 := r1.1
            have BW3 := hide (HBW.out.trans (hS.b3.mono (Nat.le_refl _)))
            have BW4 := hide (HBW.out.trans (hS.b4.mono (Nat.le_refl _)))
            obtain ⟨bl3, ol3, el3, ql3⟩ := (HA.out _ BW3.out).at (i := xi) (by rw [HX.out]; exact hxi)
            cases el3
            rw [x3] at ql3
            have hfs := hS.fs
            have HFS4 := hide (hfs.below ((Below.refl _ _).drew))
            clear hfs
            have k0 := hS.c0
            have k1 := hS.r1
            have k2 := hS.r2
            have k3 := hS.c2
            have k4 := hS.f2
            have k5 := hS.c3
            have k6 := hS.f3
            have HPL : Hid (It.fillTo xs (j + 1) = (B).set i ((B).getD i [] ++ [((xi : Int), xs2)])) := hide (by rw [HST.out]; unfold It.place; rw [HAT.out, HEB.out])
            generalize hrr : It.rm (B.getD i []) = rr at *
            have hws : IntKind.i64.wrap (rr - xs2) = rr - xs2 := by rw [IntKind.wrap_i64]; omega
            have j0 : (0 : Int) ≤ (i : Int) := by omega
            have j1 : (i : Int) < ((N : Nat) : Int) := by omega
            clear hS HF2 HBW r1 hrr HNO HFS HB
            go_upto_region 12 with fail
            go_upto_region 13 with (first | (at_builtin; refine Lib.wpList_append_run _ rfl (.tmp 45) (.tmp 49) 22 22 rfl _ _ rfl rfl _ _ (k1 _) ?_) | (at_builtin; refine Lib.wpList_append_run _ rfl (.tmp 50) (.tmp 52) 22 22 rfl _ _ rfl rfl _ _ (k2 _) ?_))
            clear k0 k1 k2 k3 k4
            go_region
            have BW5 := hide (BW4.out.drew)
            go_wp2_with fail
            go_roundw
            case rel => exact ⟨j + 1, _, by go_num, by omega, hide (by rw [HPL.out]; exact HFS4.out), BW5⟩
            case measure => simp only [intOf]; omega
        · obtain rfl : i = N := by omega
          have hii : ((i : Int) == (i : Int)) = true := by simp
          have hil : ¬ (i : Int) < (i : Int) := by omega
          have HAT : Hid (It.atI B xs2 = i) := hide (by rw [← HN.out]; exact It.at_no (fun t ht => HNO.out t (by rw [HN.out] at ht; exact ht)))
          have HEB : Hid (It.ext B i = B ++ [[]]) := hide (by unfold It.ext; rw [if_neg (by rw [HN.out]; omega)])
          have hiB : i < (It.ext B i).length := It.ext_at (by rw [HN.out]; omega)
          have HEX := hide (It.fi_ext HFJ.out i)
          rw [HEB.out] at HEX hiB
          have HLN : Hid ((B ++ [[]]).length = i + 1) := hide (by rw [List.length_append, HN.out]; rfl)
          go_upto_region 7 with fail
          go_quiet (fail)
          have HFq := hide (HFS.out.below (below_drewN (Below.refl _ _) nq))
          have HBq := hide (below_drewN HB.out nq)
          obtain ⟨G, cap, v1, gl, capl, v2, p1, p2, fs2, bb2⟩ := HFq.out.push (by rw [HN.out]; omega)
          rw [HN.out] at p1 p2 fs2
          have HF2 := hide fs2
          have HBW := hide (HBq.out.trans bb2)
          have hiN : i < i + 1 := by omega
          clear fs2 bb2 ql
          go_upto_region 10 with fail
          go_upto_region 12 with (first | (at_builtin; refine Lib.wpList_append_run _ rfl (.tmp 37) (.tmp 38) 26 26 rfl _ _ rfl rfl _ _ (p1 _) ?_) | (at_builtin; refine Lib.wpList_append_run _ rfl (.tmp 40) (.tmp 41) 22 22 rfl _ _ rfl rfl _ _ (p2 _) ?_))
          clear p1 p2
          obtain ⟨ar, len, cr, a1, c1, w1, g2, cap2, w2, hS⟩ := FS.store (x := ((xi : Int), xs2)) HF2.out HLN.out hiN (by have := (HEX.out i hiB).1; omega)
          obtain ⟨r0, r1⟩ := (HEX.out i hiB).2
          have hr2 := r1.1
          have BW3 := hide (HBW.out.trans (hS.b3.mono (Nat.le_refl _)))
          have BW4 := hide (HBW.out.trans (hS.b4.mono (Nat.le_refl _)))
          obtain ⟨bl3, ol3, el3, ql3⟩ := (HA.out _ BW3.out).at (i := xi) (by rw [HX.out]; exact hxi)
          cases el3
          rw [x3] at ql3
          have hfs := hS.fs
          have HFS4 := hide (hfs.below ((Below.refl _ _).drew))
          clear hfs
          have k0 := hS.c0
          have k1 := hS.r1
          have k2 := hS.r2
          have k3 := hS.c2
          have k4 := hS.f2
          have k5 := hS.c3
          have k6 := hS.f3
          have HPL : Hid (It.fillTo xs (j + 1) = ((B ++ [[]])).set i (((B ++ [[]])).getD i [] ++ [((xi : Int), xs2)])) := hide (by rw [HST.out]; unfold It.place; rw [HAT.out, HEB.out])
          generalize hrr : It.rm ((B ++ [[]]).getD i []) = rr at *
          have hws : IntKind.i64.wrap (rr - xs2) = rr - xs2 := by rw [IntKind.wrap_i64]; omega
          have j0 : (0 : Int) ≤ (i : Int) := by omega
          have j1 : (i : Int) < ((i + 1 : Nat) : Int) := by omega
          clear hS HF2 HBW r1 hrr HNO HFS HB
          go_upto_region 13 with (first | (at_builtin; refine Lib.wpList_append_run _ rfl (.tmp 45) (.tmp 49) 22 22 rfl _ _ rfl rfl _ _ (k1 _) ?_) | (at_builtin; refine Lib.wpList_append_run _ rfl (.tmp 50) (.tmp 52) 22 22 rfl _ _ rfl rfl _ _ (k2 _) ?_))
          clear k0 k1 k2 k3 k4
          go_region
          have BW5 := hide (BW4.out.drew)
          go_wp2_with fail
          go_roundw
          case rel => exact ⟨j + 1, _, by go_num, by omega, hide (by rw [HPL.out]; exact HFS4.out), BW5⟩
          case measure => simp only [intOf]; omega
    · have hke : j = m := by omega
      subst hke
      have HE : Hid (LL wr w.heap.size 22 3 1 ints u5 us (It.nums (It.fill xs))) := hide (by
        have := HFS.out.1
        rwa [It.fillTo_all xs (by rw [HM.out]; exact Nat.le_refl _)] at this)
      clear HFS
      go_wp2_with fail
      go_ret
      exact ⟨u5, us, rfl, HE.out, HB.out⟩
end Go.Proofs.Ytoalcmfpbjmapaa
