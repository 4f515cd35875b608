/-
  What GoodGoods of the model answers.
-/
import Derived.Test.YtogkbidphdpjaaaDoorGq
namespace Go.Proofs.YtogkbidphdpjaaaDoor
open Go.RowKit

theorem goodsB_all {gs : List Gd} (h : ∀ i, i < gs.length → okG gs i = true) : goodsB gs = decide (gs.length ≤ 12) := by
  unfold goodsB
  rw [List.all_eq_true.2 fun i hi => h i (by simpa using hi), Bool.and_true]
theorem PBn (w : World) (v0 v1 : Value) (t : TypeId) : (w.alloc (.cells #[v0, v1] t)).cell? ⟨w.heap.size, 0, none⟩ = some v0 := by simp [go_sem]

theorem hasB_take {gs : List Gd} {x : ByteArray} {i k : Nat} (hi : i < k) (hk : k ≤ gs.length) (h : ((gs.getD i gd0).1.toList == x.toList) = true) : hasB (gs.take k) x = true :=
  hasB_of (i := i) (by simp; omega) (by rw [show (gs.take k).getD i gd0 = gs.getD i gd0 by simp [hi]]; exact h)
theorem hasB_none {gs : List Gd} {x : ByteArray} {k : Nat} (hk : k ≤ gs.length) (h : ∀ i, i < k → ((gs.getD i gd0).1.toList == x.toList) = false) : hasB (gs.take k) x = false :=
  hasB_no fun i hi => by
    have hi' : i < k := by simp at hi; omega
    rw [show (gs.take k).getD i gd0 = gs.getD i gd0 by simp [hi']]; exact h i hi'

theorem l3Name_eq {s : ByteArray} {w : World} {b : Bool} (hs : s.size ≤ 1048576) (h : Hid (nameB s = b)) :
    Calls Tryd.prog 43 #[.string s] w fun e w' => e = .returned (.bool b) ∧ w' = w := h.out ▸ l3Name_any s w (by omega)
set_option maxHeartbeats 8000000 in
set_option maxRecDepth 100000 in
theorem sgg_any {a : Option Addr} {n c : Nat} {gs : List Gd} {w : World} (hn : gs.length = n) (hn' : n ≤ 1048576) (hc : n ≤ c) (hs : Short gs) (h : GRow w a gs) :
    Calls Tryd.prog 34 #[.slice a n c] w fun e w' => e = .returned (.bool (goodsB gs)) ∧ Below w.heap.size w w' := by
  have H := hide h
  have HN := hide hn
  have HSh := hide hs
  clear h hn hs
  go_enter Tryd.func34, Tryd.ntmps34
  go_wp2_with fail
  go_loopw [2, 3, 4, 6, 9] (fun s2 _ _ _ s wr => ∃ k : Nat, s2 = .bool false ∧ s = .int .i64 k ∧ k ≤ n ∧ Hid (∀ i, i < k → okG gs i = true) ∧ Hid (Below w.heap.size w wr)) (fun _ _ _ _ s _ => n - (intOf s).toNat)
  case atStart => exact ⟨0, rfl, rfl, Nat.zero_le _, hide fun i hi => absurd hi (Nat.not_lt_zero _), hide (Below.refl _ _)⟩
  case round =>
    obtain ⟨k, rfl, rfl, hk, HA, HBl⟩ := hrel
    by_cases hlt : k < n
    · obtain ⟨b, off, rfl, hb, r1, r2⟩ := (H.out.below HBl.out).at (i := k) (by rw [HN.out]; exact hlt)
      have i0 : (0 : Int) ≤ (k : Int) := by omega
      have i1 : (k : Int) < (n : Int) := by omega
      have i2 : (k : Int) ≤ (n : Int) := by omega
      have i3 : (k : Int) ≤ (c : Int) := by omega
      have hsz := HSh.out k
      have hklen : k < gs.length := by rw [HN.out]; exact hlt
      have HOK : Hid (okG gs k = true → ∀ i, i < k + 1 → okG gs i = true) := hide fun he i hi => by
        by_cases e : i = k
        · subst e; exact he
        · exact HA.out i (by omega)
      have HN1 := hide (fun (h : okG gs k = false) => goodsB_not hklen h)
      have O1 := hide (@okG_n1 gs k)
      have O2 := hide (@okG_n2 gs k)
      have O3 := hide (@okG_n3 gs k)
      have O4 := hide (@okG_y gs k)
      generalize (gs.getD k gd0).1 = x at *
      generalize (gs.getD k gd0).2 = z at *
      have hBz := HBl.out.size
      have bn := (Below.refl wr.heap.size wr).alloc (Nat.le_refl _) (.cells #[.string x, .int .i64 z] 47)
      have HBn := hide (HBl.out.trans (bn.mono hBz))
      have HCV := hide (PBn wr (.string x) (.int .i64 z) 47)
      have HSV := hide (World.size_alloc wr (.cells #[.string x, .int .i64 z] 47))
      clear bn hklen
      cases hnm : nameB x
      · have HF := hide (HN1.out (O1.out hnm))
        have HNM := hide hnm
        clear hnm
        go_wp2_with ((go_at_call 43; refine (l3Name_eq hsz HNM).mono ?_; rintro e w1 ⟨rfl, rfl⟩))
        go_ret
        exact ⟨ret_bool HF.out.symm, HBn.out⟩
      · have HNM := hide hnm
        cases hin : Pf.inB z 1 100
        · have HF := hide (HN1.out (O2.out hin))
          clear hnm
          go_wp2_with (first
            | (go_at_call 43; refine (l3Name_eq hsz HNM).mono ?_; rintro e w1 ⟨rfl, rfl⟩)
            | (go_at_call 33; refine (in_eq hin).mono ?_; rintro e w1 ⟨rfl, rfl⟩))
          go_ret
          exact ⟨ret_bool HF.out.symm, HBn.out⟩
        · have HF3 := hide (fun (h : hasB (gs.take k) x = true) => HN1.out (O3.out h))
          have HF4 := hide (fun (h : hasB (gs.take k) x = false) => HOK.out (O4.out hnm hin h))
          clear hnm
          go_wp2_with (first
            | (go_at_call 43; refine (l3Name_eq hsz HNM).mono ?_; rintro e w1 ⟨rfl, rfl⟩)
            | (go_at_call 33; refine (in_eq hin).mono ?_; rintro e w1 ⟨rfl, rfl⟩))
          clear HN1 HOK O1 O2 O3 O4
          generalize wr.alloc (.cells #[.string x, .int .i64 z] 47) = W1 at *
          generalize wr.heap.size = V at *
          go_loopw [2, 6, 28] (fun s2 _ s wr => ∃ j : Nat, s2 = .bool false ∧ s = .int .i64 j ∧ j ≤ k ∧ Hid (∀ i, i < j → ((gs.getD i gd0).1.toList == x.toList) = false) ∧ Hid (Below W1.heap.size W1 wr)) (fun _ _ s _ => k - (intOf s).toNat)
          case atStart => exact ⟨0, rfl, rfl, Nat.zero_le _, hide fun i hi => absurd hi (Nat.not_lt_zero _), hide (Below.refl _ _)⟩
          case round =>
            obtain ⟨j, rfl, rfl, hj, HJ, HBj⟩ := hrel
            have hSV := HSV.out
            have hBw := HBn.out.trans (HBj.out.mono HBn.out.size)
            by_cases hjk : j < k
            · obtain ⟨b', off', hab, hb', t1, t2⟩ := (H.out.below hBw).at (i := j) (by rw [HN.out]; omega)
              cases hab
              have j0 : (0 : Int) ≤ (j : Int) := by omega
              have j1 : (j : Int) < (k : Int) := by omega
              have hVl : V < wr.heap.size := by have := HBj.out.size; omega
              have hV := (HBj.out.cell (p := ⟨V, 0, none⟩) (show V < W1.heap.size by omega)).trans HCV.out
              have hVa : ∀ o : Obj, (wr.alloc o).cell? ⟨V, 0, none⟩ = some (.string x) := fun o => ((((Below.refl _ _).alloc (Nat.le_refl _) o)).cell (p := ⟨V, 0, none⟩) hVl).trans hV
              generalize hy : (gs.getD j gd0).1 = y at t1
              generalize (gs.getD j gd0).2 = zz at t2
              have bn2 := (Below.refl wr.heap.size wr).alloc (Nat.le_refl _) (.cells #[.string y, .int .i64 zz] 47)
              have HB2 := hide (HBj.out.trans (bn2.mono HBj.out.size))
              have HB3 := hide (hBw.trans (bn2.mono hBw.size))
              clear bn2 hSV
              cases he : (y.toList == x.toList)
              · have HJ' : Hid (∀ i, i < j + 1 → ((gs.getD i gd0).1.toList == x.toList) = false) := hide fun i hi => by
                  by_cases e : i = j
                  · subst e; rw [hy]; exact he
                  · exact HJ.out i (by omega)
                clear hy hBw
                go_wp2_with fail
                go_roundw
                case rel => exact ⟨j + 1, rfl, by go_num, by omega, HJ', HB2⟩
                case measure => simp only [intOf]; omega
              · have HR := hide (HF3.out (hasB_take (i := j) hjk (by rw [HN.out]; omega) (by rw [hy]; exact he)))
                clear hy hBw
                go_wp2_with fail
                go_ret
                exact ⟨ret_bool HR.out.symm, HB3.out⟩
            · have hje : j = k := by omega
              subst hje
              have HR := hide (HF4.out (hasB_none (by rw [HN.out]; omega) HJ.out))
              have HBW := hide hBw
              clear hBw
              go_wp2_with fail
              go_roundw
              case rel => exact ⟨j + 1, rfl, by go_num, by omega, HR, HBW⟩
              case measure => simp only [intOf]; omega
    · have hke : k = n := by omega
      subst hke
      have HY := hide (goodsB_all (fun i hi => HA.out i (by rw [← HN.out]; exact hi)))
      rw [HN.out] at HY
      by_cases h12 : k ≤ 12
      · have h12' : (k : Int) ≤ 12 := by omega
        go_wp2_with fail
        go_ret
        exact ⟨ret_bool (by rw [HY.out]; simp [h12]), HBl.out⟩
      · have h12' : ¬ (k : Int) ≤ 12 := by omega
        go_wp2_with fail
        go_ret
        exact ⟨ret_bool (by rw [HY.out]; simp [h12]), HBl.out⟩
end Go.Proofs.YtogkbidphdpjaaaDoor
