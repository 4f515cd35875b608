/-
  What GoodSheet of the model answers.
-/
import Derived.Test.YtogkbidphdpjaaaDoorGr
import Derived.Test.YtogkbidphdpjaaaDoorNa
namespace Go.Proofs.YtogkbidphdpjaaaDoor
open Go.RowKit

def sheetB (gs : List Gd) (ls : List (Int × Int)) : Bool := goodsB gs && linesB gs.length ls
theorem sheetB_no {gs : List Gd} {ls : List (Int × Int)} {i : Nat} (hi : i < ls.length) (h : lineB gs.length (ls.getD i (0, 0)) = false) : sheetB gs ls = false := by
  rw [sheetB, linesB_not hi h, Bool.and_false]
theorem sheetB_all {gs : List Gd} {ls : List (Int × Int)} (h : ∀ i, i < ls.length → lineB gs.length (ls.getD i (0, 0)) = true) : sheetB gs ls = (goodsB gs && decide (ls.length ≤ 80)) := by
  rw [sheetB]
  by_cases h8 : ls.length ≤ 80
  · rw [linesB_of h8 h]; simp [h8]
  · rw [linesB_many (by omega)]; simp [h8]
set_option maxHeartbeats 2000000 in
theorem sgsh_any {a a' : Option Addr} {n c n' c' : Nat} {gs : List Gd} {ls : List (Int × Int)} {w : World} (hn : gs.length = n) (hn1 : n ≤ 1048576) (hc : n ≤ c) (hs : Short gs) (h : GRow w a gs)
    (hl : ls.length = n') (hl1 : n' ≤ 1048576) (hc' : n' ≤ c') (h' : LRow w a' ls) :
    Calls Tryd.prog 16 #[.agg #[.slice a n c, .slice a' n' c']] w fun e w' => e = .returned (.bool (sheetB gs ls)) ∧ Below w.heap.size w w' := by
  have H := hide h
  have H' := hide h'
  have HN := hide hn
  have HL := hide hl
  have HSh := hide hs
  clear h h' hn hl hs
  go_enter Tryd.func16, Tryd.ntmps16
  go_wp2_with fail
  have HB1 := hide ((Below.refl w.heap.size w).alloc (Nat.le_refl _) (.cells #[.slice a n c, .slice a' n' c'] 32))
  have HV0 : Hid ((w.alloc (.cells #[.slice a n c, .slice a' n' c'] 32)).cell? ⟨w.heap.size, 0, none⟩ = some (.slice a n c)) := hide (by simp [go_sem])
  have HV1 : Hid ((w.alloc (.cells #[.slice a n c, .slice a' n' c'] 32)).cell? ⟨w.heap.size, 1, none⟩ = some (.slice a' n' c')) := hide (by simp [go_sem])
  have HVl := hide (World.size_alloc w (.cells #[.slice a n c, .slice a' n' c'] 32))
  generalize w.alloc (.cells #[.slice a n c, .slice a' n' c'] 32) = W1 at *
  generalize hVV : w.heap.size = V at *
  have HR := hide (H.out.keep (w' := W1) (by have := HB1.out.size; omega) fun b hb => HB1.out.block b (by omega))
  have HR' : Hid (LRow W1 a' ls) := hide (H'.out.below (by rw [hVV]; exact HB1.out))
  go_loopw [2, 4, 8] (fun s2 _ s wr => ∃ k : Nat, s2 = .bool false ∧ s = .int .i64 k ∧ k ≤ n' ∧ Hid (∀ i, i < k → lineB gs.length (ls.getD i (0, 0)) = true) ∧ Hid (Below W1.heap.size W1 wr)) (fun _ _ s _ => n' - (intOf s).toNat)
  case atStart => exact ⟨0, rfl, rfl, Nat.zero_le _, hide fun i hi => absurd hi (Nat.not_lt_zero _), hide (Below.refl _ _)⟩
  case round =>
    obtain ⟨k, rfl, rfl, hk, HA, HBl⟩ := hrel
    have hSV := HVl.out
    have hBz := HBl.out.size
    have hV0 := (HBl.out.cell (p := ⟨V, 0, none⟩) (show V < W1.heap.size by omega)).trans HV0.out
    have hV1 := (HBl.out.cell (p := ⟨V, 1, none⟩) (show V < W1.heap.size by omega)).trans HV1.out
    have hVl : V < wr.heap.size := by omega
    have HBW : Hid (Below V w wr) := hide (HB1.out.trans (HBl.out.mono (by have := HB1.out.size; omega)))
    by_cases hlt : k < n'
    · obtain ⟨b, off, rfl, hb, r1, r2⟩ := (HR'.out.below HBl.out).at (i := k) (by rw [HL.out]; exact hlt)
      have i0 : (0 : Int) ≤ (k : Int) := by omega
      have i1 : (k : Int) < (n' : Int) := by omega
      have hklen : k < ls.length := by rw [HL.out]; exact hlt
      have HNO := hide (fun h => sheetB_no (gs := gs) hklen h)
      have HOK : Hid (lineB gs.length (ls.getD k (0, 0)) = true → ∀ i, i < k + 1 → lineB gs.length (ls.getD i (0, 0)) = true) := hide fun he i hi => by
        by_cases e : i = k
        · subst e; exact he
        · exact HA.out i (by omega)
      generalize ls.getD k (0, 0) = x at *
      obtain ⟨x1, x2⟩ := x
      have HLB : Hid (lineB gs.length (x1, x2) = (Pf.inB x1 0 ((n : Int) - 1) && Pf.inB x2 1 99)) := hide (by rw [HN.out]; rfl)
      have hVa : ∀ o : Obj, (wr.alloc o).cell? ⟨V, 0, none⟩ = some (.slice a n c) := fun o => (((Below.refl _ _).alloc (Nat.le_refl _) o).cell (p := ⟨V, 0, none⟩) hVl).trans hV0
      have bn := (Below.refl wr.heap.size wr).alloc (Nat.le_refl _) (.cells #[.int .i64 x1, .int .i64 x2] 50)
      have HBn := hide (HBl.out.trans (bn.mono hBz))
      have HBm := hide (HBW.out.trans (bn.mono (by omega)))
      clear bn hklen HA hSV
      by_cases h0 : x1 < 0
      · have HF := hide (HNO.out (by rw [HLB.out]; simp [Pf.inB]; omega))
        go_wp2_with fail
        go_ret
        exact ⟨ret_bool HF.out.symm, by first | exact HBm.out | (rw [hVV]; exact HBm.out)⟩
      · by_cases h1 : (n : Int) ≤ x1
        · have HF := hide (HNO.out (by rw [HLB.out]; simp [Pf.inB]; omega))
          go_wp2_with fail
          go_ret
          exact ⟨ret_bool HF.out.symm, by first | exact HBm.out | (rw [hVV]; exact HBm.out)⟩
        · cases h2 : Pf.inB x2 1 99
          · have HF := hide (HNO.out (by rw [HLB.out, h2, Bool.and_false]))
            go_wp2_with ((go_at_call 33; refine (in_eq h2).mono ?_; rintro e w1 ⟨rfl, rfl⟩))
            go_ret
            exact ⟨ret_bool HF.out.symm, by first | exact HBm.out | (rw [hVV]; exact HBm.out)⟩
          · have HG := hide (HOK.out (by rw [HLB.out, h2, Bool.and_true]; exact Pf.inB_of (by omega) (by omega)))
            go_wp2_with ((go_at_call 33; refine (in_eq h2).mono ?_; rintro e w1 ⟨rfl, rfl⟩))
            go_round
            case rel => exact ⟨k + 1, rfl, by go_num, by omega, HG, HBn⟩
            case measure => simp only [intOf]; omega
    · have hke : k = n' := by omega
      have HK := hide (sheetB_all (gs := gs) (ls := ls) fun i hi => HA.out i (by rw [HL.out] at hi; omega))
      have HRr := HR.out.below HBl.out
      have hn := HN.out
      have hl := HL.out
      clear HA
      subst hke
      rw [hl] at HK
      cases hg : goodsB gs
      · have HF : Hid (sheetB gs ls = false) := hide (by rw [HK.out, hg]; rfl)
        have sg := sgg_any hn hn1 hc HSh.out HRr
        rw [hg] at sg
        have SG := hide sg
        clear sg HRr hn hl
        go_wp2_with ((go_at_call 34; refine SG.out.mono ?_; rintro e w1 ⟨rfl, hw1⟩; have HW1 := hide hw1; clear hw1))
        go_ret
        have HZ := HBW.out.trans (HW1.out.mono (by omega))
        exact ⟨by first | exact ret_bool HF.out.symm | exact ret_bool (by rw [HF.out]; exact decide_eq_false (by omega)), by first | exact HZ | (rw [hVV]; exact HZ)⟩
      · have sg := sgg_any hn hn1 hc HSh.out HRr
        rw [hg] at sg
        have SG := hide sg
        clear sg HRr hn hl
        by_cases h8 : k ≤ 80
        · have HF : Hid (sheetB gs ls = true) := hide (by rw [HK.out, hg]; simp [h8])
          have h8' : (k : Int) ≤ 80 := by omega
          go_wp2_with ((go_at_call 34; refine SG.out.mono ?_; rintro e w1 ⟨rfl, hw1⟩; have hv1 := (hw1.cell (p := ⟨V, 1, none⟩) hVl).trans hV1; have HW1 := hide hw1; clear hw1))
          go_ret
          have HZ := HBW.out.trans (HW1.out.mono (by omega))
          exact ⟨by first | exact ret_bool HF.out.symm | exact ret_bool (by rw [HF.out]; exact decide_eq_false (by omega)), by first | exact HZ | (rw [hVV]; exact HZ)⟩
        · have HF : Hid (sheetB gs ls = false) := hide (by rw [HK.out, hg]; simp [h8])
          have h8' : ¬ (k : Int) ≤ 80 := by omega
          go_wp2_with ((go_at_call 34; refine SG.out.mono ?_; rintro e w1 ⟨rfl, hw1⟩; have hv1 := (hw1.cell (p := ⟨V, 1, none⟩) hVl).trans hV1; have HW1 := hide hw1; clear hw1))
          go_ret
          have HZ := HBW.out.trans (HW1.out.mono (by omega))
          exact ⟨by first | exact ret_bool HF.out.symm | exact ret_bool (by rw [HF.out]; exact decide_eq_false (by omega)), by first | exact HZ | (rw [hVV]; exact HZ)⟩
end Go.Proofs.YtogkbidphdpjaaaDoor
