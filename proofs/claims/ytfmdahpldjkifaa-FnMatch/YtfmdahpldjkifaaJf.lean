/-
  What IsMatching and IsCover answer, the program's and the model's.
-/
import Derived.Test.YtfmdahpldjkifaaJe
namespace Go.Proofs.Ytfmdahpldjkifaa
open Go.RowKit

theorem matAt_none {F : List (List Bool)} {m : List Int} {i : Nat} (h : (m.getD i 0 == -1) = true) : Ma.matAt F m i = true := by unfold Ma.matAt; rw [h]; rfl
theorem matAt_out {F : List (List Bool)} {m : List Int} {i : Nat} (h : (m.getD i 0 == -1) = false) (h1 : Pf.inB (m.getD i 0) 0 ((Ma.bins F : Int) - 1) = false) : Ma.matAt F m i = false := by unfold Ma.matAt; rw [h, h1]; rfl
theorem matAt_in {F : List (List Bool)} {m : List Int} {i b : Nat} (h : (m.getD i 0 == -1) = false) (h1 : Pf.inB (m.getD i 0) 0 ((Ma.bins F : Int) - 1) = true) (hb : m.getD i 0 = (b : Int)) : Ma.matAt F m i = (Ma.fit F i b && !(m.take i).contains (b : Int)) := by
  unfold Ma.matAt; rw [h, h1, hb]; simp
set_option maxRecDepth 100000 in
set_option maxHeartbeats 4000000 in
theorem ms_any {a b : Option Addr} {n k c d : Nat} {F : List (List Bool)} {m : List Int} {w : World} (hn : F.length = n) (hk : m.length = k) (hd : k ≤ d) (hG : Ma.goodB F = true) (ha : GRow w a F) (hb : ARow w b m) :
    Calls Try.prog 33 #[.slice a n c, .slice b k d] w fun e w' => e = .returned (.bool (Ma.matB F m)) ∧ w' = w := by
  by_cases hne : k = n
  · subst hne
    rw [Ma.matB_len (hk.trans hn.symm), hn]
    have HA := hide ha
    have HB := hide hb
    have HN := hide hn
    have HK := hide hk
    have k8 : k ≤ 8 := by rw [← hn]; exact Ma.goodB_len hG
    have hM8 := Ma.goodB_bins hG
    have HRow := hide fun (l : Nat) (hl : l < F.length) => Ma.goodB_row hG hl
    have he : ((k : Int) != (k : Int)) = false := by simp
    have HAO := hide fun (i : Nat) (h : (m.getD i 0 == -1) = false) => @matAt_out F m i h
    have HAI := hide fun (i q : Nat) (h : (m.getD i 0 == -1) = false) => @matAt_in F m i q h
    generalize Ma.bins F = M at *
    clear ha hb hn hk hG
    go_enter Try.func33, Try.ntmps33
    go_wp2_with fail
    go_loop [4, 5, 6, 14] (fun s4 _ _ s => ∃ (i : Nat), s4 = .bool false ∧ s = .int .i64 i ∧ i ≤ k ∧ Hid (∀ j, j < i → Ma.matAt F m j = true)) (fun _ _ _ s => k - (intOf s).toNat)
    case atStart => exact ⟨0, rfl, rfl, Nat.zero_le _, hide fun i hi => absurd hi (Nat.not_lt_zero _)⟩
    case round =>
      obtain ⟨i, rfl, rfl, hi, HI⟩ := hrel
      by_cases hlt : i < k
      · obtain ⟨bb, off, rfl, r1⟩ := HB.out.at (i := i) (by rw [HK.out]; exact hlt)
        obtain ⟨ba, oa, ai, ci, rfl, _, r2, R2⟩ := HA.out.at (i := i) (by rw [HN.out]; exact hlt)
        rw [HRow.out i (by rw [HN.out]; exact hlt)] at r2
        have RR := hide R2
        have HLr := hide (HRow.out i (by rw [HN.out]; exact hlt))
        have j0 : (0 : Int) ≤ (i : Int) := by omega
        have j1 : (i : Int) < (k : Int) := by omega
        have j2 : (i : Int) ≤ (d : Int) := by omega
        have HTL := hide (show (m.take i).length = i by rw [List.length_take, HK.out]; omega)
        have HTR := hide (HB.out.take i)
        have HNO := hide fun (h : Ma.matAt F m i = false) => Ma.all_not (p := Ma.matAt F m) hlt h
        have HYE := hide fun (h : Ma.matAt F m i = true) => show ∀ j, j < i + 1 → Ma.matAt F m j = true from fun j hj => by
          by_cases e : j = i
          · subst e; exact h
          · exact HI.out j (by omega)
        have HX1 := hide fun (h : (m.getD i 0 == -1) = true) => @matAt_none F m i h
        have HX2 := hide (HAO.out i)
        have HX3 := hide fun (q : Nat) => HAI.out i q
        clear R2
        generalize m.getD i 0 = x at *
        cases hx : (x == -1)
        · cases hb : Pf.inB x 0 ((M : Int) - 1)
          · have H1 := hide (HNO.out (HX2.out hx hb))
            go_wp2_with fail
            refine (between_eq hb).mono ?_
            rintro e w1 ⟨rfl, rfl⟩
            go_wp2_with fail
            go_ret
            exact ⟨ret_bool H1.out.symm, rfl⟩
          · obtain ⟨q, rfl⟩ : ∃ q : Nat, x = (q : Int) := ⟨x.toNat, by have := Pf.inB_yes hb; omega⟩
            have hq : q < M := by have := Pf.inB_yes hb; omega
            have q0 : (0 : Int) ≤ (q : Int) := by omega
            have q1 : (q : Int) < (M : Int) := by omega
            obtain ⟨br, orr, rfl, _, r3⟩ := RR.out.at (i := q) (by rw [HLr.out]; exact hq)
            have HX4 := hide (HX3.out q hx hb rfl)
            have r3' : w.cell? ⟨br, orr + q, none⟩ = some (.bool (Ma.fit F i q)) := r3
            clear r3
            generalize Ma.fit F i q = fq at *
            cases fq
            · have H1 := hide (HNO.out HX4.out)
              go_wp2_with fail
              refine (between_eq hb).mono ?_
              rintro e w1 ⟨rfl, rfl⟩
              go_wp2_with fail
              go_ret
              exact ⟨ret_bool H1.out.symm, rfl⟩
            · cases hs : (m.take i).contains (q : Int)
              · have H1 := hide (HYE.out (by rw [HX4.out, hs]; rfl))
                have HS := hide hs
                clear hs
                go_wp2_with fail
                refine (between_eq hb).mono ?_
                rintro e w1 ⟨rfl, rfl⟩
                go_wp2_with fail
                refine (con_eq HTL (by omega) HTR HS).mono ?_
                rintro e w1 ⟨rfl, rfl⟩
                go_wp2_with fail
                go_round
                case rel => exact ⟨i + 1, rfl, by go_num, by omega, H1⟩
                case measure => simp only [intOf]; omega
              · have H1 := hide (HNO.out (by rw [HX4.out, hs]; rfl))
                have HS := hide hs
                clear hs
                go_wp2_with fail
                refine (between_eq hb).mono ?_
                rintro e w1 ⟨rfl, rfl⟩
                go_wp2_with fail
                refine (con_eq HTL (by omega) HTR HS).mono ?_
                rintro e w1 ⟨rfl, rfl⟩
                go_wp2_with fail
                go_ret
                exact ⟨ret_bool H1.out.symm, rfl⟩
        · have H1 := hide (HYE.out (HX1.out hx))
          go_wp2_with fail
          go_round
          case rel => exact ⟨i + 1, rfl, by go_num, by omega, H1⟩
          case measure => simp only [intOf]; omega
      · have hke : i = k := by omega
        subst hke
        have H1 := hide (Ma.all_of HI.out)
        go_wp2_with fail
        go_ret
        exact ⟨ret_bool H1.out.symm, rfl⟩
  · rw [Ma.matB_ne (by omega)]
    have he : ((k : Int) != (n : Int)) = true := by simp; omega
    clear ha hb hn hk
    go_enter Try.func33, Try.ntmps33
    go_wp2_with fail
    go_ret
    exact ⟨rfl, rfl⟩
set_option maxRecDepth 100000 in
set_option maxHeartbeats 4000000 in
theorem sms_any {a b : Option Addr} {n k c d : Nat} {F : List (List Bool)} {m : List Int} {w : World} (hn : F.length = n) (hk : m.length = k) (hd : k ≤ d) (hG : Ma.goodB F = true) (ha : GRow w a F) (hb : ARow w b m) :
    Calls Try.prog 38 #[.slice a n c, .slice b k d] w fun e w' => e = .returned (.bool (Ma.matB F m)) ∧ w' = w := by
  by_cases hne : k = n
  · subst hne
    rw [Ma.matB_len (hk.trans hn.symm), hn]
    have HA := hide ha
    have HB := hide hb
    have HN := hide hn
    have HK := hide hk
    have k8 : k ≤ 8 := by rw [← hn]; exact Ma.goodB_len hG
    have hM8 := Ma.goodB_bins hG
    have HRow := hide fun (l : Nat) (hl : l < F.length) => Ma.goodB_row hG hl
    have he : ((k : Int) != (k : Int)) = false := by simp
    have HAO := hide fun (i : Nat) (h : (m.getD i 0 == -1) = false) => @matAt_out F m i h
    have HAI := hide fun (i q : Nat) (h : (m.getD i 0 == -1) = false) => @matAt_in F m i q h
    generalize Ma.bins F = M at *
    clear ha hb hn hk hG
    go_enter Try.func38, Try.ntmps38
    go_wp2_with fail
    go_loop [4, 5, 6, 14] (fun s4 _ _ s => ∃ (i : Nat), s4 = .bool false ∧ s = .int .i64 i ∧ i ≤ k ∧ Hid (∀ j, j < i → Ma.matAt F m j = true)) (fun _ _ _ s => k - (intOf s).toNat)
    case atStart => exact ⟨0, rfl, rfl, Nat.zero_le _, hide fun i hi => absurd hi (Nat.not_lt_zero _)⟩
    case round =>
      obtain ⟨i, rfl, rfl, hi, HI⟩ := hrel
      by_cases hlt : i < k
      · obtain ⟨bb, off, rfl, r1⟩ := HB.out.at (i := i) (by rw [HK.out]; exact hlt)
        obtain ⟨ba, oa, ai, ci, rfl, _, r2, R2⟩ := HA.out.at (i := i) (by rw [HN.out]; exact hlt)
        rw [HRow.out i (by rw [HN.out]; exact hlt)] at r2
        have RR := hide R2
        have HLr := hide (HRow.out i (by rw [HN.out]; exact hlt))
        have j0 : (0 : Int) ≤ (i : Int) := by omega
        have j1 : (i : Int) < (k : Int) := by omega
        have j2 : (i : Int) ≤ (d : Int) := by omega
        have HTL := hide (show (m.take i).length = i by rw [List.length_take, HK.out]; omega)
        have HTR := hide (HB.out.take i)
        have HNO := hide fun (h : Ma.matAt F m i = false) => Ma.all_not (p := Ma.matAt F m) hlt h
        have HYE := hide fun (h : Ma.matAt F m i = true) => show ∀ j, j < i + 1 → Ma.matAt F m j = true from fun j hj => by
          by_cases e : j = i
          · subst e; exact h
          · exact HI.out j (by omega)
        have HX1 := hide fun (h : (m.getD i 0 == -1) = true) => @matAt_none F m i h
        have HX2 := hide (HAO.out i)
        have HX3 := hide fun (q : Nat) => HAI.out i q
        clear R2
        generalize m.getD i 0 = x at *
        cases hx : (x == -1)
        · cases hb : Pf.inB x 0 ((M : Int) - 1)
          · have H1 := hide (HNO.out (HX2.out hx hb))
            have hxx := Pf.inB_no hb
            have hbb := hide hb
            clear hb
            by_cases hx0 : x < 0
            · go_wp2_with fail
              go_ret
              exact ⟨ret_bool H1.out.symm, rfl⟩
            · have hx1 : (M : Int) ≤ x := by omega
              go_wp2_with fail
              go_ret
              exact ⟨ret_bool H1.out.symm, rfl⟩
          · obtain ⟨q, rfl⟩ : ∃ q : Nat, x = (q : Int) := ⟨x.toNat, by have := Pf.inB_yes hb; omega⟩
            have hq : q < M := by have := Pf.inB_yes hb; omega
            have q0 : (0 : Int) ≤ (q : Int) := by omega
            have q1 : (q : Int) < (M : Int) := by omega
            obtain ⟨br, orr, rfl, _, r3⟩ := RR.out.at (i := q) (by rw [HLr.out]; exact hq)
            have HX4 := hide (HX3.out q hx hb rfl)
            have r3' : w.cell? ⟨br, orr + q, none⟩ = some (.bool (Ma.fit F i q)) := r3
            clear r3
            generalize Ma.fit F i q = fq at *
            cases fq
            · have H1 := hide (HNO.out HX4.out)
              have hx0 : ¬ (q : Int) < 0 := by omega
              have hx1 : ¬ (M : Int) ≤ (q : Int) := by omega
              have hx2 : ¬ M ≤ q := by omega
              go_wp2_with fail
              go_ret
              exact ⟨ret_bool H1.out.symm, rfl⟩
            · cases hs : (m.take i).contains (q : Int)
              · have H1 := hide (HYE.out (by rw [HX4.out, hs]; rfl))
                have HS := hide hs
                clear hs
                have hx0 : ¬ (q : Int) < 0 := by omega
                have hx1 : ¬ (M : Int) ≤ (q : Int) := by omega
                have hx2 : ¬ M ≤ q := by omega
                go_wp2_with fail
                refine (has7_eq HTL (by omega) HTR HS).mono ?_
                rintro e w1 ⟨rfl, rfl⟩
                go_wp2_with fail
                go_round
                case rel => exact ⟨i + 1, rfl, by go_num, by omega, H1⟩
                case measure => simp only [intOf]; omega
              · have H1 := hide (HNO.out (by rw [HX4.out, hs]; rfl))
                have HS := hide hs
                clear hs
                have hx0 : ¬ (q : Int) < 0 := by omega
                have hx1 : ¬ (M : Int) ≤ (q : Int) := by omega
                have hx2 : ¬ M ≤ q := by omega
                go_wp2_with fail
                refine (has7_eq HTL (by omega) HTR HS).mono ?_
                rintro e w1 ⟨rfl, rfl⟩
                go_wp2_with fail
                go_ret
                exact ⟨ret_bool H1.out.symm, rfl⟩
        · have H1 := hide (HYE.out (HX1.out hx))
          go_wp2_with fail
          go_round
          case rel => exact ⟨i + 1, rfl, by go_num, by omega, H1⟩
          case measure => simp only [intOf]; omega
      · have hke : i = k := by omega
        subst hke
        have H1 := hide (Ma.all_of HI.out)
        go_wp2_with fail
        go_ret
        exact ⟨ret_bool H1.out.symm, rfl⟩
  · rw [Ma.matB_ne (by omega)]
    have he : ((k : Int) != (n : Int)) = true := by simp; omega
    clear ha hb hn hk
    go_enter Try.func38, Try.ntmps38
    go_wp2_with fail
    go_ret
    exact ⟨rfl, rfl⟩
set_option maxRecDepth 100000 in
set_option maxHeartbeats 2000000 in
theorem im_any {a b : Option Addr} {n k c d : Nat} {F : List (List Bool)} {m : List Int} {w : World} (hn : F.length = n) (_hn' : n ≤ 1048576) (hk : m.length = k) (hd : k ≤ d) (ha : GRow w a F) (hb : ARow w b m) :
    Calls Try.prog 12 #[.slice a n c, .slice b k d] w fun e w' => e = .returned (.tuple #[.bool (Ma.imB F m), .bool (Ma.goodB F)]) ∧ w' = w := by
  unfold Ma.imB
  have HA := hide ha
  have HN := hide hn
  cases hg : Ma.goodB F
  · have HG := hide hg
    clear ha hb hn hk hg
    go_enter Try.func12, Try.ntmps12
    go_wp2_with fail
    refine (gf_eq HN HA HG).mono ?_
    rintro e w1 ⟨rfl, rfl⟩
    go_wp2_with fail
    go_ret2
    exact ⟨rfl, rfl⟩
  · have HG := hide hg
    have HC := hide (ms_any (c := c) hn hk hd hg ha hb)
    clear ha hb hn hk hg
    go_enter Try.func12, Try.ntmps12
    go_wp2_with fail
    refine (gf_eq HN HA HG).mono ?_
    rintro e w1 ⟨rfl, rfl⟩
    go_wp2_with fail
    refine HC.out.mono ?_
    rintro e w1 ⟨rfl, rfl⟩
    go_wp2_with fail
    go_ret2
    exact ⟨rfl, rfl⟩
set_option maxRecDepth 100000 in
set_option maxHeartbeats 2000000 in
theorem sim_any {a b : Option Addr} {n k c d : Nat} {F : List (List Bool)} {m : List Int} {w : World} (hn : F.length = n) (_hn' : n ≤ 1048576) (hk : m.length = k) (hd : k ≤ d) (ha : GRow w a F) (hb : ARow w b m) :
    Calls Try.prog 16 #[.slice a n c, .slice b k d] w fun e w' => e = .returned (.tuple #[.bool (Ma.imB F m), .bool (Ma.goodB F)]) ∧ w' = w := by
  unfold Ma.imB
  have HA := hide ha
  have HN := hide hn
  cases hg : Ma.goodB F
  · have HG := hide hg
    clear ha hb hn hk hg
    go_enter Try.func16, Try.ntmps16
    go_wp2_with fail
    refine (sgf_eq HN _hn' HA HG).mono ?_
    rintro e w1 ⟨rfl, rfl⟩
    go_wp2_with fail
    go_ret2
    exact ⟨rfl, rfl⟩
  · have HG := hide hg
    have HC := hide (sms_any (c := c) hn hk hd hg ha hb)
    clear ha hb hn hk hg
    go_enter Try.func16, Try.ntmps16
    go_wp2_with fail
    refine (sgf_eq HN _hn' HA HG).mono ?_
    rintro e w1 ⟨rfl, rfl⟩
    go_wp2_with fail
    refine HC.out.mono ?_
    rintro e w1 ⟨rfl, rfl⟩
    go_wp2_with fail
    go_ret2
    exact ⟨rfl, rfl⟩
end Go.Proofs.Ytfmdahpldjkifaa
