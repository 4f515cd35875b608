/-
  What IsCover answers, the program's and the model's.
-/
import Derived.Test.YtfmdahpldjkifaaJf
namespace Go.Proofs.Ytfmdahpldjkifaa
open Go.RowKit

theorem icI_cov {F : List (List Bool)} {ls bs : List Int} (h : Ma.icB F ls bs = true) : Ma.icI F ls bs = Ma.covB F ls bs := by unfold Ma.icI; rw [if_pos h]
theorem covAt_no {F : List (List Bool)} {ls bs : List Int} {l b : Nat} (h : Ma.fit F l b = false) : Ma.covAt F ls bs l b = true := by unfold Ma.covAt; rw [h]; rfl
theorem covAt_ld {F : List (List Bool)} {ls bs : List Int} {l b : Nat} (h : ls.contains (l : Int) = true) : Ma.covAt F ls bs l b = true := by unfold Ma.covAt; rw [h]; simp
theorem covAt_yes {F : List (List Bool)} {ls bs : List Int} {l b : Nat} (h : Ma.fit F l b = true) (h1 : ls.contains (l : Int) = false) : Ma.covAt F ls bs l b = bs.contains (b : Int) := by unfold Ma.covAt; rw [h, h1]; rfl
theorem covB_not {F : List (List Bool)} {ls bs : List Int} {l b : Nat} (hl : l < F.length) (hb : b < Ma.bins F) (h : Ma.covAt F ls bs l b = false) : Ma.covB F ls bs = false := Ma.all_not hl (Ma.all_not hb h)
set_option maxRecDepth 100000 in
set_option maxHeartbeats 2000000 in
theorem ic_no {a b c : Option Addr} {n k l x y z : Nat} {F : List (List Bool)} {ls bs : List Int} {w : World} (hn : F.length = n) (_hn' : n ≤ 1048576) (hk : ls.length = k) (hk' : k ≤ 1048576) (hl : bs.length = l) (hl' : l ≤ 1048576) (ha : GRow w a F) (hb : ARow w b ls) (hc : ARow w c bs) (hG : Ma.icB F ls bs = false) :
    Calls Try.prog 22 #[.slice a n x, .slice b k y, .slice c l z] w fun e w' => e = .returned (.tuple #[.bool false, .bool false]) ∧ w' = w := by
  have HA := hide ha
  have HN := hide hn
  have HB := hide hb
  have HK := hide hk
  have HC := hide hc
  have HL := hide hl
  cases hg : Ma.goodB F
  · have HG := hide hg
    clear ha hb hc hn hk hl hg hG
    go_enter Try.func22, Try.ntmps22
    go_wp2_with fail
    refine (gf_eq HN HA HG).mono ?_
    rintro e w1 ⟨rfl, rfl⟩
    go_wp2_with fail
    go_ret2
    exact ⟨rfl, rfl⟩
  · have HG := hide hg
    have n8 : n ≤ 1000 := by have := Ma.goodB_len hg; omega
    have m8 : Ma.bins F ≤ 1000 := by have := Ma.goodB_bins hg; omega
    cases hr : Ma.riseB ls n
    · have HR := hide hr
      clear ha hb hc hn hk hl hg hG hr
      go_enter Try.func22, Try.ntmps22
      go_wp2_with fail
      refine (gf_eq HN HA HG).mono ?_
      rintro e w1 ⟨rfl, rfl⟩
      go_wp2_with fail
      refine (ri_eq HK hk' n8 HB HR).mono ?_
      rintro e w1 ⟨rfl, rfl⟩
      go_wp2_with fail
      go_ret2
      exact ⟨rfl, rfl⟩
    · have hr2 : Ma.riseB bs (Ma.bins F) = false := by
        unfold Ma.icB at hG
        rw [hn, hg, hr] at hG
        exact hG
      have HR := hide hr
      have HR2 := hide hr2
      have HBI := hide (bi_any (c := x) hn ha)
      generalize Ma.bins F = M at *
      clear ha hb hc hn hk hl hg hG hr hr2
      go_enter Try.func22, Try.ntmps22
      go_wp2_with fail
      refine (gf_eq HN HA HG).mono ?_
      rintro e w1 ⟨rfl, rfl⟩
      go_wp2_with fail
      refine (ri_eq HK hk' n8 HB HR).mono ?_
      rintro e w1 ⟨rfl, rfl⟩
      go_wp2_with fail
      refine HBI.out.mono ?_
      rintro e w1 ⟨rfl, rfl⟩
      go_wp2_with fail
      refine (ri_eq HL hl' m8 HC HR2).mono ?_
      rintro e w1 ⟨rfl, rfl⟩
      go_wp2_with fail
      go_ret2
      exact ⟨rfl, rfl⟩
set_option maxRecDepth 100000 in
set_option maxHeartbeats 4000000 in
theorem ic_yes {a b c : Option Addr} {n k l x y z : Nat} {F : List (List Bool)} {ls bs : List Int} {w : World} (hn : F.length = n) (_hn' : n ≤ 1048576) (hk : ls.length = k) (hk' : k ≤ 1000) (hl : bs.length = l) (hl' : l ≤ 1000) (ha : GRow w a F) (hb : ARow w b ls) (hc : ARow w c bs) (hG : Ma.icB F ls bs = true) :
    Calls Try.prog 22 #[.slice a n x, .slice b k y, .slice c l z] w fun e w' => e = .returned (.tuple #[.bool (Ma.covB F ls bs), .bool true]) ∧ w' = w := by
  have HA := hide ha
  have HN := hide hn
  have HB := hide hb
  have HK := hide hk
  have HC := hide hc
  have HL := hide hl
  have hgg : Ma.goodB F = true ∧ Ma.riseB ls n = true ∧ Ma.riseB bs (Ma.bins F) = true := by
    unfold Ma.icB at hG
    rw [hn] at hG
    simpa using hG
  obtain ⟨hg, hr, hr2⟩ := hgg
  have HG := hide hg
  have n8 : n ≤ 1000 := by have := Ma.goodB_len hg; omega
  have m8 : Ma.bins F ≤ 1000 := by have := Ma.goodB_bins hg; omega
  have HR := hide hr
  have HR2 := hide hr2
  have HBI := hide (bi_any (c := x) hn ha)
  have HRow := hide fun (i : Nat) (hi : i < n) => Ma.goodB_row hg (show i < F.length by rw [hn]; exact hi)
  have HNOT := hide fun (i j : Nat) (hi : i < n) (hj : j < Ma.bins F) => covB_not (ls := ls) (bs := bs) (show i < F.length by rw [hn]; exact hi) hj
  have HOF := hide (show (∀ i, i < n → (List.range (Ma.bins F)).all (Ma.covAt F ls bs i) = true) → Ma.covB F ls bs = true from fun h => Ma.all_of (by rw [hn]; exact h))
  generalize Ma.bins F = M at *
  clear ha hb hc hn hk hl hg hG hr hr2
  go_enter Try.func22, Try.ntmps22
  go_wp2_with fail
  refine (gf_eq HN HA HG).mono ?_
  rintro e w1 ⟨rfl, hw1⟩
  obtain rfl : w = w1 := hw1.symm
  go_wp2_with fail
  refine (ri_eq HK (by omega) n8 HB HR).mono ?_
  rintro e w1 ⟨rfl, hw1⟩
  obtain rfl : w = w1 := hw1.symm
  go_wp2_with fail
  refine HBI.out.mono ?_
  rintro e w1 ⟨rfl, hw1⟩
  obtain rfl : w = w1 := hw1.symm
  go_wp2_with fail
  refine (ri_eq HL (by omega) m8 HC HR2).mono ?_
  rintro e w1 ⟨rfl, hw1⟩
  obtain rfl : w = w1 := hw1.symm
  clear HBI
  go_wp2_with fail
  go_loop [6, 7, 8, 9, 10, 11, 31] (fun s6 s7 _ _ _ _ s => ∃ (i : Nat), s6 = .bool false ∧ s7 = .bool false ∧ s = .int .i64 i ∧ i ≤ n ∧ Hid (∀ j, j < i → (List.range M).all (Ma.covAt F ls bs j) = true)) (fun _ _ _ _ _ _ s => n - (intOf s).toNat)
  case atStart => exact ⟨0, rfl, rfl, rfl, Nat.zero_le _, hide fun i hi => absurd hi (Nat.not_lt_zero _)⟩
  case round =>
    obtain ⟨i, rfl, rfl, rfl, hi, HI⟩ := hrel
    by_cases hlt : i < n
    · obtain ⟨ba, oa, ai, ci, rfl, _, r2, R2⟩ := HA.out.at (i := i) (by rw [HN.out]; exact hlt)
      rw [HRow.out i hlt] at r2
      have RR := hide R2
      have HLr := hide (HRow.out i hlt)
      have i0 : (0 : Int) ≤ (i : Int) := by omega
      have i1 : (i : Int) < (n : Int) := by omega
      have HYE := hide fun (h : (List.range M).all (Ma.covAt F ls bs i) = true) => show ∀ j, j < i + 1 → (List.range M).all (Ma.covAt F ls bs j) = true from fun j hj => by
          by_cases e : j = i
          · subst e; exact h
          · exact HI.out j (by omega)
      clear R2
      go_wp2_with fail
      go_loop [6, 7, 10, 11, 38] (fun s6 s7 _ _ s => ∃ (j : Nat), s6 = .bool false ∧ s7 = .bool false ∧ s = .int .i64 j ∧ j ≤ M ∧ Hid (∀ q, q < j → Ma.covAt F ls bs i q = true)) (fun _ _ _ _ s => M - (intOf s).toNat)
      case atStart => exact ⟨0, rfl, rfl, rfl, Nat.zero_le _, hide fun i hi => absurd hi (Nat.not_lt_zero _)⟩
      case round =>
        obtain ⟨j, rfl, rfl, rfl, hj, HJ⟩ := hrel
        by_cases hjm : j < M
        · obtain ⟨br, orr, rfl, _, r3⟩ := RR.out.at (i := j) (by rw [HLr.out]; exact hjm)
          have r3' : w.cell? ⟨br, orr + j, none⟩ = some (.bool (Ma.fit F i j)) := r3
          have j0 : (0 : Int) ≤ (j : Int) := by omega
          have j1 : (j : Int) < (M : Int) := by omega
          have HNO := hide (HNOT.out i j hlt hjm)
          have HJE := hide fun (h : Ma.covAt F ls bs i j = true) => show ∀ q, q < j + 1 → Ma.covAt F ls bs i q = true from fun q hq => by
            by_cases e : q = j
            · subst e; exact h
            · exact HJ.out q (by omega)
          have HX1 := hide fun (h : Ma.fit F i j = false) => covAt_no (ls := ls) (bs := bs) h
          have HX2 := hide fun (h : ls.contains (i : Int) = true) => covAt_ld (F := F) (bs := bs) (b := j) h
          have HX3 := hide fun (h : Ma.fit F i j = true) (h1 : ls.contains (i : Int) = false) => covAt_yes (bs := bs) h h1
          clear r3
          generalize Ma.fit F i j = fq at *
          cases fq
          · have H1 := hide (HJE.out (HX1.out rfl))
            go_wp2_with fail
            go_round
            case rel => exact ⟨j + 1, rfl, rfl, by go_num, by omega, H1⟩
            case measure => simp only [intOf]; omega
          · cases h1 : ls.contains (i : Int)
            · have HX4 := hide (HX3.out rfl h1)
              have HS1 := hide h1
              cases h2 : bs.contains (j : Int)
              · have H1 := hide (HNO.out (HX4.out.trans h2))
                have HS2 := hide h2
                clear h1 h2
                go_wp2_with fail
                refine (con_eq HK (by omega) HB HS1).mono ?_
                rintro e w1 ⟨rfl, hw1⟩
                obtain rfl : w = w1 := hw1.symm
                go_wp2_with fail
                refine (con_eq HL (by omega) HC HS2).mono ?_
                rintro e w1 ⟨rfl, hw1⟩
                obtain rfl : w = w1 := hw1.symm
                go_wp2_with fail
                go_ret2
                exact ⟨by rw [H1.out]; rfl, rfl⟩
              · have H1 := hide (HJE.out (HX4.out.trans h2))
                have HS2 := hide h2
                clear h1 h2
                go_wp2_with fail
                refine (con_eq HK (by omega) HB HS1).mono ?_
                rintro e w1 ⟨rfl, hw1⟩
                obtain rfl : w = w1 := hw1.symm
                go_wp2_with fail
                refine (con_eq HL (by omega) HC HS2).mono ?_
                rintro e w1 ⟨rfl, hw1⟩
                obtain rfl : w = w1 := hw1.symm
                go_wp2_with fail
                go_round
                case rel => exact ⟨j + 1, rfl, rfl, by go_num, by omega, H1⟩
                case measure => simp only [intOf]; omega
            · have H1 := hide (HJE.out (HX2.out h1))
              have HS1 := hide h1
              clear h1
              go_wp2_with fail
              refine (con_eq HK (by omega) HB HS1).mono ?_
              rintro e w1 ⟨rfl, hw1⟩
              obtain rfl : w = w1 := hw1.symm
              go_wp2_with fail
              go_round
              case rel => exact ⟨j + 1, rfl, rfl, by go_num, by omega, H1⟩
              case measure => simp only [intOf]; omega
        · have hje : j = M := by omega
          subst hje
          have H1 := hide (HYE.out (Ma.all_of HJ.out))
          go_wp2_with fail
          go_round
          case rel => exact ⟨i + 1, rfl, rfl, by go_num, by omega, H1⟩
          case measure => simp only [intOf]; omega
    · have hke : i = n := by omega
      subst hke
      have H1 := hide (HOF.out HI.out)
      go_wp2_with fail
      go_ret2
      exact ⟨by rw [H1.out]; rfl, rfl⟩
theorem ic_any {a b c : Option Addr} {n k l x y z : Nat} {F : List (List Bool)} {ls bs : List Int} {w : World} (hn : F.length = n) (hn' : n ≤ 1048576) (hk : ls.length = k) (hk' : k ≤ 1048576) (hl : bs.length = l) (hl' : l ≤ 1048576) (ha : GRow w a F) (hb : ARow w b ls) (hc : ARow w c bs) :
    Calls Try.prog 22 #[.slice a n x, .slice b k y, .slice c l z] w fun e w' => e = .returned (.tuple #[.bool (Ma.icI F ls bs), .bool (Ma.icB F ls bs)]) ∧ w' = w := by
  unfold Ma.icI
  cases hg : Ma.icB F ls bs
  · exact ic_no hn hn' hk hk' hl hl' ha hb hc hg
  · obtain ⟨l1, l2⟩ := Ma.icB_len hg
    exact ic_yes hn hn' hk (by omega) hl (by omega) ha hb hc hg
set_option maxRecDepth 100000 in
set_option maxHeartbeats 2000000 in
theorem sic_no {a b c : Option Addr} {n k l x y z : Nat} {F : List (List Bool)} {ls bs : List Int} {w : World} (hn : F.length = n) (_hn' : n ≤ 1048576) (hk : ls.length = k) (hk' : k ≤ 1048576) (hl : bs.length = l) (hl' : l ≤ 1048576) (ha : GRow w a F) (hb : ARow w b ls) (hc : ARow w c bs) (hG : Ma.icB F ls bs = false) :
    Calls Try.prog 24 #[.slice a n x, .slice b k y, .slice c l z] w fun e w' => e = .returned (.tuple #[.bool false, .bool false]) ∧ w' = w := by
  have HA := hide ha
  have HN := hide hn
  have HB := hide hb
  have HK := hide hk
  have HC := hide hc
  have HL := hide hl
  cases hg : Ma.goodB F
  · have HG := hide hg
    clear ha hb hc hn hk hl hg hG
    go_enter Try.func24, Try.ntmps24
    go_wp2_with fail
    refine (sgf_eq HN _hn' HA HG).mono ?_
    rintro e w1 ⟨rfl, rfl⟩
    go_wp2_with fail
    go_ret2
    exact ⟨rfl, rfl⟩
  · have HG := hide hg
    have n8 : n ≤ 1000 := by have := Ma.goodB_len hg; omega
    have m8 : Ma.bins F ≤ 1000 := by have := Ma.goodB_bins hg; omega
    cases hr : Ma.riseB ls n
    · have HR := hide hr
      clear ha hb hc hn hk hl hg hG hr
      go_enter Try.func24, Try.ntmps24
      go_wp2_with fail
      refine (sgf_eq HN _hn' HA HG).mono ?_
      rintro e w1 ⟨rfl, rfl⟩
      go_wp2_with fail
      refine (sri_eq HK hk' HB HR).mono ?_
      rintro e w1 ⟨rfl, rfl⟩
      go_wp2_with fail
      go_ret2
      exact ⟨rfl, rfl⟩
    · have hr2 : Ma.riseB bs (Ma.bins F) = false := by
        unfold Ma.icB at hG
        rw [hn, hg, hr] at hG
        exact hG
      have HR := hide hr
      have HR2 := hide hr2
      have HBI := hide (sbi_any (c := x) hn ha)
      generalize Ma.bins F = M at *
      clear ha hb hc hn hk hl hg hG hr hr2
      go_enter Try.func24, Try.ntmps24
      go_wp2_with fail
      refine (sgf_eq HN _hn' HA HG).mono ?_
      rintro e w1 ⟨rfl, rfl⟩
      go_wp2_with fail
      refine (sri_eq HK hk' HB HR).mono ?_
      rintro e w1 ⟨rfl, rfl⟩
      go_wp2_with fail
      refine HBI.out.mono ?_
      rintro e w1 ⟨rfl, rfl⟩
      go_wp2_with fail
      refine (sri_eq HL hl' HC HR2).mono ?_
      rintro e w1 ⟨rfl, rfl⟩
      go_wp2_with fail
      go_ret2
      exact ⟨rfl, rfl⟩
set_option maxRecDepth 100000 in
set_option maxHeartbeats 4000000 in
theorem sic_yes {a b c : Option Addr} {n k l x y z : Nat} {F : List (List Bool)} {ls bs : List Int} {w : World} (hn : F.length = n) (_hn' : n ≤ 1048576) (hk : ls.length = k) (hk' : k ≤ 1000) (hl : bs.length = l) (hl' : l ≤ 1000) (ha : GRow w a F) (hb : ARow w b ls) (hc : ARow w c bs) (hG : Ma.icB F ls bs = true) :
    Calls Try.prog 24 #[.slice a n x, .slice b k y, .slice c l z] w fun e w' => e = .returned (.tuple #[.bool (Ma.covB F ls bs), .bool true]) ∧ w' = w := by
  have HA := hide ha
  have HN := hide hn
  have HB := hide hb
  have HK := hide hk
  have HC := hide hc
  have HL := hide hl
  have hgg : Ma.goodB F = true ∧ Ma.riseB ls n = true ∧ Ma.riseB bs (Ma.bins F) = true := by
    unfold Ma.icB at hG
    rw [hn] at hG
    simpa using hG
  obtain ⟨hg, hr, hr2⟩ := hgg
  have HG := hide hg
  have n8 : n ≤ 1000 := by have := Ma.goodB_len hg; omega
  have m8 : Ma.bins F ≤ 1000 := by have := Ma.goodB_bins hg; omega
  have HR := hide hr
  have HR2 := hide hr2
  have HBI := hide (sbi_any (c := x) hn ha)
  have HRow := hide fun (i : Nat) (hi : i < n) => Ma.goodB_row hg (show i < F.length by rw [hn]; exact hi)
  have HNOT := hide fun (i j : Nat) (hi : i < n) (hj : j < Ma.bins F) => covB_not (ls := ls) (bs := bs) (show i < F.length by rw [hn]; exact hi) hj
  have HOF := hide (show (∀ i, i < n → (List.range (Ma.bins F)).all (Ma.covAt F ls bs i) = true) → Ma.covB F ls bs = true from fun h => Ma.all_of (by rw [hn]; exact h))
  generalize Ma.bins F = M at *
  clear ha hb hc hn hk hl hg hG hr hr2
  go_enter Try.func24, Try.ntmps24
  go_wp2_with fail
  refine (sgf_eq HN _hn' HA HG).mono ?_
  rintro e w1 ⟨rfl, hw1⟩
  obtain rfl : w = w1 := hw1.symm
  go_wp2_with fail
  refine (sri_eq HK (by omega) HB HR).mono ?_
  rintro e w1 ⟨rfl, hw1⟩
  obtain rfl : w = w1 := hw1.symm
  go_wp2_with fail
  refine HBI.out.mono ?_
  rintro e w1 ⟨rfl, hw1⟩
  obtain rfl : w = w1 := hw1.symm
  go_wp2_with fail
  refine (sri_eq HL (by omega) HC HR2).mono ?_
  rintro e w1 ⟨rfl, hw1⟩
  obtain rfl : w = w1 := hw1.symm
  clear HBI
  go_wp2_with fail
  go_loop [6, 7, 8, 9, 10, 11, 31] (fun s6 s7 _ _ _ _ s => ∃ (i : Nat), s6 = .bool false ∧ s7 = .bool false ∧ s = .int .i64 i ∧ i ≤ n ∧ Hid (∀ j, j < i → (List.range M).all (Ma.covAt F ls bs j) = true)) (fun _ _ _ _ _ _ s => n - (intOf s).toNat)
  case atStart => exact ⟨0, rfl, rfl, rfl, Nat.zero_le _, hide fun i hi => absurd hi (Nat.not_lt_zero _)⟩
  case round =>
    obtain ⟨i, rfl, rfl, rfl, hi, HI⟩ := hrel
    by_cases hlt : i < n
    · obtain ⟨ba, oa, ai, ci, rfl, _, r2, R2⟩ := HA.out.at (i := i) (by rw [HN.out]; exact hlt)
      rw [HRow.out i hlt] at r2
      have RR := hide R2
      have HLr := hide (HRow.out i hlt)
      have i0 : (0 : Int) ≤ (i : Int) := by omega
      have i1 : (i : Int) < (n : Int) := by omega
      have HYE := hide fun (h : (List.range M).all (Ma.covAt F ls bs i) = true) => show ∀ j, j < i + 1 → (List.range M).all (Ma.covAt F ls bs j) = true from fun j hj => by
          by_cases e : j = i
          · subst e; exact h
          · exact HI.out j (by omega)
      clear R2
      go_wp2_with fail
      go_loop [6, 7, 10, 11, 38] (fun s6 s7 _ _ s => ∃ (j : Nat), s6 = .bool false ∧ s7 = .bool false ∧ s = .int .i64 j ∧ j ≤ M ∧ Hid (∀ q, q < j → Ma.covAt F ls bs i q = true)) (fun _ _ _ _ s => M - (intOf s).toNat)
      case atStart => exact ⟨0, rfl, rfl, rfl, Nat.zero_le _, hide fun i hi => absurd hi (Nat.not_lt_zero _)⟩
      case round =>
        obtain ⟨j, rfl, rfl, rfl, hj, HJ⟩ := hrel
        by_cases hjm : j < M
        · obtain ⟨br, orr, rfl, _, r3⟩ := RR.out.at (i := j) (by rw [HLr.out]; exact hjm)
          have r3' : w.cell? ⟨br, orr + j, none⟩ = some (.bool (Ma.fit F i j)) := r3
          have j0 : (0 : Int) ≤ (j : Int) := by omega
          have j1 : (j : Int) < (M : Int) := by omega
          have HNO := hide (HNOT.out i j hlt hjm)
          have HJE := hide fun (h : Ma.covAt F ls bs i j = true) => show ∀ q, q < j + 1 → Ma.covAt F ls bs i q = true from fun q hq => by
            by_cases e : q = j
            · subst e; exact h
            · exact HJ.out q (by omega)
          have HX1 := hide fun (h : Ma.fit F i j = false) => covAt_no (ls := ls) (bs := bs) h
          have HX2 := hide fun (h : ls.contains (i : Int) = true) => covAt_ld (F := F) (bs := bs) (b := j) h
          have HX3 := hide fun (h : Ma.fit F i j = true) (h1 : ls.contains (i : Int) = false) => covAt_yes (bs := bs) h h1
          clear r3
          generalize Ma.fit F i j = fq at *
          cases fq
          · have H1 := hide (HJE.out (HX1.out rfl))
            go_wp2_with fail
            go_round
            case rel => exact ⟨j + 1, rfl, rfl, by go_num, by omega, H1⟩
            case measure => simp only [intOf]; omega
          · cases h1 : ls.contains (i : Int)
            · have HX4 := hide (HX3.out rfl h1)
              have HS1 := hide h1
              cases h2 : bs.contains (j : Int)
              · have H1 := hide (HNO.out (HX4.out.trans h2))
                have HS2 := hide h2
                clear h1 h2
                go_wp2_with fail
                refine (has7_eq HK (by omega) HB HS1).mono ?_
                rintro e w1 ⟨rfl, hw1⟩
                obtain rfl : w = w1 := hw1.symm
                go_wp2_with fail
                refine (has7_eq HL (by omega) HC HS2).mono ?_
                rintro e w1 ⟨rfl, hw1⟩
                obtain rfl : w = w1 := hw1.symm
                go_wp2_with fail
                go_ret2
                exact ⟨by rw [H1.out]; rfl, rfl⟩
              · have H1 := hide (HJE.out (HX4.out.trans h2))
                have HS2 := hide h2
                clear h1 h2
                go_wp2_with fail
                refine (has7_eq HK (by omega) HB HS1).mono ?_
                rintro e w1 ⟨rfl, hw1⟩
                obtain rfl : w = w1 := hw1.symm
                go_wp2_with fail
                refine (has7_eq HL (by omega) HC HS2).mono ?_
                rintro e w1 ⟨rfl, hw1⟩
                obtain rfl : w = w1 := hw1.symm
                go_wp2_with fail
                go_round
                case rel => exact ⟨j + 1, rfl, rfl, by go_num, by omega, H1⟩
                case measure => simp only [intOf]; omega
            · have H1 := hide (HJE.out (HX2.out h1))
              have HS1 := hide h1
              clear h1
              go_wp2_with fail
              refine (has7_eq HK (by omega) HB HS1).mono ?_
              rintro e w1 ⟨rfl, hw1⟩
              obtain rfl : w = w1 := hw1.symm
              go_wp2_with fail
              go_round
              case rel => exact ⟨j + 1, rfl, rfl, by go_num, by omega, H1⟩
              case measure => simp only [intOf]; omega
        · have hje : j = M := by omega
          subst hje
          have H1 := hide (HYE.out (Ma.all_of HJ.out))
          go_wp2_with fail
          go_round
          case rel => exact ⟨i + 1, rfl, rfl, by go_num, by omega, H1⟩
          case measure => simp only [intOf]; omega
    · have hke : i = n := by omega
      subst hke
      have H1 := hide (HOF.out HI.out)
      go_wp2_with fail
      go_ret2
      exact ⟨by rw [H1.out]; rfl, rfl⟩
theorem sic_any {a b c : Option Addr} {n k l x y z : Nat} {F : List (List Bool)} {ls bs : List Int} {w : World} (hn : F.length = n) (hn' : n ≤ 1048576) (hk : ls.length = k) (hk' : k ≤ 1048576) (hl : bs.length = l) (hl' : l ≤ 1048576) (ha : GRow w a F) (hb : ARow w b ls) (hc : ARow w c bs) :
    Calls Try.prog 24 #[.slice a n x, .slice b k y, .slice c l z] w fun e w' => e = .returned (.tuple #[.bool (Ma.icI F ls bs), .bool (Ma.icB F ls bs)]) ∧ w' = w := by
  unfold Ma.icI
  cases hg : Ma.icB F ls bs
  · exact sic_no hn hn' hk hk' hl hl' ha hb hc hg
  · obtain ⟨l1, l2⟩ := Ma.icB_len hg
    exact sic_yes hn hn' hk (by omega) hl (by omega) ha hb hc hg
end Go.Proofs.Ytfmdahpldjkifaa
